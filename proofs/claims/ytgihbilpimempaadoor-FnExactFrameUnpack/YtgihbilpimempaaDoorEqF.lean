/-
  Contract of laws.eqFrame where both are one frame; an own list of bytes fits its slice.
-/
import Derived.Test.YtgihbilpimempaaDoorFrBytes
namespace Go.Proofs.YtgihbilpimempaaDoor.fr
open Go.ChangeShapes Go.WideShapes Go.ChangeAt Go.RowKit
open Go.Proofs.YtgihbilpimempaaDoor.nb Go.Proofs.YtgihbilpimempaaDoor.wd Go.Proofs.YtgihbilpimempaaDoor.cp Go.Proofs.YtgihbilpimempaaDoor.ow

theorem own_fits {w0 w : World} {A : Option Addr} {n c : Nat} {l : List UInt8} (h : Own 5 w0 w (.slice A n c) (l.map bv)) : l.length ≤ c ∧ c ≤ maxLen := by
  rcases h.1.2 with ⟨e, h0⟩ | ⟨g, cap, cur, e, _, _, h1, h2, _⟩
  · injection e with e1 e2 e3
    have hn := h.1.1
    rw [List.length_map] at h0
    unfold maxLen
    omega
  · injection e with e1 e2 e3
    rw [List.length_map] at h1
    exact ⟨by omega, by omega⟩
set_option maxRecDepth 100000 in
set_option maxHeartbeats 1000000 in
theorem eqF_same (F : Fr) (w : World) : Calls Tryd.prog 17 #[frv F, frv F] w fun e w' => e = .returned (.bool true) ∧ Below w.heap.size w w' := by
  obtain ⟨k, s, d, f, n, t, u, z, m, x⟩ := F
  unfold frv
  simp only
  go_enter Tryd.func17, Tryd.ntmps17
  go_wp2
  go_ret
  exact ⟨rfl, ((Below.refl w.heap.size w).alloc (Nat.le_refl _) _).alloc (by simp) _⟩
end Go.Proofs.YtgihbilpimempaaDoor.fr
