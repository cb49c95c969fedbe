/-
  Bytes of the call's own, one of them written over: what they read as then.
-/
import Derived.Test.YtgihbilpimempaaDoorFrStr
import Derived.Test.YtgihbilpimempaaDoorSPack
import Derived.Test.YtgihbilpimempaaDoorFrLaw
namespace Go.Proofs.YtgihbilpimempaaDoor.fr
open Go.ChangeShapes Go.WideShapes Go.ChangeAt Go.RowKit
open Go.Proofs.YtgihbilpimempaaDoor.wd Go.Proofs.YtgihbilpimempaaDoor.cp Go.Proofs.YtgihbilpimempaaDoor.ow

theorem own_set {w0 w : World} {A : Option Addr} {n c : Nat} {l : List UInt8} (h : Own 5 w0 w (.slice A n c) (l.map bv)) {k : Nat} (hk : k < l.length) (b : UInt8) :
    ∃ g, A = some ⟨g, 0, none⟩ ∧ w0.heap.size ≤ g ∧ w.cell? ⟨g, k, none⟩ = some (.int .u8 (vl l k)) ∧ w.frozen? ⟨g, k, none⟩ = false ∧
      RowB (w.setCell ⟨g, k, none⟩ (.int .u8 (b.toNat : Int))) A (l.set k b) ∧ Below w0.heap.size w0 (w.setCell ⟨g, k, none⟩ (.int .u8 (b.toNat : Int))) ∧ n = l.length ∧ l.length ≤ c ∧ c ≤ maxLen := by
  obtain ⟨hn, hr⟩ := own_rowN h
  obtain ⟨g, o, e, hg, hc⟩ := hr (by omega)
  rcases h.1.2 with ⟨e', h0⟩ | ⟨g', cap, cur, e', hb, hh, h1, h2, _⟩
  · rw [List.length_map] at h0; omega
  · injection e' with e1 e2 e3
    subst e1
    injection e with e
    injection e with e4 e5
    subst e4; subst e5
    rw [List.length_map] at h1
    have hB : Blk w g' 5 cur := hh
    have hck : w.cell? ⟨g', k, none⟩ = some (.int .u8 (vl l k)) := by have := hc k hk; rwa [Nat.zero_add] at this
    refine ⟨g', rfl, hb, hck, hB.frozen k, fun hp => ⟨g', 0, rfl, by simpa using hg, fun j hj => ?_⟩, h.2.setCell (p := ⟨g', k, none⟩) hb _, hn, by omega, by omega⟩
    rw [List.length_set] at hj
    rw [Nat.zero_add]
    by_cases hjk : j = k
    · subst hjk
      rw [World.cell?_setCell_same _ _ _ hck, vl_set_same hj]
    · have := hc j hj
      rw [Nat.zero_add] at this
      rw [World.cell?_setCell_other _ _ _ _ (fun e => by injection e with _ e; exact hjk e.symm), this, vl_set_other hjk]
theorem xor_val (l : List UInt8) (k : Nat) {e : Int} (e0 : 0 ≤ e) (e1 : e ≤ 255) : bits .xor .u8 (vl l k) e = ((l.getD k 0 ^^^ b8 e).toNat : Int) := by
  have := xor_bv (l.getD k 0) (b8 e)
  rw [b8_nat e0 e1] at this
  exact this
theorem xor_other (l : List UInt8) (k : Nat) {e : Int} (e0 : 1 ≤ e) (e1 : e ≤ 255) : ((l.getD k 0 ^^^ b8 e).toNat : Int) ≠ vl l k := by
  intro h
  have h1 : l.getD k 0 ^^^ b8 e = l.getD k 0 := by
    apply UInt8.toNat_inj.1
    unfold vl at h
    omega
  have h2 : b8 e = 0 := by
    have : l.getD k 0 ^^^ (l.getD k 0 ^^^ b8 e) = l.getD k 0 ^^^ l.getD k 0 := by rw [h1]
    rwa [← UInt8.xor_assoc, UInt8.xor_self, UInt8.zero_xor] at this
  have h3 := b8_nat (n := e) (by omega) e1
  rw [h2] at h3
  simp at h3
  omega
end Go.Proofs.YtgihbilpimempaaDoor.fr
