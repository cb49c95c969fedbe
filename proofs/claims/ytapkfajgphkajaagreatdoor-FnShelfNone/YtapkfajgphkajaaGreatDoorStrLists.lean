/-
  Contracts of the laws' own loops over lists of texts: lbTexts, eqStringS (where both lists are one), markText, markStringS, heldStringS.
-/
import Derived.Test.YtapkfajgphkajaaGreatDoorOwn
import Derived.Deep.QuietTactic
import Derived.BigQuiet
import Derived.Deep.RegionHeld3
namespace Go.Proofs.YtapkfajgphkajaaGreatDoor.sl
open Go.ChangeShapes Go.WideShapes Go.ChangeAt Go.RowKit
open Go.Proofs.YtapkfajgphkajaaGreatDoor.wd Go.Proofs.YtapkfajgphkajaaGreatDoor.cp Go.Proofs.YtapkfajgphkajaaGreatDoor.ow

/-- a slice that reads as a list of texts -/
def SeesS (w : World) (v : Value) (l : List ByteArray) : Prop :=
  ∃ A c, v = .slice A l.length c ∧ (0 < l.length → ∃ g, A = some ⟨g, 0, none⟩ ∧ g < w.heap.size ∧ ∀ i x, l[i]? = some x → w.cell? ⟨g, i, none⟩ = some (.string x))

theorem sees_of_own {w0 w : World} {v : Value} {l : List ByteArray} (h : Own 9 w0 w v (l.map Value.string)) : SeesS w v l := by
  obtain ⟨A, c, rfl, hc⟩ := h.form
  rw [List.length_map] at hc ⊢
  refine ⟨A, c, rfl, fun hn => ?_⟩
  obtain ⟨g, rfl, _, hg, hcell⟩ := hc hn
  exact ⟨g, rfl, hg, fun i x hx => hcell i _ (by simp [hx])⟩
theorem SeesS.later {w w' : World} {v : Value} {l : List ByteArray} (h : SeesS w v l) (hB : Below w.heap.size w w') : SeesS w' v l := by
  obtain ⟨A, c, rfl, hc⟩ := h
  refine ⟨A, c, rfl, fun hn => ?_⟩
  obtain ⟨g, rfl, hg, hcell⟩ := hc hn
  exact ⟨g, rfl, Nat.lt_of_lt_of_le hg hB.size, fun i x hx => (hB.cell (p := ⟨g, i, none⟩) hg).trans (hcell i x hx)⟩
theorem SeesS.drewN {w : World} {v : Value} {l : List ByteArray} (h : SeesS w v l) (q : Nat) : SeesS (w.drewN q) v l := h

def TruePost (w : World) (e : Ending) (w' : World) : Prop := e = .returned (.bool true) ∧ ∃ q, w' = w.drewN q

set_option maxHeartbeats 400000 in
theorem lb_same (w : World) (v1 v2 : Value) (l : List ByteArray) (h1 : SeesS w v1 l) (h2 : SeesS w v2 l) (hl : l.length ≤ 1048576) :
    Calls Tryz.prog 14 #[v1, v2] w (TruePost w) := by
  obtain ⟨A1, c1, rfl, r1⟩ := h1
  obtain ⟨A2, c2, rfl, r2⟩ := h2
  go_enter Tryz.func14, Tryz.ntmps14
  go_wp2
  go_loopw [5] (fun i wr => ∃ k : Nat, k ≤ l.length ∧ i = .int .i64 k ∧ ∃ q, wr = w.drewN q) (fun i _ => (l.length + 1 : Nat) - (intOf i).toNat)
  case atStart => exact ⟨0, by omega, rfl, 0, rfl⟩
  case round =>
    obtain ⟨k, hk, rfl, q, rfl⟩ := hrel
    by_cases hkl : k < l.length
    · obtain ⟨g1, rfl, _, k1⟩ := r1 (by omega)
      obtain ⟨g2, rfl, _, k2⟩ := r2 (by omega)
      have e1 := k1 k l[k] (List.getElem?_eq_getElem hkl)
      have e2 := k2 k l[k] (List.getElem?_eq_getElem hkl)
      clear k1 k2 r1 r2
      generalize l[k] = x at e1 e2
      go_wp2
      go_quiet (fail)
      go_wp2
      go_roundw
      case rel => exact ⟨k + 1, by omega, by go_num, _, rfl⟩
      case measure => simp [intOf]; omega
    · go_wp2
      go_ret
      exact ⟨rfl, q, rfl⟩
end Go.Proofs.YtapkfajgphkajaaGreatDoor.sl
