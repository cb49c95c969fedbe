/-
  What the laws on MixOf need: an answer of the call's own, read at once and later.
-/
import Derived.Test.YtokcodoejfcmpaaMixOfSpec
import Derived.Test.YtokcodoejfcmpaaIntLists
import Derived.Test.YtokcodoejfcmpaaDraw1
namespace Go.Proofs.Ytokcodoejfcmpaa.ml
open Go.ChangeShapes Go.WideShapes Go.ChangeAt Go.RowKit
open Go.Proofs.Ytokcodoejfcmpaa.mp Go.Proofs.Ytokcodoejfcmpaa.wd Go.Proofs.Ytokcodoejfcmpaa.mi Go.Proofs.Ytokcodoejfcmpaa.il

theorem ints_sees {w0 w : World} {v : Value} {l : List Int} (h : Ints w0 w v l) : Sees w v l := sees_of_own h.1
theorem ints_later {w0 w w' : World} {v : Value} {l : List Int} (h : Ints w0 w v l) (hB : Below w.heap.size w w') : Sees w' v l :=
  sees_below (sees_of_own h.1) (fun g i e => by subst e; exact (h.1.lt g rfl).2) hB
theorem sees_drewN {w : World} {v : Value} {l : List Int} (h : Sees w v l) (q : Nat) : Sees (w.drewN q) v l := h
theorem below_drewN' {B : Nat} {a w : World} (h : Below B a w) (n : Nat) : Below B a (w.drewN n) := h.trans ⟨rfl, rfl, rfl, Nat.le_refl _, fun _ _ => rfl⟩
/-- a list of one int, as the walk reads it -/
theorem sees_one {w : World} {v : Value} {x : Int} (h : Sees w v [x]) : ∃ g c, v = .slice (some ⟨g, 0, none⟩) 1 c ∧ w.cell? ⟨g, 0, none⟩ = some (.int .i64 x) := by
  obtain ⟨A, c, rfl, hc⟩ := h
  obtain ⟨g, rfl, hcell⟩ := hc (by simp)
  exact ⟨g, c, rfl, by simpa using hcell 0 (by simp)⟩
end Go.Proofs.Ytokcodoejfcmpaa.ml
