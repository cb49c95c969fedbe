/-
  Contract of laws.eqNote at two messages that are the same.
-/
import Derived.Test.YtekoghcgkmldgaaOkPlain
import Derived.Test.YtekoghcgkmldgaaSOk
namespace Go.Proofs.Ytekoghcgkmldgaa.ok
open Go.ChangeShapes Go.WideShapes Go.ChangeAt Go.RowKit
open Go.Proofs.Ytekoghcgkmldgaa.nb

theorem eq_same (f n t u : Int) (s : ByteArray) (w : World) :
    Calls Try.prog 56 #[note f n t u s, note f n t u s] w (BoolPost w true) := by
  unfold note
  go_enter Try.func56, Try.ntmps56
  go_wp2
  go_ret
  exact ⟨rfl, ((Below.refl _ _).alloc (Nat.le_refl _) _).alloc (by simp) _⟩
end Go.Proofs.Ytekoghcgkmldgaa.ok
