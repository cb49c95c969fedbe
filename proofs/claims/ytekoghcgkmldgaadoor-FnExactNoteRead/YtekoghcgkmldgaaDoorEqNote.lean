/-
  Contract of laws.eqNote at two messages that are the same.
-/
import Derived.Test.YtekoghcgkmldgaaDoorOkPlain
import Derived.Test.YtekoghcgkmldgaaDoorSOk
namespace Go.Proofs.YtekoghcgkmldgaaDoor.ok
open Go.ChangeShapes Go.WideShapes Go.ChangeAt Go.RowKit
open Go.Proofs.YtekoghcgkmldgaaDoor.nb

theorem eq_same (f n t u : Int) (s : ByteArray) (w : World) :
    Calls Tryd.prog 17 #[note f n t u s, note f n t u s] w (BoolPost w true) := by
  unfold note
  go_enter Tryd.func17, Tryd.ntmps17
  go_wp2
  go_ret
  exact ⟨rfl, ((Below.refl _ _).alloc (Nat.le_refl _) _).alloc (by simp) _⟩
end Go.Proofs.YtekoghcgkmldgaaDoor.ok
