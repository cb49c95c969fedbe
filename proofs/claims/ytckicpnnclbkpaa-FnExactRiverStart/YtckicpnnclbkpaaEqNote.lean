/-
  Contract of laws.eqNote at two messages that are the same.
-/
import Derived.Test.YtckicpnnclbkpaaOkPlain
import Derived.Test.YtckicpnnclbkpaaSOk
namespace Go.Proofs.Ytckicpnnclbkpaa.ok
open Go.ChangeShapes Go.WideShapes Go.ChangeAt Go.RowKit
open Go.Proofs.Ytckicpnnclbkpaa.nb

theorem eq_same (f n t u : Int) (s : ByteArray) (w : World) :
    Calls Try.prog 30 #[note f n t u s, note f n t u s] w (BoolPost w true) := by
  unfold note
  go_enter Try.func30, Try.ntmps30
  go_wp2
  go_ret
  exact ⟨rfl, ((Below.refl _ _).alloc (Nat.le_refl _) _).alloc (by simp) _⟩
end Go.Proofs.Ytckicpnnclbkpaa.ok
