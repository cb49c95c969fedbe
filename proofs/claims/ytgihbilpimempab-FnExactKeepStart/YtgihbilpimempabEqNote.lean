/-
  Contract of laws.eqNote at two messages that are the same.
-/
import Derived.Test.YtgihbilpimempabOkPlain
import Derived.Test.YtgihbilpimempabSOk
namespace Go.Proofs.Ytgihbilpimempab.ok
open Go.ChangeShapes Go.WideShapes Go.ChangeAt Go.RowKit
open Go.Proofs.Ytgihbilpimempab.nb

theorem eq_same (f n t u : Int) (s : ByteArray) (w : World) :
    Calls Try.prog 48 #[note f n t u s, note f n t u s] w (BoolPost w true) := by
  unfold note
  go_enter Try.func48, Try.ntmps48
  go_wp2
  go_ret
  exact ⟨rfl, ((Below.refl _ _).alloc (Nat.le_refl _) _).alloc (by simp) _⟩
end Go.Proofs.Ytgihbilpimempab.ok
