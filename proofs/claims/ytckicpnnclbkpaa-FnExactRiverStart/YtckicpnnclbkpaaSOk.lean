/-
  Contract of spec.NoteOk.
-/
import Derived.Test.YtckicpnnclbkpaaOkPlain
import Derived.Below
namespace Go.Proofs.Ytckicpnnclbkpaa.ok
open Go.ChangeShapes Go.WideShapes Go.ChangeAt Go.RowKit
open Go.Proofs.Ytckicpnnclbkpaa.nb

def BoolPost (w : World) (b : Bool) (e : Ending) (w' : World) : Prop := e = .returned (.bool b) ∧ Below w.heap.size w w'

end Go.Proofs.Ytckicpnnclbkpaa.ok
