/-
  Contract of spec.NoteOk.
-/
import Derived.Test.YtgihbilpimempaaOkPlain
import Derived.Below
namespace Go.Proofs.Ytgihbilpimempaa.ok
open Go.ChangeShapes Go.WideShapes Go.ChangeAt Go.RowKit
open Go.Proofs.Ytgihbilpimempaa.nb

def BoolPost (w : World) (b : Bool) (e : Ending) (w' : World) : Prop := e = .returned (.bool b) ∧ Below w.heap.size w w'

end Go.Proofs.Ytgihbilpimempaa.ok
