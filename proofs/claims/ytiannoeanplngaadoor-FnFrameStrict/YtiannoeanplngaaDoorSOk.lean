/-
  Contract of spec.NoteOk.
-/
import Derived.Test.YtiannoeanplngaaDoorOkPlain
import Derived.Below
namespace Go.Proofs.YtiannoeanplngaaDoor.ok
open Go.ChangeShapes Go.WideShapes Go.ChangeAt Go.RowKit
open Go.Proofs.YtiannoeanplngaaDoor.nb

def BoolPost (w : World) (b : Bool) (e : Ending) (w' : World) : Prop := e = .returned (.bool b) ∧ Below w.heap.size w w'

end Go.Proofs.YtiannoeanplngaaDoor.ok
