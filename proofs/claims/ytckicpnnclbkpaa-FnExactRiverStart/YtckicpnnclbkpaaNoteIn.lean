/-
  A message that came in, in our words; contracts of the laws' helpers over messages: laws.szNote, laws.toNote.
-/
import Derived.Test.YtckicpnnclbkpaaOkPlain
import Derived.Deep.Fields
import Derived.ChangeSame
import Derived.OpenShut
import Derived.Below
namespace Go.Proofs.Ytckicpnnclbkpaa.ok
open Go.ChangeShapes Go.WideShapes Go.ChangeAt Go.RowKit Go.Deep
open Go.Proofs.Ytckicpnnclbkpaa.nb

end Go.Proofs.Ytckicpnnclbkpaa.ok
