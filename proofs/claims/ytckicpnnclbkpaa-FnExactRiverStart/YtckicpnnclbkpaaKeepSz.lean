/-
  Contracts of the laws' own helpers over what a keeper has, come in: szNoteS, szMarkS, szKeep; toNoteS, toMarkS, toKeep.
-/
import Derived.Test.YtckicpnnclbkpaaKeepIn
import Derived.Test.YtckicpnnclbkpaaNoteIn
import Derived.OwnWalk
namespace Go.Proofs.Ytckicpnnclbkpaa.kp
open Go.ChangeShapes Go.WideShapes Go.ChangeAt Go.RowKit
open Go.Proofs.Ytckicpnnclbkpaa.wd Go.Proofs.Ytckicpnnclbkpaa.ow Go.Proofs.Ytckicpnnclbkpaa.rl Go.Proofs.Ytckicpnnclbkpaa.ok

def SizesPost (w : World) (room : Int) (n : Nat) (e : Ending) (w' : World) : Prop := ∃ r : Int, e = .returned (.int .i64 r) ∧ -1 ≤ r ∧ r ≤ room ∧ (0 ≤ r → n ≤ 1048576) ∧ Below w.heap.size w w'

theorem size_le {room : Int} {s : ByteArray} (h0 : 0 ≤ room) : -1 ≤ (if room < (s.size : Int) then (-1 : Int) else room - s.size) ∧ (if room < (s.size : Int) then (-1 : Int) else room - s.size) ≤ room := by split <;> omega

end Go.Proofs.Ytckicpnnclbkpaa.kp
