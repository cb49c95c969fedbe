/-
  Contracts of the laws' own helpers: toMark, toNoteS, toMarkS.
-/
import Derived.Test.YtckicpnnclbkpaaKeepSz
namespace Go.Proofs.Ytckicpnnclbkpaa.kp
open Go.ChangeShapes Go.WideShapes Go.ChangeAt Go.RowKit
open Go.Proofs.Ytckicpnnclbkpaa.wd Go.Proofs.Ytckicpnnclbkpaa.ow Go.Proofs.Ytckicpnnclbkpaa.rl Go.Proofs.Ytckicpnnclbkpaa.ok

def ListN (w : World) (l : List Nt) (e : Ending) (w' : World) : Prop := ∃ v, e = .returned v ∧ OwnR ntS 60 w w' v l
def ListM (w : World) (l : List Mk) (e : Ending) (w' : World) : Prop := ∃ v, e = .returned v ∧ OwnR mkS 100 w w' v l
def MarkPost (w : World) (f n u : Int) (e : Ending) (w' : World) : Prop := e = .returned (mark f n u) ∧ Below w.heap.size w w'

/-- what make gives: room for all -/
theorem fill_new {α : Type} {S : Shape α} {t : TypeId} {w w1 : World} {l : List α} {xs : List Value} (hown : w1.ownsRow w.heap.size t S.n (.slice (some ⟨w.heap.size, 0, none⟩) l.length l.length) l.length xs) (hgrow : w.grownBy w1 none) :
    Fill S t w.heap.size l.length l 0 w1 ∧ Below w.heap.size w w1 := by
  refine ⟨?_, hgrow.os, hgrow.tape, hgrow.output, hgrow.size, fun k hk => hgrow.block k hk (by simp)⟩
  rcases hown.2 with ⟨e, _⟩ | ⟨g, cap, cur, e, _, hh, _, _, hs, _⟩
  · cases e
  · injection e with e1 e2 e3
    injection e1 with e1
    injection e1 with e1
    subst e1
    exact ⟨cur, hh, by rw [hs, ← e3], fun i m hi => absurd hi (by omega)⟩

end Go.Proofs.Ytckicpnnclbkpaa.kp
