/-
  Words: the two blocks of a function that takes a shelf and gives one.
-/
import Derived.Test.YtapkfajgphkajaaGreatDoorShelfFn
import Derived.Test.YtapkfajgphkajaaGreatDoorWords
import Derived.Test.YtapkfajgphkajaaGreatDoorRows
import Derived.WalkKit
import Derived.ProofKit
namespace Go.Proofs.YtapkfajgphkajaaGreatDoor.sh
open Go.ChangeShapes Go.WideShapes Go.ChangeAt Go.RowKit
open Go.Proofs.YtapkfajgphkajaaGreatDoor.wd

def BoolPost (w : World) (b : Bool) (e : Ending) (w' : World) : Prop := e = .returned (.bool b) ∧ Below w.heap.size w w'
def ShPost (w : World) (s : ByteArray) (f : Int) (e : Ending) (w' : World) : Prop := e = .returned (shv s f) ∧ Below w.heap.size w w'
def ShbPost (w : World) (s : ByteArray) (f : Int) (b : Bool) (e : Ending) (w' : World) : Prop := e = .returned (.tuple #[shv s f, .bool b]) ∧ Below w.heap.size w w'

/-- the argument's box, and the result's block -/
structure Two (w V : World) (s : ByteArray) (f : Int) : Prop where
  arg : Blk V w.heap.size 24 #[.string s, .int .i64 f]
  res : Blk V (w.heap.size + 1) 24 #[.string ⟨#[]⟩, .int .i64 0]
  bel : Below w.heap.size w V
section
variable {w V V' : World} {s : ByteArray} {f : Int}
theorem Two.new (w : World) (s : ByteArray) (f : Int) : Two w ((w.alloc (.cells #[.string s, .int .i64 f] 24)).alloc (.cells #[.string ⟨#[]⟩, .int .i64 0] 24)) s f := by
  have k1 := Blk.new (w.alloc (.cells #[.string s, .int .i64 f] 24)) 24 #[.string ⟨#[]⟩, .int .i64 0]
  simp only [World.size_alloc] at k1
  exact ⟨(Blk.new w _ _).alloc _, k1, ((Below.refl _ w).alloc (Nat.le_refl _) _).alloc (by simp) _⟩
theorem Two.later (h : Two w V s f) (hb : Below V.heap.size V V') : Two w V' s f := ⟨h.arg.below hb h.arg.lt, h.res.below hb h.res.lt, h.bel.trans (hb.mono h.bel.size)⟩
theorem Two.cells (h : Two w V s f) : V.cell? ⟨w.heap.size, 0, none⟩ = some (.string s) ∧ V.cell? ⟨w.heap.size, 1, none⟩ = some (.int .i64 f) ∧ V.cell? ⟨w.heap.size + 1, 0, none⟩ = some (.string ⟨#[]⟩) ∧ V.cell? ⟨w.heap.size + 1, 1, none⟩ = some (.int .i64 0) ∧
    V.frozen? ⟨w.heap.size + 1, 0, none⟩ = false ∧ V.frozen? ⟨w.heap.size + 1, 1, none⟩ = false := ⟨h.arg.cell 0, h.arg.cell 1, h.res.cell 0, h.res.cell 1, h.res.frozen 0, h.res.frozen 1⟩
theorem Two.put_arg (h : Two w V s f) (a : ByteArray) (g : Int) :
    ((V.setCell ⟨w.heap.size + 1, 0, none⟩ (.string a)).setCell ⟨w.heap.size + 1, 1, none⟩ (.int .i64 g)).cell? ⟨w.heap.size, 0, none⟩ = some (.string s) ∧
    ((V.setCell ⟨w.heap.size + 1, 0, none⟩ (.string a)).setCell ⟨w.heap.size + 1, 1, none⟩ (.int .i64 g)).cell? ⟨w.heap.size, 1, none⟩ = some (.int .i64 f) := by
  have hB := (h.arg.far (p := ⟨w.heap.size + 1, 0, none⟩) (by simp) (.string a)).far (p := ⟨w.heap.size + 1, 1, none⟩) (by simp) (.int .i64 g)
  exact ⟨hB.cell 0, hB.cell 1⟩
theorem Two.drewN (h : Two w V s f) (n : Nat) : Two w (V.drewN n) s f := ⟨h.arg, h.res, ⟨h.bel.os, h.bel.tape, h.bel.output, h.bel.size, h.bel.block⟩⟩
theorem Two.put (h : Two w V s f) (a : ByteArray) (g : Int) :
    ((V.setCell ⟨w.heap.size + 1, 0, none⟩ (.string a)).setCell ⟨w.heap.size + 1, 1, none⟩ (.int .i64 g)).cell? ⟨w.heap.size + 1, 0, none⟩ = some (.string a) ∧
    ((V.setCell ⟨w.heap.size + 1, 0, none⟩ (.string a)).setCell ⟨w.heap.size + 1, 1, none⟩ (.int .i64 g)).cell? ⟨w.heap.size + 1, 1, none⟩ = some (.int .i64 g) ∧
    Below w.heap.size w ((V.setCell ⟨w.heap.size + 1, 0, none⟩ (.string a)).setCell ⟨w.heap.size + 1, 1, none⟩ (.int .i64 g)) := by
  have hB := (h.res.put 0 (.string a)).put 1 (.int .i64 g)
  exact ⟨hB.cell 0, hB.cell 1, (h.bel.setCell (p := ⟨w.heap.size + 1, 0, none⟩) (by simp) _).setCell (p := ⟨w.heap.size + 1, 1, none⟩) (by simp) _⟩
end
end Go.Proofs.YtapkfajgphkajaaGreatDoor.sh
