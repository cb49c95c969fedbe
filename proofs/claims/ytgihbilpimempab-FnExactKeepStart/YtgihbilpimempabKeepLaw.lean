/-
  Words for the laws over what a keeper has: the lists of a keep that were written over by marks, beside the boxes of the law.
-/
import Derived.Test.YtgihbilpimempabKeepHeld
import Derived.Test.YtgihbilpimempabSStart
namespace Go.Proofs.Ytgihbilpimempab.kp
open Go.ChangeShapes Go.WideShapes Go.ChangeAt Go.RowKit
open Go.Proofs.Ytgihbilpimempab.wd Go.Proofs.Ytgihbilpimempab.ow Go.Proofs.Ytgihbilpimempab.rl Go.Proofs.Ytgihbilpimempab.ok Go.Proofs.Ytgihbilpimempab.nb

section
variable {B R : Nat} {w w' W W' : World} {k k' : Kp} {a b c : Value}
theorem Own3.later (h : Own3 B W k a b c) (hb : Below W.heap.size W W') : Own3 B W' k a b c := ⟨h.held.later hb, h.marks.later hb, h.inbox.later hb, h.hm, h.hi, h.mi⟩
theorem Marked.below (h : Marked w w' a b c) (hO : Own3 B w k a b c) (hB : B ≤ w.heap.size) : Below B w w' :=
  ⟨h.os, h.tape, h.output, h.size, fun j hj => h.block j (by omega) (fun e => by have := (hO.held.lt e).1; omega) (fun e => by have := (hO.marks.lt e).1; omega) (fun e => by have := (hO.inbox.lt e).1; omega)⟩
/-- no list of the call's own lies at R -/
def Off (R : Nat) (a b c : Value) : Prop := a.ownBlock ≠ some R ∧ b.ownBlock ≠ some R ∧ c.ownBlock ≠ some R
theorem OwnK.off (h : OwnK w W k a b c) (hR : W.heap.size ≤ R) : Off R a b c :=
  ⟨fun e => by have := (h.held.lt e).2; omega, fun e => by have := (h.marks.lt e).2; omega, fun e => by have := (h.inbox.lt e).2; omega⟩
theorem OwnK.off' (h : OwnK w W k a b c) (hR : R < w.heap.size) : Off R a b c :=
  ⟨fun e => by have := (h.held.lt e).1; omega, fun e => by have := (h.marks.lt e).1; omega, fun e => by have := (h.inbox.lt e).1; omega⟩
theorem Marked.blk {t : TypeId} {cs : Array Value} (h : Marked w w' a b c) (hR : Blk w R t cs) (hf : Off R a b c) : Blk w' R t cs := (h.block R hR.lt hf.1 hf.2.1 hf.2.2).trans hR
/-- the box of a keep -/
abbrev KBox (W : World) (R : Nat) (k : Kp) (a b c : Value) : Prop := Blk W R 25 #[.int .i64 k.id, .int .i64 k.time, .int .i64 k.next, a, b, c]
theorem KBox.cells (h : KBox W R k a b c) : W.cell? ⟨R, 0, none⟩ = some (.int .i64 k.id) ∧ W.cell? ⟨R, 1, none⟩ = some (.int .i64 k.time) ∧ W.cell? ⟨R, 2, none⟩ = some (.int .i64 k.next) ∧ W.cell? ⟨R, 3, none⟩ = some a ∧ W.cell? ⟨R, 4, none⟩ = some b ∧ W.cell? ⟨R, 5, none⟩ = some c :=
  ⟨h.cell 0, h.cell 1, h.cell 2, h.cell 3, h.cell 4, h.cell 5⟩
abbrev LBox (W : World) (R : Nat) (k : Kp) (a b c : Value) : Prop := Blk W R 33 #[.int .i64 k.id, .int .i64 k.time, .int .i64 k.next, a, b, c]
theorem LBox.cells (h : LBox W R k a b c) : W.cell? ⟨R, 0, none⟩ = some (.int .i64 k.id) ∧ W.cell? ⟨R, 1, none⟩ = some (.int .i64 k.time) ∧ W.cell? ⟨R, 2, none⟩ = some (.int .i64 k.next) ∧ W.cell? ⟨R, 3, none⟩ = some a ∧ W.cell? ⟨R, 4, none⟩ = some b ∧ W.cell? ⟨R, 5, none⟩ = some c :=
  ⟨h.cell 0, h.cell 1, h.cell 2, h.cell 3, h.cell 4, h.cell 5⟩
end
theorem start_few (id : Int) : (startK id).held.length = 0 ∧ (startK id).marks.length = 0 ∧ (startK id).inbox.length = 0 := by
  unfold startK; split <;> exact ⟨rfl, rfl, rfl⟩
end Go.Proofs.Ytgihbilpimempab.kp
