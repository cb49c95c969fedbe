/-
  Words: the boxes in which a law keeps its shelves.
-/
import Derived.Test.YtapkfajgphkajaaGreatDoorShelfTwo
import Derived.Test.YtapkfajgphkajaaGreatDoorIShOk
namespace Go.Proofs.YtapkfajgphkajaaGreatDoor.sh
open Go.ChangeShapes Go.WideShapes Go.ChangeAt Go.RowKit
open Go.Proofs.YtapkfajgphkajaaGreatDoor.wd

/-- in world W, which lies over w: each of these boxes holds its shelf; what the program's text lays is there -/
structure Bx (w W : World) (l : List (Nat × ByteArray × Int)) : Prop where
  all : ∀ R s f, (R, s, f) ∈ l → Blk W R 24 #[.string s, .int .i64 f]
  bel : Below w.heap.size w W
  env : Env W
section
variable {w W W' : World} {l : List (Nat × ByteArray × Int)}
theorem Bx.start (h : Env w) (hB : Below w.heap.size w W) : Bx w W [] := ⟨(fun _ _ _ hm => by cases hm), hB, h.later hB⟩
theorem Bx.later (h : Bx w W l) (hB : Below W.heap.size W W') : Bx w W' l := ⟨fun R s f hm => (h.all R s f hm).below hB (h.all R s f hm).lt, h.bel.trans (hB.mono h.bel.size), h.env.later hB⟩
theorem Bx.more (h : Bx w W l) (s : ByteArray) (f : Int) : Bx w (W.alloc (.cells #[.string s, .int .i64 f] 24)) ((W.heap.size, s, f) :: l) := by
  have h2 := h.later ((Below.refl _ W).alloc (Nat.le_refl _) (.cells #[.string s, .int .i64 f] 24))
  refine ⟨fun R a g hm => ?_, h2.bel, h2.env⟩
  rcases List.mem_cons.1 hm with e | e
  · cases e; exact Blk.new W _ _
  · exact h2.all R a g e
theorem Bx.drewN (h : Bx w W l) (n : Nat) : Bx w (W.drewN n) l := ⟨h.all, ⟨h.bel.os, h.bel.tape, h.bel.output, h.bel.size, h.bel.block⟩, ⟨h.env.tab, h.env.errs, h.env.errT⟩⟩
theorem Bx.drew (h : Bx w W l) : Bx w W.drew l := ⟨h.all, ⟨h.bel.os, h.bel.tape, h.bel.output, h.bel.size, h.bel.block⟩, ⟨h.env.tab, h.env.errs, h.env.errT⟩⟩
theorem Bx.cells {R : Nat} {s : ByteArray} {f : Int} (h : Bx w W l) (hm : (R, s, f) ∈ l) : W.cell? ⟨R, 0, none⟩ = some (.string s) ∧ W.cell? ⟨R, 1, none⟩ = some (.int .i64 f) := ⟨(h.all R s f hm).cell 0, (h.all R s f hm).cell 1⟩
/-- a box of the call's own is written -/
theorem Bx.put {R : Nat} {s a : ByteArray} {f g : Int} (h : Bx w W ((R, s, f) :: l)) (hE : Env w) (hR : w.heap.size ≤ R) (hl : ∀ q ∈ l, q.1 ≠ R) :
    Bx w ((W.setCell ⟨R, 0, none⟩ (.string a)).setCell ⟨R, 1, none⟩ (.int .i64 g)) ((R, a, g) :: l) := by
  have hB := (h.bel.setCell (p := ⟨R, 0, none⟩) hR (.string a)).setCell (p := ⟨R, 1, none⟩) hR (.int .i64 g)
  refine ⟨fun R' s' f' hm => ?_, hB, hE.later hB⟩
  rcases List.mem_cons.1 hm with e | e
  · cases e
    exact ((h.all R s f (by simp)).put 0 (.string a)).put 1 (.int .i64 g)
  · have hne : R' ≠ R := hl _ e
    exact ((h.all R' s' f' (List.mem_cons_of_mem _ e)).far (p := ⟨R, 0, none⟩) hne (.string a)).far (p := ⟨R, 1, none⟩) hne (.int .i64 g)
theorem Bx.lies {R : Nat} {s : ByteArray} {f : Int} (h : Bx w W l) (hm : (R, s, f) ∈ l) : R < W.heap.size := (h.all R s f hm).lt
theorem Bx.thaw {R : Nat} {s : ByteArray} {f : Int} (h : Bx w W l) (hm : (R, s, f) ∈ l) : W.frozen? ⟨R, 0, none⟩ = false ∧ W.frozen? ⟨R, 1, none⟩ = false := ⟨(h.all R s f hm).frozen 0, (h.all R s f hm).frozen 1⟩
end
theorem three_ne {R0 R1 R2 R : Nat} {a b c : ByteArray × Int} (h0 : R0 < R) (h1 : R1 < R) (h2 : R2 < R) : ∀ q ∈ [(R2, a), (R1, b), (R0, c)], q.1 ≠ R := by
  intro q hq
  simp only [List.mem_cons, List.not_mem_nil, or_false] at hq
  rcases hq with rfl | rfl | rfl
  · exact Nat.ne_of_lt h2
  · exact Nat.ne_of_lt h1
  · exact Nat.ne_of_lt h0
end Go.Proofs.YtapkfajgphkajaaGreatDoor.sh
