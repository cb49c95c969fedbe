/-
  A region that draws its order, whose operations only read and whose callees turn nothing old: walked once, in the order of the text, in the class of worlds 'behind w nothing old has turned'.
-/
import Derived.Test.YtgihbilpimempabWords
import Derived.BigQuiet
namespace Go.Proofs.Ytgihbilpimempab.qa
open Go.RowKit
open Go.Proofs.Ytgihbilpimempab.wd

/-- a world behind w in which nothing old has turned -/
structure After (w : World) where
  W : World
  h : Below w.heap.size w W

instance (w : World) : Inhabited (After w) := ⟨⟨w, Below.refl _ _⟩⟩

theorem region {P : Program} {id : Nat} {Q : Exit → Act → World → Prop} {a : Act} {w : World} {l : List Oper} (hm : P.follows .mixedOrders = true) (hB : Region.lexB .any l.toArray = true)
    (h : wpQuiet P l.toArray (fun w' => ∃ p : After w, w' = p.W) (fun a' => ∀ w', (∃ p : After w, w' = p.W) → Q .normal a' w') l a) : (Code.region id l.toArray true).wp P Q a w :=
  wp_region_quiet (C := fun w' => ∃ p : After w, w' = p.W) hm hB ⟨⟨_, (Below.refl _ w).drew⟩, rfl⟩ (by simpa using h)

section
variable {P : Program} {f : FuncId} {args : Array Value} {w : World} {v : Value}
/-- a callee's contract, met in a world of the class -/
theorem of_below {p : After w} (h : Calls P f args p.W fun e w' => e = .returned v ∧ Below p.W.heap.size p.W w') : Calls P f args p.W fun e w'' => e = .returned v ∧ ∃ q : After w, w'' = q.W :=
  h.mono fun _ w' ⟨he, hb⟩ => ⟨he, ⟨w', p.h.trans (hb.mono p.h.size)⟩, rfl⟩
theorem of_same {p : After w} (h : Calls P f args p.W fun e w' => e = .returned v ∧ p.W = w') : Calls P f args p.W fun e w'' => e = .returned v ∧ ∃ q : After w, w'' = q.W :=
  h.mono fun _ _ ⟨he, hb⟩ => ⟨he, p, hb.symm⟩
theorem cell {g i : Nat} (hg : g < w.heap.size) (h : w.cell? ⟨g, i, none⟩ = some v) (p : After w) : p.W.cell? ⟨g, i, none⟩ = some v := (p.h.cell (p := ⟨g, i, none⟩) hg).trans h
theorem blk {g : Nat} {t : TypeId} {cs : Array Value} (h : Blk w g t cs) (p : After w) : Blk p.W g t cs := h.below p.h h.lt
theorem blk_cell {g : Nat} {t : TypeId} {cs : Array Value} (h : Blk w g t cs) (i : Nat) {v : Value} (hv : cs[i]? = some v) (p : After w) : p.W.cell? ⟨g, i, none⟩ = some v := ((blk h p).cell i).trans hv
end
theorem three {w : World} {g : Nat} {t : TypeId} {a b c : Value} (h : Blk w g t #[a, b, c]) : (∀ p : After w, p.W.cell? ⟨g, 0, none⟩ = some a) ∧ (∀ p : After w, p.W.cell? ⟨g, 1, none⟩ = some b) ∧ (∀ p : After w, p.W.cell? ⟨g, 2, none⟩ = some c) :=
  ⟨fun p => (blk h p).cell 0, fun p => (blk h p).cell 1, fun p => (blk h p).cell 2⟩
theorem five {w : World} {g : Nat} {t : TypeId} {a b c d e : Value} (h : Blk w g t #[a, b, c, d, e]) : (∀ p : After w, p.W.cell? ⟨g, 0, none⟩ = some a) ∧ (∀ p : After w, p.W.cell? ⟨g, 1, none⟩ = some b) ∧ (∀ p : After w, p.W.cell? ⟨g, 2, none⟩ = some c) ∧ (∀ p : After w, p.W.cell? ⟨g, 3, none⟩ = some d) ∧ (∀ p : After w, p.W.cell? ⟨g, 4, none⟩ = some e) :=
  ⟨fun p => (blk h p).cell 0, fun p => (blk h p).cell 1, fun p => (blk h p).cell 2, fun p => (blk h p).cell 3, fun p => (blk h p).cell 4⟩
theorem six {w : World} {g : Nat} {t : TypeId} {a b c d e f : Value} (h : Blk w g t #[a, b, c, d, e, f]) : (∀ p : After w, p.W.cell? ⟨g, 0, none⟩ = some a) ∧ (∀ p : After w, p.W.cell? ⟨g, 1, none⟩ = some b) ∧ (∀ p : After w, p.W.cell? ⟨g, 2, none⟩ = some c) ∧ (∀ p : After w, p.W.cell? ⟨g, 3, none⟩ = some d) ∧ (∀ p : After w, p.W.cell? ⟨g, 4, none⟩ = some e) ∧ (∀ p : After w, p.W.cell? ⟨g, 5, none⟩ = some f) :=
  ⟨fun p => (blk h p).cell 0, fun p => (blk h p).cell 1, fun p => (blk h p).cell 2, fun p => (blk h p).cell 3, fun p => (blk h p).cell 4, fun p => (blk h p).cell 5⟩
end Go.Proofs.Ytgihbilpimempab.qa
