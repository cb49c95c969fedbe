/-
  Words: a block of five cells that is known whole.
-/
import Derived.Test.YtgihbilpimempabWords
namespace Go.Proofs.Ytgihbilpimempab.ok
open Go.RowKit
open Go.Proofs.Ytgihbilpimempab.wd

theorem five {w : World} {g : Nat} {T : TypeId} {a b c d e : Value} (h : Blk w g T #[a, b, c, d, e]) :
    w.cell? ⟨g, 0, none⟩ = some a ∧ w.cell? ⟨g, 1, none⟩ = some b ∧ w.cell? ⟨g, 2, none⟩ = some c ∧ w.cell? ⟨g, 3, none⟩ = some d ∧ w.cell? ⟨g, 4, none⟩ = some e ∧ g < w.heap.size :=
  ⟨h.cell 0, h.cell 1, h.cell 2, h.cell 3, h.cell 4, h.lt⟩
end Go.Proofs.Ytgihbilpimempab.ok
