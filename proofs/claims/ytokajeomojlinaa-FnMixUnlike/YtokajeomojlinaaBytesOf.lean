/-
  '[]byte(s)' in our words: a new row that reads as the text's bytes and may be written; one byte written, it reads as the changed text.
-/
import Derived.Test.YtokajeomojlinaaOwn
import Derived.Test.YtokajeomojlinaaUnlikePlain
namespace Go.Proofs.Ytokajeomojlinaa.ow
open Go.ChangeShapes Go.WideShapes Go.ChangeAt Go.RowKit
open Go.Proofs.Ytokajeomojlinaa.wd Go.Proofs.Ytokajeomojlinaa.cp

/-- what '[]byte(s)' makes -/
def Made (w : World) (s : ByteArray) (cap : Nat) (w' : World) : Prop :=
  (∀ j, j < s.size → w'.cell? ⟨w.heap.size, j, none⟩ = some (bv (by_ s j)) ∧ w'.frozen? ⟨w.heap.size, j, none⟩ = false) ∧ s.size ≤ cap ∧ Below w.heap.size w w' ∧ w.heap.size < w'.heap.size

theorem bytes_of (w : World) (s : ByteArray) : ∃ cap w', (convert 9 22 (.string s)).run Try.prog w = .ok (.slice (some ⟨w.heap.size, 0, none⟩) s.size cap) w' ∧ Made w s cap w' := by
  refine ⟨_, _, run_bytes_of_string w 9 22 5 s Try.underlying9 Try.underlying22 Try.underlying5, fun j hj => ⟨?_, ?_⟩, grownCap_ge _ _ _ _, ?_, ?_⟩
  · have h1 := World.cell?_alloc_mark w.drew (bytesRow s (grownCap w s.size 0 5)) 5 ((bytesRow s (grownCap w s.size 0 5)).size, (bytesRow s (grownCap w s.size 0 5)).size + 1) j
    refine h1.trans ?_
    rw [bytesRow_at s _ j hj, by_in hj]
    rfl
  · have h1 := World.frozen?_alloc_mark w.drew (bytesRow s (grownCap w s.size 0 5)) 5 (bytesRow s (grownCap w s.size 0 5)).size ((bytesRow s (grownCap w s.size 0 5)).size + 1) j
    refine h1.trans ?_
    have hlt : j < (bytesRow s (grownCap w s.size 0 5)).size := by
      have : s.size ≤ (bytesRow s (grownCap w s.size 0 5)).size := by simp [bytesRow]
      omega
    simp
    omega
  · exact ((Below.refl w.heap.size w).drew).alloc (Nat.le_refl _) _
  · simp

/-- the changed text, read back -/
theorem chg_text {w w' w2 : World} {s : ByteArray} {cap a : Nat} {d : UInt8} (h : Made w s cap w') (ha : a < s.size) (hB : Below w'.heap.size (w'.setCell ⟨w.heap.size, a, none⟩ (bv (by_ s a ^^^ d))) w2) :
    (convert 22 9 (.slice (some ⟨w.heap.size, 0, none⟩) s.size cap)).run Try.prog w2 = .ok (.string (chg s a d)) w2 := by
  have := run_convert_bytes_back (P := Try.prog) w2 22 9 5 ⟨w.heap.size, 0, none⟩ cap (chgL s a d) Try.underlying22 Try.underlying5 Try.underlying9 (fun j hj => by
    have e : (⟨w.heap.size, 0, none⟩ : Addr).add j = ⟨w.heap.size, j, none⟩ := by unfold Addr.add; split <;> simp_all
    have hjs : j < s.size := by rwa [chgL_len] at hj
    rw [e, hB.cell (p := ⟨w.heap.size, j, none⟩) h.2.2.2, chgL_at]
    by_cases hja : j = a
    · subst hja
      rw [if_pos rfl, World.cell?_setCell_same _ _ _ (h.1 j hjs).1]
      rfl
    · rw [if_neg hja, World.cell?_setCell_other _ _ _ _ (fun e => by injection e; omega), (h.1 j hjs).1]
      rfl)
  rw [chgL_len] at this
  exact this
end Go.Proofs.Ytokajeomojlinaa.ow
