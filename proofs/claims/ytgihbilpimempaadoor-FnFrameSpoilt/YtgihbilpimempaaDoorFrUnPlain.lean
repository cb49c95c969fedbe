/-
  Plain: bytes read one behind the other, zeros behind their end; what they say of a frame. Nothing here speaks of a program.
-/
import Derived.Test.YtgihbilpimempaaDoorFrLaw
namespace Go.Proofs.YtgihbilpimempaaDoor.fr
open Go.Proofs.YtgihbilpimempaaDoor.nb Go.Proofs.YtgihbilpimempaaDoor.nx Go.Proofs.YtgihbilpimempaaDoor.cp

theorem vl_out {l : List UInt8} {i : Nat} (h : l.length ≤ i) : vl l i = 0 := by
  unfold vl
  rw [List.getD_eq_getElem?_getD, List.getElem?_eq_none h]
  rfl
/-- the frame as it is read -/
def rdF (l : List UInt8) : Fr :=
  if vl l 0 = 1 then ⟨vl l 0, vl l 1, vl l 2, vl l 3, vl l 4, vl l 5, vl l 6 * 256 + vl l 7, vl l 8, vl l 9 * 256 + vl l 10, four l 11⟩
  else ⟨vl l 0, vl l 1, vl l 2, vl l 3, vl l 4, vl l 5, vl l 6 * 256 + vl l 7, 0, 0, ⟨#[]⟩⟩
/-- how many bytes were read ahead of the sum -/
def cntF (l : List UInt8) : Nat := if vl l 0 = 1 then 15 else 8
theorem cntF_len (l : List UInt8) : cntF l + 2 = lenOf l := by unfold cntF lenOf; split <;> rfl
theorem rdF_psr {l : List UInt8} (h : l.length = lenOf l) : rdF l = psr l := by
  unfold rdF psr
  rcases lenOf_cases l with ⟨hk, e⟩ | ⟨hk, e⟩
  · rw [if_pos hk, if_pos (by omega)]
  · rw [if_neg hk, if_neg (by omega)]
/-- the two bytes at a place are the sum of all ahead -/
def chk (l : List UInt8) (n : Nat) : Bool := decide (vl l n * 256 + vl l (n + 1) = sm l n)
/-- was nothing found wrong: not too short, the sum right, not too long -/
def fineF (l : List UInt8) : Bool := decide (l.length = lenOf l) && chk l (cntF l)
theorem acc_chk {l : List UInt8} (h : l.length = lenOf l) : acc l = (chk l (cntF l) && okF (rdF l)) := by
  have e := cntF_len l
  have e1 : cntF l = l.length - 2 := by omega
  have e2 : l.length - 2 + 1 = l.length - 1 := by omega
  have hc : chk l (l.length - 2) = decide (vl l (l.length - 2) * 256 + vl l (l.length - 1) = sm l (l.length - 2)) := by
    unfold chk
    rw [e2]
  rw [rdF_psr h, e1, hc]
  unfold acc
  rw [decide_eq_true h, Bool.true_and]
theorem fineF_acc (l : List UInt8) : (fineF l && okF (rdF l)) = isF l := by
  rw [isF_acc]
  unfold fineF
  by_cases h : l.length = lenOf l
  · rw [acc_chk h, decide_eq_true h, Bool.true_and]
  · unfold acc
    rw [decide_eq_false h]
    simp only [Bool.false_and]
theorem fine_unp {l : List UInt8} (h : fineF l = true) (ho : okF (rdF l) = true) : isF l = true ∧ unp l = rdF l := by
  have hi : isF l = true := by rw [← fineF_acc, h, ho]; rfl
  refine ⟨hi, ?_⟩
  rw [unp_yes hi, rdF_psr (isF_len hi)]
theorem fine_no {l : List UInt8} (h : fineF l = false ∨ okF (rdF l) = false) : isF l = false ∧ unp l = fr0 := by
  have hi : isF l = false := by
    rw [← fineF_acc]
    rcases h with h | h <;> simp [h]
  exact ⟨hi, unp_no hi⟩
theorem rdF_size (l : List UInt8) : (rdF l).x.size ≤ 4 := by
  unfold rdF
  split
  · exact Nat.le_refl _
  · exact Nat.zero_le _
end Go.Proofs.YtgihbilpimempaaDoor.fr
