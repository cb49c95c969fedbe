/-
  Plain mathematics of chapter 2: the data of an encoded block. Nothing here speaks of a program.
-/
import Derived.Test.YtgihbilpimempaaCutPlain
import Derived.Test.YtgihbilpimempaaMixSel
namespace Go.Proofs.Ytgihbilpimempaa.cp
open Go.Proofs.Ytgihbilpimempaa.mp

/-- the exclusive or of the blocks of a text that a list names -/
def xq (t : ByteArray) : List Int → Q
  | [] => Q.zero
  | i :: l => (qb t i.toNat).xor (xq t l)
theorem xq_append (t : ByteArray) (l m : List Int) : xq t (l ++ m) = (xq t l).xor (xq t m) := by
  induction l with
  | nil => rw [List.nil_append]; show _ = Q.zero.xor _; rw [Q.zero_xor]
  | cons i l ih => show (qb t i.toNat).xor (xq t (l ++ m)) = ((qb t i.toNat).xor (xq t l)).xor (xq t m); rw [ih, Q.xor_assoc]
theorem take_on {l : List Int} {k : Nat} (h : k < l.length) : l.take (k + 1) = l.take k ++ [l.getD k 0] := by
  rw [List.take_succ_eq_append_getElem h]
  simp [List.getD, h]
theorem xq_on (t : ByteArray) {l : List Int} {k : Nat} (h : k < l.length) : xq t (l.take (k + 1)) = (xq t (l.take k)).xor (qb t (l.getD k 0).toNat) := by
  rw [take_on h, xq_append]
  show _ = _
  congr 1
  show (qb t (l.getD k 0).toNat).xor Q.zero = _
  rw [Q.xor_zero]
theorem xq_all (t : ByteArray) (l : List Int) : xq t (l.take l.length) = xq t l := by rw [List.take_length]
/-- the data of an encoded block of a text -/
def mk (t : ByteArray) (num : Int) : ByteArray := if mo (cutN t) num = [] then ⟨#[]⟩ else (xq t (mo (cutN t) num)).str
theorem mk_no {t : ByteArray} {num : Int} (h : mo (cutN t) num = []) : mk t num = ⟨#[]⟩ := if_pos h
theorem mk_yes {t : ByteArray} {num : Int} (h : mo (cutN t) num ≠ []) : mk t num = (xq t (mo (cutN t) num)).str := if_neg h
theorem mo_zero (num : Int) : mo ((0 : Nat) : Int) num = [] := mo_no (okM_f (by omega))
/-- what a list of blocks names lies within bounds -/
theorem mo_at {b num : Int} {k : Nat} (h : k < (mo b num).length) : 0 ≤ (mo b num).getD k 0 ∧ (mo b num).getD k 0 < b := (mo_asc b num).1 k h
end Go.Proofs.Ytgihbilpimempaa.cp
