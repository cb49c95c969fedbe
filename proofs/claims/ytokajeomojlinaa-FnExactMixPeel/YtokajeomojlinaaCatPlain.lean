/-
  Plain mathematics of chapter 2: the blocks of a text, one behind the other. Nothing here speaks of a program.
-/
import Derived.Test.YtokajeomojlinaaCutPlain
import Derived.Laws.Concat
namespace Go.Proofs.Ytokajeomojlinaa.cp

theorem by_getD (s : ByteArray) (k : Nat) : by_ s k = s.data.toList.getD k 0 := by
  unfold by_
  by_cases h : k < s.size
  · rw [dif_pos h]
    have h' : k < s.data.toList.length := by simpa using h
    rw [List.getD_eq_getElem?_getD, List.getElem?_eq_getElem h']
    rfl
  · rw [dif_neg h]
    have h' : s.data.toList.length ≤ k := by simpa using h
    rw [List.getD_eq_getElem?_getD, List.getElem?_eq_none h']
    rfl
theorem bys_append (t : ByteArray) (k m n : Nat) : bys t k (m + n) = bys t k m ++ bys t (k + m) n := by
  induction n with
  | zero => simp [bys]
  | succ n ih => rw [← Nat.add_assoc, bys_snoc, ih, bys_snoc, List.append_assoc, Nat.add_assoc]
/-- the first n blocks of a text, one behind the other -/
def cat (t : ByteArray) (n : Nat) : ByteArray := ⟨(bys t 0 (4 * n)).toArray⟩
theorem cat_zero (t : ByteArray) : cat t 0 = ⟨#[]⟩ := rfl
theorem cat_size (t : ByteArray) (n : Nat) : (cat t n).size = 4 * n := by
  show (bys t 0 (4 * n)).toArray.size = _
  simp [bys_len]
theorem cat_on (t : ByteArray) (n : Nat) : cat t n ++ (qb t n).str = cat t (n + 1) := by
  unfold cat Q.str
  rw [ByteArray.mk_append_mk, qb_list, show 4 * (n + 1) = 4 * n + 4 by omega, bys_append, Nat.zero_add]
theorem cat_get (t : ByteArray) (n : Nat) {i : Nat} (h : i < (cat t n).size) : (cat t n)[i] = by_ t i := by
  have h1 : i < 4 * n := by rw [cat_size] at h; exact h
  rw [← by_in h, by_getD]
  show (bys t 0 (4 * n)).getD i 0 = _
  simp [bys, h1]
theorem bys_all (t : ByteArray) : bys t 0 t.size = t.data.toList := by
  apply List.ext_getElem?
  intro i
  by_cases h : i < t.size
  · have h' : i < t.data.toList.length := by simpa using h
    rw [List.getElem?_eq_getElem h']
    simp [bys, h, by_getD]
  · have h' : t.data.toList.length ≤ i := by simpa using h
    rw [List.getElem?_eq_none h', List.getElem?_eq_none (by rw [bys_len]; omega)]
theorem cat_text (t : ByteArray) {n : Nat} (h : t.size ≤ 4 * n) : (cat t n).extract 0 t.size = t := by
  rw [Lib.extract_eq]
  have e : ((cat t n).data.toList.drop 0).take (t.size - 0) = t.data.toList := by
    show ((bys t 0 (4 * n)).drop 0).take (t.size - 0) = _
    rw [List.drop_zero, Nat.sub_zero, ← bys_all t, show 4 * n = t.size + (4 * n - t.size) by omega, bys_append, List.take_append_of_le_length (by rw [bys_len]; omega), List.take_of_length_le (by rw [bys_len]; omega)]
  rw [e]
end Go.Proofs.Ytokajeomojlinaa.cp
