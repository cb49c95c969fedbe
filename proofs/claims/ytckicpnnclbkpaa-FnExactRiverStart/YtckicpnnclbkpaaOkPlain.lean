/-
  Plain: when a message is ok.
-/
import Derived.Test.YtckicpnnclbkpaaIn0
namespace Go.Proofs.Ytckicpnnclbkpaa.ok
open Go.ChangeShapes Go.WideShapes Go.ChangeAt Go.RowKit
open Go.Proofs.Ytckicpnnclbkpaa.nb

/-- can a byte be printed? -/
def pr (c : UInt8) : Bool := decide (32 ≤ (c.toNat : Int) ∧ (c.toNat : Int) ≤ 126)
def allPr (s : ByteArray) : Bool := s.data.toList.all pr
def okS (s : ByteArray) : Bool := decide (1 ≤ s.size ∧ s.size ≤ 24)
def okN (f n t u : Int) (s : ByteArray) : Bool := inB f 0 3 && inB t 0 3 && inB n 1 99 && inB u 1 999 && okS s && allPr s
theorem pr_t {c : UInt8} (h0 : 32 ≤ (c.toNat : Int)) (h1 : (c.toNat : Int) ≤ 126) : pr c = true := decide_eq_true ⟨h0, h1⟩
theorem pr_f {c : UInt8} (h : (c.toNat : Int) < 32 ∨ 126 < (c.toNat : Int)) : pr c = false := decide_eq_false (by omega)
theorem okS_t {s : ByteArray} (h0 : 1 ≤ s.size) (h1 : s.size ≤ 24) : okS s = true := decide_eq_true ⟨h0, h1⟩
theorem okS_f {s : ByteArray} (h : s.size < 1 ∨ 24 < s.size) : okS s = false := decide_eq_false (by omega)
theorem okN_t {f n t u : Int} {s : ByteArray} (h1 : inB f 0 3 = true) (h2 : inB t 0 3 = true) (h3 : inB n 1 99 = true) (h4 : inB u 1 999 = true) (h5 : okS s = true) : okN f n t u s = allPr s := by simp [okN, h1, h2, h3, h4, h5]
theorem okN_f {f n t u : Int} {s : ByteArray} (h : inB f 0 3 = false ∨ inB t 0 3 = false ∨ inB n 1 99 = false ∨ inB u 1 999 = false ∨ okS s = false) : okN f n t u s = false := by
  rcases h with h | h | h | h | h <;> simp [okN, h]
theorem okN_bad {f n t u : Int} {s : ByteArray} (h : allPr s = false) : okN f n t u s = false := by simp [okN, h]
theorem okN_parts {f n t u : Int} {s : ByteArray} (h : okN f n t u s = true) : (0 ≤ f ∧ f ≤ 3) ∧ (1 ≤ n ∧ n ≤ 99) ∧ (0 ≤ t ∧ t ≤ 3) ∧ (1 ≤ u ∧ u ≤ 999) ∧ (1 ≤ s.size ∧ s.size ≤ 24) ∧ allPr s = true := by
  simp [okN, inB_iff, okS] at h
  obtain ⟨⟨⟨⟨⟨a, b⟩, c⟩, d⟩, e⟩, g⟩ := h
  exact ⟨a, c, b, d, e, g⟩
theorem take_snoc (s : ByteArray) (k : Nat) (h : k < s.size) : s.data.toList.take (k + 1) = s.data.toList.take k ++ [s[k]] := by
  rw [List.take_succ_eq_append_getElem (by simpa using h)]; rfl
theorem all_more {s : ByteArray} {k : Nat} (h : k < s.size) (ha : (s.data.toList.take k).all pr = true) (hp : pr s[k] = true) : (s.data.toList.take (k + 1)).all pr = true := by
  rw [take_snoc s k h, List.all_append, ha]; simp [hp]
theorem all_whole {s : ByteArray} {k : Nat} (h : s.size ≤ k) (ha : (s.data.toList.take k).all pr = true) : allPr s = true := by
  rw [List.take_of_length_le (by simpa using h)] at ha; exact ha
theorem all_not {s : ByteArray} {k : Nat} (h : k < s.size) (hp : pr s[k] = false) : allPr s = false := by
  unfold allPr
  rw [List.all_eq_false]
  refine ⟨s[k], ?_, by simp [hp]⟩
  show s.data[k] ∈ s.data.toList
  simp

/-- a message as a value -/
def note (f n t u : Int) (s : ByteArray) : Value := .agg #[.int .i64 f, .int .i64 n, .int .i64 t, .int .i64 u, .string s]
end Go.Proofs.Ytckicpnnclbkpaa.ok
