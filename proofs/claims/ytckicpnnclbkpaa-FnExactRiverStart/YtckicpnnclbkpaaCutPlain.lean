/-
  Plain mathematics of chapter 2: bytes of a text, blocks of four bytes, cuts. Nothing here speaks of a program.
-/
import Derived.Below
import Derived.Lib.Strings
import Derived.Laws.BitsAllLaws
import Derived.Deep.MidRow
namespace Go.Proofs.Ytckicpnnclbkpaa.cp

/-- the byte of a text at a place; 0 behind its end -/
def by_ (t : ByteArray) (k : Nat) : UInt8 := if h : k < t.size then t[k] else 0
theorem by_in {t : ByteArray} {k : Nat} (h : k < t.size) : by_ t k = t[k] := dif_pos h
theorem by_out {t : ByteArray} {k : Nat} (h : t.size ≤ k) : by_ t k = 0 := dif_neg (by omega)

/-- a byte as the model has it -/
def bv (b : UInt8) : Value := .int .u8 b.toNat
theorem bv_one (l : List UInt8) : ∀ v ∈ l.map bv, v.oneCell' = true := by
  intro v hv
  obtain ⟨b, _, rfl⟩ := List.mem_map.1 hv
  rfl

/-- four bytes -/
structure Q where
  a : UInt8
  b : UInt8
  c : UInt8
  d : UInt8
theorem Q.ext' {p q : Q} (h1 : p.a = q.a) (h2 : p.b = q.b) (h3 : p.c = q.c) (h4 : p.d = q.d) : p = q := by
  cases p; cases q; simp_all
def Q.list (q : Q) : List UInt8 := [q.a, q.b, q.c, q.d]
def Q.str (q : Q) : ByteArray := ⟨q.list.toArray⟩
def Q.cells (q : Q) : Array Value := #[bv q.a, bv q.b, bv q.c, bv q.d]
def Q.xor (p q : Q) : Q := ⟨p.a ^^^ q.a, p.b ^^^ q.b, p.c ^^^ q.c, p.d ^^^ q.d⟩
def Q.zero : Q := ⟨0, 0, 0, 0⟩
theorem Q.str_size (q : Q) : q.str.size = 4 := rfl
theorem Q.list_len (q : Q) : q.list.length = 4 := rfl
theorem Q.cells_size (q : Q) : q.cells.size = 4 := rfl
theorem Q.cells_one (q : Q) : q.cells.all (·.oneCell') = true := all_oneCell_toArray (cs := q.list.map bv) (bv_one _)
theorem Q.cells_list (q : Q) : q.cells.toList = q.list.map bv := rfl
theorem Q.str_inj {p q : Q} (h : p.str = q.str) : p = q := by
  have h1 : p.list.toArray = q.list.toArray := congrArg ByteArray.data h
  have h2 : p.list = q.list := by simpa using congrArg Array.toList h1
  unfold Q.list at h2
  injection h2 with e1 h2
  injection h2 with e2 h2
  injection h2 with e3 h2
  injection h2 with e4 h2
  exact Q.ext' e1 e2 e3 e4
theorem Q.xor_comm (p q : Q) : p.xor q = q.xor p := Q.ext' (UInt8.xor_comm _ _) (UInt8.xor_comm _ _) (UInt8.xor_comm _ _) (UInt8.xor_comm _ _)
theorem Q.xor_assoc (p q r : Q) : (p.xor q).xor r = p.xor (q.xor r) := Q.ext' (UInt8.xor_assoc _ _ _) (UInt8.xor_assoc _ _ _) (UInt8.xor_assoc _ _ _) (UInt8.xor_assoc _ _ _)
theorem Q.xor_self (p : Q) : p.xor p = Q.zero := Q.ext' UInt8.xor_self UInt8.xor_self UInt8.xor_self UInt8.xor_self
theorem Q.xor_zero (p : Q) : p.xor Q.zero = p := Q.ext' UInt8.xor_zero UInt8.xor_zero UInt8.xor_zero UInt8.xor_zero
theorem Q.zero_xor (p : Q) : Q.zero.xor p = p := by rw [Q.xor_comm, Q.xor_zero]
theorem xor_bv (a b : UInt8) : bits .xor .u8 (a.toNat : Int) (b.toNat : Int) = ((a ^^^ b).toNat : Int) := by
  rw [u8_xor_nat _ _ a.toNat_lt b.toNat_lt, UInt8.toNat_xor]

/-- the bytes k, k+1 .. of a text, n of them -/
def bys (t : ByteArray) (k n : Nat) : List UInt8 := (List.range n).map fun j => by_ t (k + j)
theorem bys_len (t : ByteArray) (k n : Nat) : (bys t k n).length = n := by simp [bys]
theorem bys_snoc (t : ByteArray) (k n : Nat) : bys t k (n + 1) = bys t k n ++ [by_ t (k + n)] := by simp [bys, List.range_succ]
/-- block i of a text -/
def qb (t : ByteArray) (i : Nat) : Q := ⟨by_ t (4 * i), by_ t (4 * i + 1), by_ t (4 * i + 2), by_ t (4 * i + 3)⟩
theorem qb_list (t : ByteArray) (i : Nat) : (qb t i).list = bys t (4 * i) 4 := rfl
/-- into how many blocks a text is cut -/
def cutN (t : ByteArray) : Nat := if 1 ≤ t.size ∧ t.size ≤ 24 then (t.size + 3) / 4 else 0
theorem cutN_le (t : ByteArray) : cutN t ≤ 6 := by unfold cutN; split <;> omega
theorem cutN_in {t : ByteArray} (h0 : 1 ≤ t.size) (h1 : t.size ≤ 24) : cutN t = (t.size + 3) / 4 := if_pos ⟨h0, h1⟩
theorem cutN_out {t : ByteArray} (h : t.size < 1 ∨ 24 < t.size) : cutN t = 0 := if_neg (by omega)
/-- the first n blocks -/
def cutTo (t : ByteArray) (n : Nat) : List ByteArray := (List.range n).map fun i => (qb t i).str
theorem cutTo_snoc (t : ByteArray) (n : Nat) : cutTo t (n + 1) = cutTo t n ++ [(qb t n).str] := by simp [cutTo, List.range_succ]
theorem cutTo_len (t : ByteArray) (n : Nat) : (cutTo t n).length = n := by simp [cutTo]
theorem cutTo_at (t : ByteArray) {n i : Nat} (h : i < n) : (cutTo t n)[i]? = some (qb t i).str := by simp [cutTo, h]
def cut (t : ByteArray) : List ByteArray := cutTo t (cutN t)
theorem cut_len (t : ByteArray) : (cut t).length = cutN t := cutTo_len _ _
/-- the text that a program sees of a text: nothing of one that is too long -/
def fit (t : ByteArray) : ByteArray := if t.size ≤ 24 then t else ⟨#[]⟩

/-- a row of bytes, xored place by place -/
def xors (p q : ByteArray) (n : Nat) : List UInt8 := (List.range n).map fun j => by_ p j ^^^ by_ q j
theorem xors_len (p q : ByteArray) (n : Nat) : (xors p q n).length = n := by simp [xors]
theorem xors_snoc (p q : ByteArray) (n : Nat) : xors p q (n + 1) = xors p q n ++ [by_ p n ^^^ by_ q n] := by simp [xors, List.range_succ]
theorem xors_Q (p q : Q) : xors p.str q.str 4 = (p.xor q).list := rfl
end Go.Proofs.Ytckicpnnclbkpaa.cp
