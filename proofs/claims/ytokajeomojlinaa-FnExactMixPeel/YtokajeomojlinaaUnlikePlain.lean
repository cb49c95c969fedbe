/-
  Plain mathematics of chapter 2: a text of which one byte is another one. Nothing here speaks of a program.
-/
import Derived.Test.YtokajeomojlinaaMakePlain
import Derived.Test.YtokajeomojlinaaCatPlain
namespace Go.Proofs.Ytokajeomojlinaa.cp
open Go.Proofs.Ytokajeomojlinaa.mp

/-- the bytes of a text with one changed -/
def chgL (t : ByteArray) (a : Nat) (d : UInt8) : List UInt8 := (List.range t.size).map fun j => if j = a then by_ t j ^^^ d else by_ t j
def chg (t : ByteArray) (a : Nat) (d : UInt8) : ByteArray := ⟨(chgL t a d).toArray⟩
theorem chgL_len (t : ByteArray) (a : Nat) (d : UInt8) : (chgL t a d).length = t.size := by simp [chgL]
theorem chg_size (t : ByteArray) (a : Nat) (d : UInt8) : (chg t a d).size = t.size := by
  show (chgL t a d).toArray.size = _
  simp [chgL_len]
theorem chgL_at (t : ByteArray) (a : Nat) (d : UInt8) {j : Nat} (h : j < (chgL t a d).length) : (chgL t a d)[j] = if j = a then by_ t j ^^^ d else by_ t j := by simp [chgL]
theorem by_chg (t : ByteArray) {a : Nat} (ha : a < t.size) (d : UInt8) (j : Nat) : by_ (chg t a d) j = if j = a then by_ t j ^^^ d else by_ t j := by
  rw [by_getD]
  show (chgL t a d).getD j 0 = _
  by_cases h : j < t.size
  · have h' : j < (chgL t a d).length := by rw [chgL_len]; exact h
    rw [List.getD_eq_getElem?_getD, List.getElem?_eq_getElem h', Option.getD_some, chgL_at]
  · rw [List.getD_eq_getElem?_getD, List.getElem?_eq_none (by rw [chgL_len]; omega), if_neg (by omega), by_out (by omega)]
    rfl
theorem xor_ne {x d : UInt8} (h : d ≠ 0) : x ^^^ d ≠ x := fun e => h (by
  have : x ^^^ (x ^^^ d) = x ^^^ x := by rw [e]
  rwa [← UInt8.xor_assoc, UInt8.xor_self, UInt8.zero_xor] at this)
theorem qb_chg_far (t : ByteArray) {a : Nat} (ha : a < t.size) (d : UInt8) {i : Nat} (h : i ≠ a / 4) : qb (chg t a d) i = qb t i := by
  unfold qb
  rw [by_chg t ha, by_chg t ha, by_chg t ha, by_chg t ha, if_neg (by omega), if_neg (by omega), if_neg (by omega), if_neg (by omega)]
theorem qb_chg_ne (t : ByteArray) {a : Nat} (ha : a < t.size) {d : UInt8} (hd : d ≠ 0) : qb (chg t a d) (a / 4) ≠ qb t (a / 4) := by
  intro e
  have h4 : a % 4 = 0 ∨ a % 4 = 1 ∨ a % 4 = 2 ∨ a % 4 = 3 := by omega
  rcases h4 with h | h | h | h
  · have := congrArg Q.a e
    simp only [qb] at this
    rw [by_chg t ha, if_pos (by omega)] at this
    exact xor_ne hd this
  · have := congrArg Q.b e
    simp only [qb] at this
    rw [by_chg t ha, if_pos (by omega)] at this
    exact xor_ne hd this
  · have := congrArg Q.c e
    simp only [qb] at this
    rw [by_chg t ha, if_pos (by omega)] at this
    exact xor_ne hd this
  · have := congrArg Q.d e
    simp only [qb] at this
    rw [by_chg t ha, if_pos (by omega)] at this
    exact xor_ne hd this

/-- which blocks of two texts differ decides which sums do: the list names each block at most once -/
theorem xq_far (t u : ByteArray) (b : Nat) (h : ∀ i, i ≠ b → qb u i = qb t i) (l : List Int) (hl : ∀ x ∈ l, 0 ≤ x) (hb : (b : Int) ∉ l) : xq u l = xq t l := by
  induction l with
  | nil => rfl
  | cons x l ih =>
    show (qb u x.toNat).xor (xq u l) = (qb t x.toNat).xor (xq t l)
    have hx := hl x (List.mem_cons_self)
    have hne : x ≠ (b : Int) := fun e => hb (by rw [e]; exact List.mem_cons_self)
    rw [h x.toNat (by omega), ih (fun y hy => hl y (List.mem_cons_of_mem _ hy)) (fun hm => hb (List.mem_cons_of_mem _ hm))]
theorem xor_left {p q r : Q} (h : p.xor r = q.xor r) : p = q := by
  have := congrArg (fun x => x.xor r) h
  simp only [Q.xor_assoc, Q.xor_self, Q.xor_zero] at this
  exact this
theorem xor_right {p q r : Q} (h : r.xor p = r.xor q) : p = q := by
  rw [Q.xor_comm r p, Q.xor_comm r q] at h
  exact xor_left h
theorem xq_near (t u : ByteArray) (b : Nat) (h : ∀ i, i ≠ b → qb u i = qb t i) (hne : qb u b ≠ qb t b) (l : List Int) (hl : ∀ x ∈ l, 0 ≤ x) (hd : l.Nodup) (hb : (b : Int) ∈ l) : xq u l ≠ xq t l := by
  induction l with
  | nil => cases hb
  | cons x l ih =>
    intro e
    have e : (qb u x.toNat).xor (xq u l) = (qb t x.toNat).xor (xq t l) := e
    have hx := hl x (List.mem_cons_self)
    have hl' : ∀ y ∈ l, 0 ≤ y := fun y hy => hl y (List.mem_cons_of_mem _ hy)
    obtain ⟨hxl, hd'⟩ := List.nodup_cons.mp hd
    by_cases hxb : x = (b : Int)
    · subst hxb
      rw [xq_far t u b h l hl' hxl, Int.toNat_natCast] at e
      exact hne (xor_left e)
    · have hbl : (b : Int) ∈ l := by
        rcases List.mem_cons.mp hb with e' | e'
        · exact absurd e'.symm hxb
        · exact e'
      rw [h x.toNat (by omega)] at e
      exact ih hl' hd' hbl (xor_right e)
theorem asc_lt {lo hi : Int} {l : List Int} (h : Asc lo hi l) {i j : Nat} (hij : i < j) (hj : j < l.length) : l.getD i 0 < l.getD j 0 := by
  induction j with
  | zero => omega
  | succ j ih =>
    by_cases e : i = j
    · subst e; exact h.2 i hj
    · have h1 := ih (by omega) (by omega)
      have h2 := h.2 j hj
      omega
theorem asc_nodup {lo hi : Int} {l : List Int} (h : Asc lo hi l) : l.Nodup := by
  rw [List.Nodup, List.pairwise_iff_getElem]
  intro i j hi hj hij e
  have := asc_lt h hij hj
  simp only [List.getD_eq_getElem?_getD, List.getElem?_eq_getElem hi, List.getElem?_eq_getElem hj, Option.getD_some] at this
  omega
theorem asc_nonneg {hi : Int} {l : List Int} (h : Asc 0 hi l) : ∀ x ∈ l, 0 ≤ x := by
  intro x hx
  obtain ⟨i, hi', rfl⟩ := List.getElem_of_mem hx
  have := (h.1 i hi').1
  simpa [List.getD, hi'] using this

theorem cutN_chg (t : ByteArray) (a : Nat) (d : UInt8) : cutN (chg t a d) = cutN t := by unfold cutN; rw [chg_size]
/-- a changed byte changes just the encoded blocks that combine its block -/
theorem mk_out (t : ByteArray) {a : Nat} (ha : a < t.size) (d : UInt8) (num : Int) (h : ((a / 4 : Nat) : Int) ∉ mo (cutN t) num) : mk (chg t a d) num = mk t num := by
  unfold mk
  rw [cutN_chg, xq_far t (chg t a d) (a / 4) (fun i hi => qb_chg_far t ha d hi) _ (asc_nonneg (mo_asc _ _)) h]
theorem mk_in (t : ByteArray) {a : Nat} (ha : a < t.size) {d : UInt8} (hd : d ≠ 0) (num : Int) (h : ((a / 4 : Nat) : Int) ∈ mo (cutN t) num) : mk (chg t a d) num ≠ mk t num := by
  have hn : mo (cutN t) num ≠ [] := fun e => by rw [e] at h; cases h
  unfold mk
  rw [cutN_chg, if_neg hn, if_neg hn]
  intro e
  exact xq_near t (chg t a d) (a / 4) (fun i hi => qb_chg_far t ha d hi) (qb_chg_ne t ha hd) _ (asc_nonneg (mo_asc _ _)) (asc_nodup (mo_asc _ _)) h (Q.str_inj e)

/-- is a block among the first k of a list? -/
def inTo (l : List Int) (x : Int) (k : Nat) : Bool := (l.take k).any (· == x)
theorem inTo_on {l : List Int} {x : Int} {k : Nat} (h : k < l.length) : inTo l x (k + 1) = (inTo l x k || (l.getD k 0 == x)) := by
  unfold inTo
  rw [take_on h, List.any_append]
  simp
theorem inTo_all (l : List Int) (x : Int) : inTo l x l.length = decide (x ∈ l) := by
  unfold inTo
  rw [List.take_length, Bool.eq_iff_iff]
  simp
theorem toList_ne {x y : ByteArray} (h : x ≠ y) : (x.toList == y.toList) = false := by
  rw [beq_eq_false_iff_ne]
  intro e
  rw [ByteArray.toList_eq, ByteArray.toList_eq] at e
  apply h
  cases x; cases y
  simp at e
  rw [e]
end Go.Proofs.Ytokajeomojlinaa.cp
