/-
  Plain mathematics of chapter 3: numerals, words, a message's text. Nothing here speaks of a program.
-/
import Derived.Test.YtekoghcgkmldgaaDoorOkPlain
import Derived.Lib.ItoaMem
import Derived.Lib.AtoiAll
import Derived.Lib.Strings
import Derived.Lib.IndexLaws
import Derived.Laws.Concat
namespace Go.Proofs.YtekoghcgkmldgaaDoor.dc
open Go.Proofs.YtekoghcgkmldgaaDoor.nb Go.Proofs.YtekoghcgkmldgaaDoor.ok

/-- a numeral's digits, for a number that is not negative -/
def dl (n : Int) : List UInt8 := Lib.decDigits n.toNat
theorem itoa_dl {n : Int} (h : 0 ≤ n) : Lib.itoa n = dl n := by unfold Lib.itoa dl; rw [if_neg (by omega)]
theorem dd_step {u : Nat} (h : 10 ≤ u) : Lib.decDigits u = Lib.decDigits (u / 10) ++ [UInt8.ofNat (48 + u % 10)] := by
  rw [Lib.decDigits, dif_neg (by omega)]
theorem dl_one {n : Int} (h0 : 0 ≤ n) (h : n < 10) : dl n = [UInt8.ofNat (48 + n.toNat)] := Lib.decDigits_one (by omega)
theorem dl_step {n : Int} (h : 10 ≤ n) : dl n = dl (n / 10) ++ [UInt8.ofNat (48 + (n % 10).toNat)] := by
  unfold dl
  rw [dd_step (by omega)]
  congr 2
  · congr 1; omega
  · congr 3; omega

/-- is a byte a digit? -/
def dg (c : UInt8) : Bool := decide (48 ≤ c.toNat ∧ c.toNat ≤ 57)
theorem ofNat_toNat {k : Nat} (h : k < 256) : (UInt8.ofNat k).toNat = k := by simp [Nat.mod_eq_of_lt h]
theorem dg_ofNat {k : Nat} (h : k < 10) : dg (UInt8.ofNat (48 + k)) = true := by
  unfold dg; rw [ofNat_toNat (by omega)]; exact decide_eq_true (by omega)
theorem dd_all (u : Nat) : (Lib.decDigits u).all dg = true := by
  induction u using Nat.strongRecOn with
  | _ u ih =>
    by_cases h : u < 10
    · rw [Lib.decDigits_one h, List.all_cons, dg_ofNat h]; rfl
    · rw [dd_step (by omega), List.all_append, ih (u / 10) (by omega)]
      rw [List.all_cons, dg_ofNat (Nat.mod_lt u (by decide : 10 > 0))]; rfl
theorem dl_all (n : Int) : (dl n).all dg = true := dd_all _
theorem dd_len {u : Nat} (h : u < 1000) : 1 ≤ (Lib.decDigits u).length ∧ (Lib.decDigits u).length ≤ 3 := by
  by_cases h1 : u < 10
  · rw [Lib.decDigits_one h1]; simp
  · by_cases h2 : u < 100
    · rw [Lib.decDigits_two h1 h2]; simp
    · rw [dd_step (by omega), Lib.decDigits_two (by omega) (by omega)]; simp
theorem dl_len {n : Int} (h : n ≤ 999) : 1 ≤ (dl n).length ∧ (dl n).length ≤ 3 := dd_len (by omega)

/-- what digits spell, behind others -/
def val (a : Nat) (l : List UInt8) : Nat := l.foldl (fun a c => a * 10 + (c.toNat - 48)) a
theorem val_snoc (a : Nat) (l : List UInt8) (c : UInt8) : val a (l ++ [c]) = val a l * 10 + (c.toNat - 48) := by simp [val]
theorem val_ge (a : Nat) (l : List UInt8) : a ≤ val a l := by
  induction l generalizing a with
  | nil => exact Nat.le_refl _
  | cons c l ih => exact Nat.le_trans (by omega) (ih (a * 10 + (c.toNat - 48)))
theorem dd_val (u : Nat) : val 0 (Lib.decDigits u) = u := by
  induction u using Nat.strongRecOn with
  | _ u ih =>
    by_cases h : u < 10
    · rw [Lib.decDigits_one h]
      show 0 * 10 + ((UInt8.ofNat (48 + u)).toNat - 48) = u
      rw [ofNat_toNat (by omega)]; omega
    · rw [dd_step (by omega), val_snoc, ih (u / 10) (by omega), ofNat_toNat (by omega)]; omega
theorem val_lt (l : List UInt8) (h : l.all dg = true) : val 0 l < 10 ^ l.length := by
  have go : ∀ (l : List UInt8) (a : Nat), l.all dg = true → val a l < (a + 1) * 10 ^ l.length := by
    intro l
    induction l with
    | nil => intro a _; simp [val]
    | cons c l ih =>
      intro a h
      simp only [List.all_cons, Bool.and_eq_true] at h
      have hc := of_decide_eq_true h.1
      have := ih (a * 10 + (c.toNat - 48)) h.2
      show val (a * 10 + (c.toNat - 48)) l < _
      refine Nat.lt_of_lt_of_le this ?_
      rw [List.length_cons, Nat.pow_succ, Nat.mul_comm (10 ^ l.length) 10, ← Nat.mul_assoc]
      exact Nat.mul_le_mul_right _ (by omega)
  simpa using go l 0 h

theorem parse_digits (l : List UInt8) : ∀ a : Nat, l.all dg = true → val a l < 1000000000000000000 → Lib.parseUint10 a l = .ok (val a l) := by
  induction l with
  | nil => intro a _ _; rfl
  | cons c l ih =>
    intro a h hv
    simp only [List.all_cons, Bool.and_eq_true] at h
    have hc := of_decide_eq_true h.1
    have hv' : val (a * 10 + (c.toNat - 48)) l < 1000000000000000000 := hv
    have hg := val_ge (a * 10 + (c.toNat - 48)) l
    rw [Lib.parseUint10, if_pos hc, if_neg (by omega), if_neg (by omega)]
    exact ih _ h.2 hv'
theorem atoi_dl {n : Int} (h0 : 0 ≤ n) (h1 : n ≤ 999) : Lib.atoiAll (dl n) = .ok n := by
  have hl := dl_len h1
  have ha := dl_all n
  have hv : val 0 (dl n) = n.toNat := dd_val _
  generalize hd : dl n = d at hl ha hv
  match d, hl with
  | c :: r, _ =>
    have hc : dg c = true := by simp only [List.all_cons, Bool.and_eq_true] at ha; exact ha.1
    have hc' := of_decide_eq_true hc
    have e : (if c.toNat = 43 ∨ c.toNat = 45 then r else c :: r) = c :: r := if_neg (by omega)
    have hp : Lib.parseMag (c :: r) = .ok n.toNat := by
      unfold Lib.parseMag
      rw [if_neg (by simp), parse_digits _ _ ha (by omega), hv]
    unfold Lib.atoiAll
    simp only
    rw [e, hp]
    simp only
    rw [if_neg (by omega), if_neg (by omega), if_neg (by omega)]
    congr 1
    omega

/-- the first word, and what stands behind the blank that ends it -/
def word (l : List UInt8) : List UInt8 × List UInt8 := (l.takeWhile (· != 32), (l.dropWhile (· != 32)).drop 1)
theorem word_cons {c : UInt8} {l : List UInt8} (h : c ≠ 32) : word (c :: l) = (c :: (word l).1, (word l).2) := by
  have : (c != 32) = true := by simpa using h
  simp [word, this]
theorem word_blank (l : List UInt8) : word (32 :: l) = ([], l) := by simp [word]
theorem word_none : ∀ {l : List UInt8}, (∀ k : Nat, l[k]? ≠ some 32) → word l = (l, [])
  | [], _ => rfl
  | c :: l, h => by
    rw [word_cons (fun e => h 0 (by simp [e])), word_none (fun k => by have := h (k + 1); simpa using this)]
theorem word_append {a r : List UInt8} (h : ∀ c ∈ a, c ≠ 32) : word (a ++ 32 :: r) = (a, r) := by
  induction a with
  | nil => exact word_blank r
  | cons c a ih => rw [List.cons_append, word_cons (h c (by simp)), ih (fun x hx => h x (by simp [hx]))]
theorem word_at {l : List UInt8} {i : Nat} (hi : l[i]? = some 32) (hb : ∀ k, k < i → l[k]? ≠ some 32) : word l = (l.take i, l.drop (i + 1)) := by
  have hl : i < l.length := (List.getElem?_eq_some_iff.1 hi).1
  have e : l = l.take i ++ 32 :: l.drop (i + 1) := by
    have := (List.getElem?_eq_some_iff.1 hi).2
    rw [← this, ← List.drop_eq_getElem_cons hl, List.take_append_drop]
  have hw := word_append (a := l.take i) (r := l.drop (i + 1)) (fun c hc => by
    obtain ⟨k, hk, e'⟩ := List.mem_iff_getElem.mp hc
    intro e2
    have hk' : k < i := by rw [List.length_take] at hk; omega
    apply hb k hk'
    rw [List.getElem?_eq_getElem (by omega)]
    rw [List.getElem_take] at e'
    rw [e', e2])
  rw [← e] at hw
  exact hw
theorem word_len (l : List UInt8) : (word l).1.length ≤ l.length ∧ (word l).2.length ≤ l.length := by
  induction l with
  | nil => exact ⟨Nat.le_refl _, Nat.le_refl _⟩
  | cons c l ih =>
    by_cases h : c = 32
    · subst h; rw [word_blank]; simp
    · rw [word_cons h]; simp; omega
theorem dg_ne {c : UInt8} (h : dg c = true) : c ≠ 32 := fun e => by subst e; revert h; decide
theorem word_dl (n : Int) (r : List UInt8) : word (dl n ++ 32 :: r) = (dl n, r) :=
  word_append fun c hc => dg_ne (List.all_eq_true.1 (dl_all n) c hc)

/-- bytes as a string -/
def str (l : List UInt8) : ByteArray := ⟨l.toArray⟩
theorem str_data (s : ByteArray) : str s.data.toList = s := by unfold str; simp
theorem data_str (l : List UInt8) : (str l).data.toList = l := by unfold str; simp
theorem str_app (a b : List UInt8) : str a ++ str b = str (a ++ b) := ByteArray.mk_append_mk a b
theorem str_size (l : List UInt8) : (str l).size = l.length := by unfold str; simp [ByteArray.size]
theorem str_inj {a b : List UInt8} (h : str a = str b) : a = b := by rw [← data_str a, h, data_str]

/-- a message's text -/
def wl (f n t u : Int) (r : List UInt8) : List UInt8 := dl f ++ 32 :: (dl n ++ 32 :: (dl t ++ 32 :: (dl u ++ 32 :: r)))
def wr (f n t u : Int) (s : ByteArray) : ByteArray := str (wl f n t u s.data.toList)
/-- what NoteWrite answers -/
def nw (f n t u : Int) (s : ByteArray) : ByteArray := if okN f n t u s = true then wr f n t u s else str []
theorem nw_t {f n t u : Int} {s : ByteArray} (h : okN f n t u s = true) : nw f n t u s = wr f n t u s := if_pos h
theorem nw_f {f n t u : Int} {s : ByteArray} (h : okN f n t u s = false) : nw f n t u s = str [] := by unfold nw; rw [h]; rfl
theorem toList_ne {x y : ByteArray} (h : x ≠ y) : (x.toList == y.toList) = false := by
  rw [beq_eq_false_iff_ne]
  intro e
  rw [ByteArray.toList_eq, ByteArray.toList_eq] at e
  apply h
  cases x; cases y
  simp at e
  rw [e]
end Go.Proofs.YtekoghcgkmldgaaDoor.dc
