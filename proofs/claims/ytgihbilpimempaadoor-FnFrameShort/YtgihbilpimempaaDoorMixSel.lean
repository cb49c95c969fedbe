/-
  Plain mathematics of chapter 1: which blocks an encoded block combines. Nothing here speaks of a program.
-/
import Derived.Test.YtgihbilpimempaaDoorMixPlain
namespace Go.Proofs.YtgihbilpimempaaDoor.mp

/-- which are selected, with one more -/
def upd (u : Nat → Bool) (p : Nat) : Nat → Bool := fun i => if i = p then true else u i
/-- from c on, cyclically among b, the first one that is not selected; f steps at the most -/
def pr (b : Nat) (u : Nat → Bool) : Nat → Nat → Nat
  | 0, c => c
  | f + 1, c => if u c then pr b u f ((c + 1) % b) else c
/-- how many of the first n are selected -/
def cnt (u : Nat → Bool) : Nat → Nat
  | 0 => 0
  | n + 1 => cnt u n + if u n then 1 else 0
/-- the selected ones of the first n -/
def lst (u : Nat → Bool) : Nat → List Int
  | 0 => []
  | n + 1 => lst u n ++ if u n then [(n : Int)] else []
/-- the number drawn behind m steps -/
def stx (x : Int) : Nat → Int
  | 0 => x
  | m + 1 => rnd (stx x m)
/-- the block that is drawn at a step -/
def at_ (b : Nat) (x : Int) (m : Nat) : Nat := (rnd (stx x m) / 16 % b).toNat
/-- what is selected behind m steps -/
def stu (b : Nat) (x : Int) : Nat → Nat → Bool
  | 0 => fun _ => false
  | m + 1 => upd (stu b x m) (pr b (stu b x m) b (at_ b x m))

theorem pr_hit {b f c : Nat} {u : Nat → Bool} (h : u c = false) : pr b u f c = c := by
  cases f with
  | zero => rfl
  | succ f => simp [pr, h]
theorem pr_miss {b f c : Nat} {u : Nat → Bool} (h : u c = true) : pr b u (f + 1) c = pr b u f ((c + 1) % b) := by simp [pr, h]
theorem pr_free {b : Nat} {u : Nat → Bool} (hb : 0 < b) : ∀ (f c : Nat), c < b → (∃ k, k < f ∧ u ((c + k) % b) = false) → u (pr b u f c) = false ∧ pr b u f c < b := by
  intro f
  induction f with
  | zero => rintro c hc ⟨k, hk, _⟩; omega
  | succ f ih =>
    rintro c hc ⟨k, hk, hu⟩
    cases huc : u c with
    | false => rw [pr_hit huc]; exact ⟨huc, hc⟩
    | true =>
      rw [pr_miss huc]
      refine ih _ (Nat.mod_lt _ hb) ?_
      cases k with
      | zero => rw [Nat.add_zero, Nat.mod_eq_of_lt hc, huc] at hu; cases hu
      | succ k =>
        refine ⟨k, by omega, ?_⟩
        rw [← hu, Nat.mod_add_mod]
        congr 2; omega
theorem reach {b c c0 : Nat} (hc : c < b) (h0 : c0 < b) : ∃ k, k < b ∧ (c + k) % b = c0 := by
  refine ⟨(c0 + b - c) % b, Nat.mod_lt _ (by omega), ?_⟩
  rw [Nat.add_mod_mod, show c + (c0 + b - c) = c0 + b by omega, Nat.add_mod_right, Nat.mod_eq_of_lt h0]
theorem cnt_le (u : Nat → Bool) (n : Nat) : cnt u n ≤ n := by
  induction n with
  | zero => simp [cnt]
  | succ n ih => simp only [cnt]; split <;> omega
theorem cnt_free {u : Nat → Bool} {n : Nat} (h : cnt u n < n) : ∃ c, c < n ∧ u c = false := by
  induction n with
  | zero => omega
  | succ n ih =>
    cases hn : u n with
    | false => exact ⟨n, by omega, hn⟩
    | true =>
      simp only [cnt, hn, if_true] at h
      obtain ⟨c, hc, hu⟩ := ih (by omega)
      exact ⟨c, by omega, hu⟩
theorem cnt_upd_out {u : Nat → Bool} {p n : Nat} (h : n ≤ p) : cnt (upd u p) n = cnt u n := by
  induction n with
  | zero => rfl
  | succ n ih =>
    simp only [cnt]
    rw [ih (by omega)]
    have : upd u p n = u n := by unfold upd; rw [if_neg (by omega)]
    rw [this]
theorem cnt_upd {u : Nat → Bool} {p n : Nat} (h : p < n) (hu : u p = false) : cnt (upd u p) n = cnt u n + 1 := by
  induction n with
  | zero => omega
  | succ n ih =>
    simp only [cnt]
    by_cases e : n = p
    · subst e
      rw [cnt_upd_out (Nat.le_refl _), hu]
      simp [upd]
    · rw [ih (by omega)]
      have : upd u p n = u n := by unfold upd; rw [if_neg e]
      rw [this]; omega
theorem lst_len (u : Nat → Bool) (n : Nat) : (lst u n).length = cnt u n := by
  induction n with
  | zero => rfl
  | succ n ih => simp only [lst, cnt, List.length_append, ih]; split <;> simp
theorem lst_more {u : Nat → Bool} {b : Nat} (h : ∀ i, b ≤ i → u i = false) (k : Nat) : lst u (b + k) = lst u b := by
  induction k with
  | zero => rfl
  | succ k ih => rw [← Nat.add_assoc]; simp only [lst]; rw [ih, h (b + k) (by omega)]; simp
theorem at_lt {b : Nat} (hb : 0 < b) (x : Int) (m : Nat) : at_ b x m < b := by
  have h0 : 0 ≤ rnd (stx x m) / 16 % (b : Int) := Int.emod_nonneg _ (by omega)
  have h1 : rnd (stx x m) / 16 % (b : Int) < b := Int.emod_lt_of_pos _ (by omega)
  unfold at_; omega
theorem stx_range {x : Int} (h0 : 0 ≤ x) (h1 : x ≤ 65535) (m : Nat) : 0 ≤ stx x m ∧ stx x m ≤ 65535 := by
  cases m with
  | zero => exact ⟨h0, h1⟩
  | succ m => exact rnd_range _
/-- as long as not all are selected a free one is found -/
theorem find {b : Nat} {u : Nat → Bool} {c : Nat} (hc : c < b) (h : cnt u b < b) : u (pr b u b c) = false ∧ pr b u b c < b := by
  obtain ⟨c0, h0, hu⟩ := cnt_free h
  obtain ⟨k, hk, e⟩ := reach hc h0
  exact pr_free (by omega) b c hc ⟨k, hk, by rw [e]; exact hu⟩
theorem stu_cnt {b : Nat} (hb : 0 < b) (x : Int) (m : Nat) (hm : m ≤ b) : cnt (stu b x m) b = m ∧ ∀ i, b ≤ i → stu b x m i = false := by
  induction m with
  | zero =>
    refine ⟨?_, fun _ _ => rfl⟩
    have : ∀ n, cnt (stu b x 0) n = 0 := fun n => by
      induction n with
      | zero => rfl
      | succ n ih => simp only [cnt, ih]; simp [stu]
    exact this b
  | succ m ih =>
    obtain ⟨h1, h2⟩ := ih (by omega)
    obtain ⟨h3, h4⟩ := find (c := at_ b x m) (at_lt hb x m) (u := stu b x m) (by omega)
    refine ⟨?_, fun i hi => ?_⟩
    · show cnt (upd _ _) b = m + 1
      rw [cnt_upd h4 h3, h1]
    · show upd _ _ i = false
      unfold upd
      rw [if_neg (by omega)]
      exact h2 i hi
/-- which blocks, the arguments in range -/
def moN (b : Nat) (num : Int) : List Int := if num < b then [num] else lst (stu b (rnd (7 * num + 1)) (mdN b num)) b
/-- which blocks, at every argument -/
def mo (blocks num : Int) : List Int := if okM blocks num = true then moN blocks.toNat num else []
theorem mo_no {blocks num : Int} (h : okM blocks num = false) : mo blocks num = [] := by simp [mo, h]
theorem mo_yes {b : Nat} {num : Int} (h : okM b num = true) : mo b num = moN b num := by simp [mo, h]
theorem moN_len {b : Nat} {num : Int} (b0 : 1 ≤ b) : (moN b num).length = mdN b num := by
  obtain ⟨r0, r1⟩ := mdN_range b0 num
  by_cases h : num < b
  · unfold moN mdN; rw [if_pos h, if_pos h]; rfl
  · unfold moN; rw [if_neg h, lst_len, (stu_cnt (by omega) _ _ r1).1]
theorem mo_len (blocks num : Int) : ((mo blocks num).length : Int) = md blocks num := by
  cases h : okM blocks num with
  | false => rw [mo_no h, md_no h]; rfl
  | true =>
    obtain ⟨b0, b1, n0, n1⟩ := okM_out h
    obtain ⟨b, rfl⟩ := Int.eq_ofNat_of_zero_le (show 0 ≤ blocks by omega)
    rw [mo_yes h, md_yes h, moN_len (by omega)]
theorem mo_small (blocks num : Int) : (mo blocks num).length ≤ 6 := by
  cases h : okM blocks num with
  | false => rw [mo_no h]; simp
  | true =>
    obtain ⟨b0, b1, n0, n1⟩ := okM_out h
    obtain ⟨b, rfl⟩ := Int.eq_ofNat_of_zero_le (show 0 ≤ blocks by omega)
    rw [mo_yes h, moN_len (by omega)]
    have := mdN_range (b := b) (by omega) num
    omega

/-- ascending, within bounds -/
def Asc (lo hi : Int) (l : List Int) : Prop := (∀ i, i < l.length → lo ≤ l.getD i 0 ∧ l.getD i 0 < hi) ∧ ∀ i, i + 1 < l.length → l.getD i 0 < l.getD (i + 1) 0
theorem Asc.snoc {lo : Int} {n : Nat} {l : List Int} (h : Asc lo n l) (hlo : lo ≤ n) : Asc lo ((n : Int) + 1) (l ++ [(n : Int)]) := by
  refine ⟨fun i hi => ?_, fun i hi => ?_⟩
  · simp at hi
    by_cases e : i < l.length
    · have := h.1 i e
      have e2 : (l ++ [(n : Int)]).getD i 0 = l.getD i 0 := by simp [List.getD, List.getElem?_append_left e]
      rw [e2]; omega
    · obtain rfl : i = l.length := by omega
      simp; omega
  · simp at hi
    by_cases e : i + 1 < l.length
    · have := h.2 i e
      have e1 : (l ++ [(n : Int)]).getD i 0 = l.getD i 0 := by simp [List.getD, List.getElem?_append_left (show i < l.length by omega)]
      have e2 : (l ++ [(n : Int)]).getD (i + 1) 0 = l.getD (i + 1) 0 := by simp [List.getD, List.getElem?_append_left e]
      rw [e1, e2]; exact this
    · have e0 : i + 1 = l.length := by omega
      have := (h.1 i (by omega)).2
      have e1 : (l ++ [(n : Int)]).getD i 0 = l.getD i 0 := by simp [List.getD, List.getElem?_append_left (show i < l.length by omega)]
      rw [e1, e0]; simp; exact this
theorem Asc.wide {lo hi hi' : Int} {l : List Int} (h : Asc lo hi l) (hh : hi ≤ hi') : Asc lo hi' l :=
  ⟨fun i hi' => by have := h.1 i hi'; omega, h.2⟩
theorem lst_asc (u : Nat → Bool) (n : Nat) : Asc 0 n (lst u n) := by
  induction n with
  | zero => exact ⟨fun i hi => by simp [lst] at hi, fun i hi => by simp [lst] at hi⟩
  | succ n ih =>
    simp only [lst]
    cases u n with
    | false => simpa using ih.wide (by omega)
    | true => simpa using ih.snoc (by omega)
theorem mo_asc (blocks num : Int) : Asc 0 blocks (mo blocks num) := by
  cases h : okM blocks num with
  | false => rw [mo_no h]; exact ⟨fun i hi => by simp at hi, fun i hi => by simp at hi⟩
  | true =>
    obtain ⟨b0, b1, n0, n1⟩ := okM_out h
    obtain ⟨b, rfl⟩ := Int.eq_ofNat_of_zero_le (show 0 ≤ blocks by omega)
    rw [mo_yes h]
    unfold moN
    split
    · refine ⟨fun i hi => ?_, fun i hi => by simp at hi⟩
      simp at hi; subst hi; simp; omega
    · exact lst_asc _ _
theorem mo_first {b : Nat} {i : Nat} (b1 : b ≤ 6) (hi : i < b) : mo b i = [(i : Int)] := by
  rw [mo_yes (okM_t (by omega) (by omega) (by omega) (by omega))]
  unfold moN
  rw [if_pos (by omega)]
end Go.Proofs.YtgihbilpimempaaDoor.mp
