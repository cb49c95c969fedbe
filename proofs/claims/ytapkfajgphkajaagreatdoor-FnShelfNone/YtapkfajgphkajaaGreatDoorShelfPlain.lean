/-
  Plain mathematics of chapter 11: records, logs, what is read of a log. Nothing here speaks of a program.
-/
import Derived.Test.YtapkfajgphkajaaGreatDoorDecPlain
namespace Go.Proofs.YtapkfajgphkajaaGreatDoor.sh
open Go.Proofs.YtapkfajgphkajaaGreatDoor.dc

/-- a record as it is stored -/
def st (x : List UInt8) : List UInt8 := dl x.length ++ 58 :: (x ++ [59])
/-- can it be a record? -/
def rok (x : List UInt8) : Prop := 1 ≤ x.length ∧ x.length ≤ 60
instance (x : List UInt8) : Decidable (rok x) := by unfold rok; exact inferInstance
/-- what stands ahead of the first colon, and behind it -/
def hd (l : List UInt8) : List UInt8 × List UInt8 := (l.takeWhile (· != 58), (l.dropWhile (· != 58)).drop 1)
/-- the size that digits spell, 0 if none that a record can have -/
def sz (d : List UInt8) : Nat := ((List.range 61).find? fun n : Nat => decide (1 ≤ n) && d == dl (n : Int)).getD 0
/-- the record at the front, and how many bytes it has as it is stored -/
def one (l : List UInt8) : Option (List UInt8 × Nat) :=
  if sz (hd l).1 ≠ 0 ∧ (hd l).2[sz (hd l).1]? = some 59 then some ((hd l).2.take (sz (hd l).1), (hd l).1.length + sz (hd l).1 + 2) else none

theorem dl_inj {a b : Nat} (h : dl (a : Int) = dl (b : Int)) : a = b := by
  have e1 : val 0 (dl (a : Int)) = a := by unfold dl; rw [dd_val]; omega
  have e2 : val 0 (dl (b : Int)) = b := by unfold dl; rw [dd_val]; omega
  rw [← e1, ← e2, h]
theorem sz_dl {n : Nat} (h1 : 1 ≤ n) (h2 : n ≤ 60) : sz (dl n) = n := by
  unfold sz
  rw [show ((List.range 61).find? fun m : Nat => decide (1 ≤ m) && dl (n : Int) == dl (m : Int)) = some n from ?_]
  · rfl
  rw [List.find?_eq_some_iff_append]
  refine ⟨by simp [h1], List.range n, (List.range (60 - n)).map (n + 1 + ·), ?_, fun a ha => ?_⟩
  · have e : (61 : Nat) = n + (60 - n + 1) := by omega
    rw [e, List.range_add, List.range_succ_eq_map]
    simp [Function.comp_def, Nat.add_assoc, Nat.add_comm 1]
  · simp only [Bool.not_eq_eq_eq_not, Bool.not_true, Bool.and_eq_false_iff]
    refine .inr ?_
    rw [beq_eq_false_iff_ne]
    intro e
    have := dl_inj e
    simp at ha
    omega
theorem sz_pos {d : List UInt8} (h : sz d ≠ 0) : 1 ≤ sz d ∧ sz d ≤ 60 ∧ d = dl (sz d) := by
  unfold sz at h ⊢
  cases e : (List.range 61).find? fun n : Nat => decide (1 ≤ n) && d == dl (n : Int) with
  | none => rw [e] at h; exact absurd rfl h
  | some n =>
    have h1 := List.find?_some e
    have h2 := List.mem_of_find?_eq_some e
    simp at h1 h2 ⊢
    exact ⟨h1.1, by omega, h1.2⟩
theorem dg_ne58 {c : UInt8} (h : dg c = true) : c ≠ 58 := fun e => by subst e; revert h; decide
theorem hd_app {a r : List UInt8} (h : ∀ c ∈ a, c ≠ 58) : hd (a ++ 58 :: r) = (a, r) := by
  induction a with
  | nil => simp [hd]
  | cons c a ih =>
    have hc : (c != 58) = true := by simpa using h c (by simp)
    have := ih (fun x hx => h x (by simp [hx]))
    simp only [hd, Prod.mk.injEq] at this
    simp [hd, hc, this.1, this.2]
theorem hd_dl (n : Int) (r : List UInt8) : hd (dl n ++ 58 :: r) = (dl n, r) :=
  hd_app fun c hc => dg_ne58 (List.all_eq_true.1 (dl_all n) c hc)
theorem hd_none {l : List UInt8} (h : ∀ k : Nat, l[k]? ≠ some 58) : hd l = (l, []) := by
  induction l with
  | nil => rfl
  | cons c l ih =>
    have hc : (c != 58) = true := by have := h 0; simpa using this
    have := ih (fun k => by have := h (k + 1); simpa using this)
    simp only [hd, Prod.mk.injEq] at this
    simp [hd, hc, this.1, this.2]
theorem hd_at {l : List UInt8} {i : Nat} (hi : l[i]? = some 58) (hb : ∀ k, k < i → l[k]? ≠ some 58) : hd l = (l.take i, l.drop (i + 1)) := by
  have hl : i < l.length := (List.getElem?_eq_some_iff.1 hi).1
  have e : l = l.take i ++ 58 :: l.drop (i + 1) := by
    have := (List.getElem?_eq_some_iff.1 hi).2
    rw [← this, ← List.drop_eq_getElem_cons hl, List.take_append_drop]
  have hw := hd_app (a := l.take i) (r := l.drop (i + 1)) (fun c hc => by
    obtain ⟨k, hk, e'⟩ := List.mem_iff_getElem.mp hc
    intro e2
    have hk' : k < i := by rw [List.length_take] at hk; omega
    apply hb k hk'
    rw [List.getElem?_eq_getElem (by omega)]
    rw [List.getElem_take] at e'
    rw [e', e2])
  rw [← e] at hw
  exact hw

theorem st_len {x : List UInt8} (h : rok x) : x.length + 3 ≤ (st x).length ∧ (st x).length ≤ x.length + 4 := by
  have h1 : (x.length : Int) ≤ 999 := by have := h.2; omega
  have := dl_len h1
  have h2 : (dl (x.length : Int)).length ≤ 2 := by
    unfold dl
    by_cases hs : x.length < 10
    · rw [Lib.decDigits_one (by simpa using hs)]; simp
    · rw [Lib.decDigits_two (by simpa using hs) (by have := h.2; simp; omega)]; simp
  unfold st
  simp only [List.length_append, List.length_cons, List.length_nil]
  omega
theorem one_st {x : List UInt8} (h : rok x) (t : List UInt8) : one (st x ++ t) = some (x, (st x).length) := by
  have e : st x ++ t = dl x.length ++ 58 :: (x ++ 59 :: t) := by unfold st; simp
  unfold one
  rw [e, hd_dl]
  simp only
  rw [sz_dl h.1 h.2]
  have h0 : x.length ≠ 0 := by have := h.1; omega
  rw [if_pos ⟨h0, by simp⟩]
  unfold st
  simp
  omega
theorem one_some {l x : List UInt8} {k : Nat} (h : one l = some (x, k)) : rok x ∧ k = (st x).length ∧ ∃ t, l = st x ++ t := by
  unfold one at h
  split at h
  case isTrue hc =>
    obtain ⟨hc1, hc2⟩ := hc
    obtain ⟨p1, p2, p3⟩ := sz_pos hc1
    simp only [Option.some.injEq, Prod.mk.injEq] at h
    obtain ⟨hx, hk⟩ := h
    generalize hn : sz (hd l).1 = n at *
    obtain ⟨hlt, hg⟩ := List.getElem?_eq_some_iff.1 hc2
    have hxl : x.length = n := by rw [← hx, List.length_take]; omega
    have hsplit : (hd l).2 = x ++ 59 :: (hd l).2.drop (n + 1) := by
      rw [← hx, ← hg, ← List.drop_eq_getElem_cons hlt, List.take_append_drop]
    have hcol : ∃ i : Nat, l[i]? = some 58 := by
      apply Classical.byContradiction
      intro hno
      have := hd_none (l := l) (fun k e => hno ⟨k, e⟩)
      rw [this] at hlt
      simp at hlt
    have hl : l = (hd l).1 ++ 58 :: (hd l).2 := by
      have key : ∀ m : List UInt8, (∃ i : Nat, m[i]? = some 58) → m = (hd m).1 ++ 58 :: (hd m).2 := by
        intro m
        induction m with
        | nil => rintro ⟨i, hi⟩; simp at hi
        | cons c m ih =>
          rintro ⟨i, hi⟩
          by_cases hc : c = 58
          · subst hc; simp [hd]
          · have hc' : (c != 58) = true := by simpa using hc
            have := ih (by
              cases i with
              | zero => simp at hi; exact absurd hi hc
              | succ i => exact ⟨i, by simpa using hi⟩)
            simp only [hd] at this
            simp only [hd, List.takeWhile_cons, hc', if_true, List.dropWhile_cons, List.cons_append]
            rw [← this]
      exact key l hcol
    refine ⟨⟨by omega, by omega⟩, ?_, (hd l).2.drop (n + 1), ?_⟩
    · rw [← hk]; unfold st; rw [hxl, ← p3]; simp; omega
    · unfold st
      rw [hxl, ← p3]
      simp only [List.append_assoc, List.cons_append, List.nil_append]
      rw [← hsplit]
      exact hl
  case isFalse => cases h

/-- records, one behind the other, as they are stored -/
def lg : List (List UInt8) → List UInt8
  | [] => []
  | x :: xs => st x ++ lg xs
def Rks (xs : List (List UInt8)) : Prop := ∀ x ∈ xs, rok x
theorem lg_app (a b : List (List UInt8)) : lg (a ++ b) = lg a ++ lg b := by
  induction a with
  | nil => rfl
  | cons x a ih => simp [lg, ih]
theorem lg_snoc (a : List (List UInt8)) (x : List UInt8) : lg (a ++ [x]) = lg a ++ st x := by rw [lg_app]; simp [lg]
theorem Rks.app {a b : List (List UInt8)} (h1 : Rks a) (h2 : Rks b) : Rks (a ++ b) := fun x hx => by
  rcases List.mem_append.1 hx with h | h
  · exact h1 x h
  · exact h2 x h
theorem Rks.snoc {a : List (List UInt8)} {x : List UInt8} (h1 : Rks a) (h2 : rok x) : Rks (a ++ [x]) := h1.app fun y hy => by simp at hy; subst hy; exact h2
theorem Rks.nil : Rks [] := fun _ h => by cases h
theorem Rks.left {a b : List (List UInt8)} (h : Rks (a ++ b)) : Rks a := fun x hx => h x (by simp [hx])
theorem Rks.right {a b : List (List UInt8)} (h : Rks (a ++ b)) : Rks b := fun x hx => h x (by simp [hx])

theorem one_nil : one [] = none := by
  cases h : one [] with
  | none => rfl
  | some p =>
    obtain ⟨x, k⟩ := p
    obtain ⟨hx, _, t, e⟩ := one_some h
    have := st_len hx
    have := congrArg List.length e
    simp at this
    omega

/-- all records at the front of a log -/
def rdF : Nat → List UInt8 → List (List UInt8)
  | 0, _ => []
  | n + 1, l => match one l with
    | none => []
    | some (x, k) => x :: rdF n (l.drop k)
def rd (l : List UInt8) : List (List UInt8) := rdF l.length l
/-- how many bytes they have there -/
def en (l : List UInt8) : Nat := (lg (rd l)).length

theorem rdF_spec (n : Nat) : ∀ l : List UInt8, l.length ≤ n → Rks (rdF n l) ∧ ∃ t, l = lg (rdF n l) ++ t ∧ one t = none := by
  induction n with
  | zero =>
    intro l h
    have : l = [] := List.eq_nil_of_length_eq_zero (by omega)
    subst this
    exact ⟨Rks.nil, [], rfl, one_nil⟩
  | succ n ih =>
    intro l h
    unfold rdF
    cases e : one l with
    | none => exact ⟨Rks.nil, l, rfl, e⟩
    | some p =>
      obtain ⟨x, k⟩ := p
      obtain ⟨hx, hk, t, hl⟩ := one_some e
      have hs := st_len hx
      have hd : l.drop k = t := by rw [hl, hk]; simp
      have hlen : t.length ≤ n := by rw [hl, List.length_append] at h; omega
      obtain ⟨h1, u, h2, h3⟩ := ih t hlen
      simp only
      rw [hd]
      refine ⟨fun y hy => ?_, u, ?_, h3⟩
      · rcases List.mem_cons.1 hy with rfl | hy
        · exact hx
        · exact h1 y hy
      · rw [hl]; simp only [lg, List.append_assoc]; rw [← h2]
theorem rd_spec (l : List UInt8) : Rks (rd l) ∧ ∃ t, l = lg (rd l) ++ t ∧ one t = none := rdF_spec _ l (Nat.le_refl _)

/-- what begins with whole records has these records, and what is left -/
theorem lg_part : ∀ {a b : List (List UInt8)} {t u : List UInt8}, Rks a → Rks b → one u = none → lg a ++ t = lg b ++ u → ∃ c, b = a ++ c ∧ t = lg c ++ u
  | [], b, t, u, _, _, _, e => ⟨b, rfl, e⟩
  | x :: a, b, t, u, ha, hb, hu, e => by
    have hx : rok x := ha x (by simp)
    have e1 : one (lg b ++ u) = some (x, (st x).length) := by rw [← e]; simp only [lg, List.append_assoc]; exact one_st hx _
    cases b with
    | nil => simp only [lg, List.nil_append] at e1; rw [hu] at e1; cases e1
    | cons y b =>
      have hy : rok y := hb y (by simp)
      have e2 : one (lg (y :: b) ++ u) = some (y, (st y).length) := by simp only [lg, List.append_assoc]; exact one_st hy _
      rw [e2] at e1
      have exy : y = x := (Prod.mk.inj (Option.some.inj e1)).1
      subst exy
      simp only [lg, List.append_assoc] at e
      obtain ⟨c, hc, ht⟩ := lg_part (fun z hz => ha z (by simp [hz])) (fun z hz => hb z (by simp [hz])) hu (List.append_cancel_left e)
      exact ⟨c, by rw [hc]; rfl, ht⟩
theorem lg_inj {a : List (List UInt8)} (h : Rks a) (h0 : lg a = []) : a = [] := by
  cases a with
  | nil => rfl
  | cons x a =>
    have := st_len (h x (by simp))
    have e := congrArg List.length h0
    simp only [lg, List.length_append, List.length_nil] at e
    omega
theorem rd_of {a : List (List UInt8)} {u : List UInt8} (ha : Rks a) (hu : one u = none) : rd (lg a ++ u) = a := by
  obtain ⟨h1, t, h2, h3⟩ := rd_spec (lg a ++ u)
  obtain ⟨c, hc, ht⟩ := lg_part h1 ha hu h2.symm
  cases c with
  | nil => simpa using hc.symm
  | cons x c =>
    exfalso
    have hx : rok x := ha x (by rw [hc]; simp)
    rw [ht] at h3
    simp only [lg, List.append_assoc] at h3
    rw [one_st hx] at h3
    cases h3
theorem en_of {a : List (List UInt8)} {u : List UInt8} (ha : Rks a) (hu : one u = none) : en (lg a ++ u) = (lg a).length := by unfold en; rw [rd_of ha hu]
theorem rd_lg {a : List (List UInt8)} (ha : Rks a) : rd (lg a) = a := by have := rd_of ha one_nil; simpa using this
theorem en_lg {a : List (List UInt8)} (ha : Rks a) : en (lg a) = (lg a).length := by unfold en; rw [rd_lg ha]
theorem en_le (l : List UInt8) : en l ≤ l.length := by
  obtain ⟨_, t, h, _⟩ := rd_spec l
  have := congrArg List.length h
  rw [List.length_append] at this
  unfold en
  omega
theorem en_take (l : List UInt8) : l.take (en l) = lg (rd l) := by
  obtain ⟨_, t, h, _⟩ := rd_spec l
  have e : l.take (en l) = (lg (rd l) ++ t).take (lg (rd l)).length := by rw [← h]; rfl
  rw [e, List.take_left]
/-- a log of whole records alone -/
theorem whole {l : List UInt8} (h : en l = l.length) : l = lg (rd l) := by
  have := en_take l
  rwa [h, List.take_length] at this
theorem lg_count {a : List (List UInt8)} (h : Rks a) : 4 * a.length ≤ (lg a).length := by
  induction a with
  | nil => exact Nat.zero_le _
  | cons x a ih =>
    have h1 := st_len (h x (by simp))
    have h2 := (h x (by simp)).1
    have := ih (fun z hz => h z (by simp [hz]))
    simp only [lg, List.length_append, List.length_cons]
    omega

/-! the promises -/
theorem rd_app {a b : List UInt8} (h : en a = a.length) : rd (a ++ b) = rd a ++ rd b ∧ en (a ++ b) = en a + en b := by
  obtain ⟨ha, _⟩ := rd_spec a
  obtain ⟨hb, t, e, ht⟩ := rd_spec b
  have e2 : a ++ b = lg (rd a ++ rd b) ++ t := by rw [lg_app, ← whole h, List.append_assoc, ← e]
  have h1 : rd (a ++ b) = rd a ++ rd b := by rw [e2]; exact rd_of (ha.app hb) ht
  refine ⟨h1, ?_⟩
  unfold en
  rw [h1, lg_app, List.length_append]
theorem rd_take {l : List UInt8} (n : Nat) : ∃ c, rd l = rd (l.take n) ++ c := by
  obtain ⟨h1, t, e, _⟩ := rd_spec (l.take n)
  obtain ⟨h2, u, e2, hu⟩ := rd_spec l
  obtain ⟨c, hc, _⟩ := lg_part (t := t ++ l.drop n) h1 h2 hu (by rw [← List.append_assoc, ← e, List.take_append_drop]; exact e2)
  exact ⟨c, hc⟩
theorem en_mono {l : List UInt8} (n : Nat) (h : en (l.take n) = n) (m : Nat) (hm : n ≤ m) : n ≤ en (l.take m) := by
  obtain ⟨c, hc⟩ := rd_take (l := l.take m) n
  rw [List.take_take, Nat.min_eq_left hm] at hc
  unfold en at h ⊢
  rw [hc, lg_app, List.length_append]
  omega
theorem rd_back (l : List UInt8) : rd (l.take (en l)) = rd l ∧ en (l.take (en l)) = en l := by
  rw [en_take, rd_lg (rd_spec l).1, en_lg (rd_spec l).1]
  exact ⟨rfl, rfl⟩
end Go.Proofs.YtapkfajgphkajaaGreatDoor.sh
