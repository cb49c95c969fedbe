/-
  Plain mathematics of chapter 2: peeling the encoded blocks of a text. Nothing here speaks of a program.
-/
import Derived.Test.YtokajeomojlinaaTextC
namespace Go.Proofs.Ytokajeomojlinaa.ls
open Go.Proofs.Ytokajeomojlinaa.cp Go.Proofs.Ytokajeomojlinaa.mp Go.Proofs.Ytokajeomojlinaa.pp Go.Proofs.Ytokajeomojlinaa.pe

/-! peeling comes to an end -/
theorem cnt_step (s : St) (p : Pc) : cnt s.K 6 ≤ cnt (pp.step s p).K 6 := by
  by_cases hx : ∃ b, One p.S s.K b
  · obtain ⟨b, hb⟩ := hx
    rw [step_one hb]
    show _ ≤ cnt (upd s.K b) 6
    rw [cnt_upd' hb.1 hb.new]; omega
  · rw [step_none (fun b hb => hx ⟨b, hb⟩)]; exact Nat.le_refl _
theorem cnt_part (ps : List Pc) (s : St) : cnt s.K 6 ≤ cnt (pp.part ps s).K 6 := by
  induction ps generalizing s with
  | nil => exact Nat.le_refl _
  | cons p ps ih => exact Nat.le_trans (cnt_step s p) (ih _)
theorem part_grows (ps : List Pc) (s : St) : pp.Still ps s ∨ cnt s.K 6 < cnt (pp.part ps s).K 6 := by
  induction ps generalizing s with
  | nil => left; intro p hp; cases hp
  | cons p ps ih =>
    by_cases hx : ∃ b, One p.S s.K b
    · right
      obtain ⟨b, hb⟩ := hx
      have h1 : cnt s.K 6 < cnt (pp.step s p).K 6 := by
        rw [step_one hb]
        show _ < cnt (upd s.K b) 6
        rw [cnt_upd' hb.1 hb.new]; omega
      exact Nat.lt_of_lt_of_le h1 (cnt_part ps _)
    · have hn : ∀ b, ¬ One p.S s.K b := fun b hb => hx ⟨b, hb⟩
      have e : pp.part (p :: ps) s = pp.part ps s := by show pp.part ps (pp.step s p) = _; rw [step_none hn]
      rw [e]
      rcases ih s with h | h
      · left
        intro q hq
        rcases List.mem_cons.mp hq with rfl | hq
        · exact hn
        · exact h q hq
      · exact .inr h
theorem fin_exists (ps : List Pc) : ∃ s, pp.Fin ps s := by
  have : ∀ m, (∃ s, pp.Fin ps s) ∨ ∃ k, m ≤ cnt (pp.iter ps k).K 6 := by
    intro m
    induction m with
    | zero => exact .inr ⟨0, Nat.zero_le _⟩
    | succ m ih =>
      rcases ih with h | ⟨k, hk⟩
      · exact .inl h
      · rcases part_grows ps (pp.iter ps k) with h | h
        · exact .inl ⟨_, ⟨k, rfl⟩, h⟩
        · exact .inr ⟨k + 1, by show m + 1 ≤ cnt (pp.part ps (pp.iter ps k)).K 6; omega⟩
  rcases this 7 with h | ⟨k, hk⟩
  · exact h
  · have := cnt_le (pp.iter ps k).K 6; omega
theorem fin_spec (ps : List Pc) : pp.Fin ps (fin ps) := by
  obtain ⟨s, hs⟩ := fin_exists ps
  rw [fin_eq hs]; exact hs
/-- what holds at first, and is kept by each step, holds at the end -/
theorem fin_ind {ps : List Pc} (P : St → Prop) (h0 : P ini) (hs : ∀ s p, p ∈ ps → P s → P (pp.step s p)) : P (fin ps) := by
  have hp : ∀ (qs : List Pc), (∀ q ∈ qs, q ∈ ps) → ∀ s, P s → P (pp.part qs s) := by
    intro qs
    induction qs with
    | nil => intro _ s h; exact h
    | cons q qs ih => intro hq s h; exact ih (fun x hx => hq x (List.mem_cons_of_mem _ hx)) _ (hs s q (hq q List.mem_cons_self) h)
  have hi : ∀ k, P (pp.iter ps k) := by
    intro k
    induction k with
    | zero => exact h0
    | succ k ih => exact hp ps (fun _ h => h) _ ih
  obtain ⟨⟨k, hk⟩, _⟩ := fin_spec ps
  rw [hk]; exact hi k

/-! right data -/
theorem sm_xor (S : Nat → Bool) (D E : Nat → Q) (n : Nat) : (sm S E n).xor (sm S D n) = sm S (fun i => (E i).xor (D i)) n := by
  induction n with
  | zero => exact Q.xor_zero _
  | succ n ih =>
    simp only [sm]
    rw [← ih]
    cases S n with
    | false => simp [Q.xor_zero]
    | true =>
      simp only [if_true]
      rw [Q.xor_assoc, Q.xor_assoc]
      congr 1
      rw [← Q.xor_assoc, Q.xor_comm (E n), Q.xor_assoc]
theorem sm_zero {S : Nat → Bool} {D : Nat → Q} {n : Nat} (h : ∀ i, i < n → S i = true → D i = Q.zero) : sm S D n = Q.zero := by
  induction n with
  | zero => rfl
  | succ n ih =>
    simp only [sm]
    rw [ih (fun i hi => h i (by omega))]
    cases hS : S n with
    | false => simp [Q.xor_zero]
    | true => rw [if_pos rfl, h n (by omega) hS, Q.xor_zero]
theorem sm_single {S : Nat → Bool} {D : Nat → Q} {b n : Nat} (hb : b < n) (hS : S b = true) (h : ∀ i, i < n → S i = true → i ≠ b → D i = Q.zero) : sm S D n = D b := by
  induction n with
  | zero => omega
  | succ n ih =>
    simp only [sm]
    by_cases e : b = n
    · subst e
      rw [sm_zero (fun i hi hs => h i (by omega) hs (by omega)), hS, if_pos rfl, Q.zero_xor]
    · rw [ih (by omega) (fun i hi => h i (by omega))]
      cases hn : S n with
      | false => simp [Q.xor_zero]
      | true => rw [if_pos rfl, h n (by omega) hn (by omega), Q.xor_zero]
/-- an encoded block of a text -/
def Tp (E : Nat → Q) (p : Pc) : Prop := p.d = sm p.S E 6
/-- what is known is right -/
def Rt (E : Nat → Q) (s : St) : Prop := ∀ i, (s.K i = true → s.D i = E i) ∧ (s.K i = false → s.D i = Q.zero)
theorem Rt.det {E : Nat → Q} {s : St} (h : Rt E s) {p : Pc} (hp : Tp E p) {b : Nat} (ho : One p.S s.K b) : Rt E (pp.det s p b) := by
  obtain ⟨g1, g2⟩ := lk_t.mp ho.2.1
  have hd : p.d.xor (sm p.S s.D 6) = E b := by
    rw [hp, sm_xor]
    rw [sm_single ho.1 g1 (fun i hi hS hne => ?_)]
    · show (E b).xor (s.D b) = _
      rw [(h b).2 g2, Q.xor_zero]
    · cases hK : s.K i with
      | true => show (E i).xor (s.D i) = _; rw [(h i).1 hK, Q.xor_self]
      | false => exact absurd (ho.2.2 i hi (lk_t.mpr ⟨hS, hK⟩)) hne
  intro i
  by_cases e : i = b
  · subst e
    refine ⟨fun _ => ?_, fun hk => by simp [pp.det, upd] at hk⟩
    show updQ s.D i _ i = _
    unfold updQ; rw [if_pos rfl]; exact hd
  · have hK : (pp.det s p b).K i = s.K i := by show upd s.K b i = _; unfold upd; rw [if_neg e]
    have hD : (pp.det s p b).D i = s.D i := by show updQ s.D b _ i = _; unfold updQ; rw [if_neg e]
    rw [hK, hD]; exact h i
theorem Rt.fin {E : Nat → Q} {ps : List Pc} (hp : ∀ p ∈ ps, Tp E p) : Rt E (pp.fin ps) :=
  fin_ind (Rt E) (fun _ => ⟨fun h => (by cases h), fun _ => rfl⟩) (fun s p hm h => by
    by_cases hx : ∃ b, One p.S s.K b
    · obtain ⟨b, hb⟩ := hx
      rw [step_one hb]; exact h.det (hp p hm) hb
    · rw [step_none (fun b hb => hx ⟨b, hb⟩)]; exact h)
/-- what is known lies in every set that peeling can't leave -/
theorem known_in {ps : List Pc} {C : Nat → Bool} (hC : ∀ p ∈ ps, ∀ b, ¬ One p.S C b) : ∀ i, (fin ps).K i = true → C i = true :=
  fin_ind (fun s => ∀ i, s.K i = true → C i = true) (fun _ h => by cases h) (fun s p hm h => by
    by_cases hx : ∃ b, One p.S s.K b
    · obtain ⟨b, hb⟩ := hx
      rw [step_one hb]
      intro i hi
      by_cases e : i = b
      · subst e
        cases hc : C i with
        | true => rfl
        | false =>
          refine absurd ?_ (hC p hm i)
          obtain ⟨g1, g2⟩ := lk_t.mp hb.2.1
          refine ⟨hb.1, lk_t.mpr ⟨g1, hc⟩, fun j hj hl => ?_⟩
          obtain ⟨k1, k2⟩ := lk_t.mp hl
          refine hb.2.2 j hj (lk_t.mpr ⟨k1, ?_⟩)
          cases hk : s.K j with
          | false => rfl
          | true => rw [h j hk] at k2; cases k2
      · have hi' : upd s.K b i = true := hi
        unfold upd at hi'
        rw [if_neg e] at hi'
        exact h i hi'
    · rw [step_none (fun b hb => hx ⟨b, hb⟩)]; exact h)
/-- more encoded blocks: no less is known -/
theorem known_more {ps qs : List Pc} (h : ∀ p ∈ ps, p ∈ qs) : ∀ i, (fin ps).K i = true → (fin qs).K i = true :=
  known_in (fun p hp b => (fin_spec qs).2 p (h p hp) b)
theorem known_same {ps qs : List Pc} (h : ∀ p, p ∈ ps ↔ p ∈ qs) (i : Nat) : (fin ps).K i = (fin qs).K i := by
  rw [Bool.eq_iff_iff]
  exact ⟨known_more (fun p hp => (h p).mp hp) i, known_more (fun p hp => (h p).mpr hp) i⟩

/-! the encoded blocks of a text -/
def TL (t : ByteArray) (l : List Mx) : Prop := ∀ m ∈ l, m.2 = mk t m.1
theorem xq_xL (t : ByteArray) (l : List Int) : xq t l = xL (qb t) l := by
  induction l with
  | nil => rfl
  | cons i l ih => show (qb t i.toNat).xor (xq t l) = (qb t i.toNat).xor (xL (qb t) l); rw [ih]
theorem qb_str (q : Q) : qb q.str 0 = q := rfl
theorem tl_pieces {t : ByteArray} {l : List Mx} (h : TL t l) : ∀ p ∈ pcs (cutN t) l, Tp (qb t) p := by
  intro p hp
  unfold pcs at hp
  obtain ⟨m, hm, rfl⟩ := List.mem_map.mp hp
  obtain ⟨hml, hok⟩ := List.mem_filter.mp hm
  obtain ⟨num, d⟩ := m
  have hd : d = mk t num := h (num, d) hml
  have hs : d.size = 4 := by
    unfold okP at hok
    simp at hok
    exact hok.2
  have hne : mo (cutN t) num ≠ [] := fun e => by
    rw [mk_no e] at hd
    rw [hd] at hs
    cases hs
  rw [mk_yes hne] at hd
  show qb d 0 = sm (inL (mo (cutN t) num)) (qb t) 6
  have h6 : ∀ x ∈ mo (cutN t : Int) num, x < 6 := fun x hx => by have := asc_lt' (mo_asc (cutN t : Int) num) x hx; have := cutN_le t; omega
  rw [hd, qb_str, xq_xL, xL_sm _ (asc_nonneg (mo_asc _ _)) h6 (asc_nodup (mo_asc _ _))]
/-- decoded from its own encoded blocks, a text is the text, or nothing -/
theorem catD_cat {D : Nat → Q} {t : ByteArray} {n : Nat} (h : ∀ i, i < n → D i = qb t i) : catD D n = cat t n := by
  induction n with
  | zero => rfl
  | succ n ih => rw [← catD_on, ← cat_on, ih (fun i hi => h i (by omega)), h n (by omega)]
theorem txt_true {t : ByteArray} (h0 : 1 ≤ t.size) (h1 : t.size ≤ 24) {l : List Mx} (h : TL t l) :
    (allK (fin (pcs (cutN t) l)) (cutN t) = true ∧ txt t.size l = (t, true)) ∨ (allK (fin (pcs (cutN t) l)) (cutN t) = false ∧ txt t.size l = (⟨#[]⟩, false)) := by
  have hR := Rt.fin (tl_pieces h)
  have hN := cutN_in h0 h1
  rw [hN] at hR ⊢
  cases hA : allK (fin (pcs (((t.size + 3) / 4 : Nat) : Int) l)) ((t.size + 3) / 4) with
  | false =>
    right
    refine ⟨rfl, txt_no l (fun hh => ?_)⟩
    rw [hA] at hh; cases hh.1
  | true =>
    left
    refine ⟨rfl, ?_⟩
    have hc : catD (fin (pcs (((t.size + 3) / 4 : Nat) : Int) l)).D ((t.size + 3) / 4) = cat t ((t.size + 3) / 4) := catD_cat (fun i hi => (hR i).1 (of_decide_eq_true hA i hi))
    have hz : zr (cat t ((t.size + 3) / 4)) t.size = true := decide_eq_true (fun i hi hk => by rw [by_in hi, cat_get t _ hi]; exact by_out hk)
    rw [txt_yes h0 h1 l ⟨hA, by rw [hc]; exact hz⟩, hc, cat_text t (by omega)]
end Go.Proofs.Ytokajeomojlinaa.ls
