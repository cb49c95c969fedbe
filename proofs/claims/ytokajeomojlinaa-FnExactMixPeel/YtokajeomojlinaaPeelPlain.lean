/-
  Plain mathematics of chapter 2: peeling, by passes over a list and by a queue of turns. Nothing here speaks of a program.
-/
import Derived.Test.YtokajeomojlinaaCutPlain
import Derived.Test.YtokajeomojlinaaMixSel
namespace Go.Proofs.Ytokajeomojlinaa.pp
open Go.Proofs.Ytokajeomojlinaa.cp Go.Proofs.Ytokajeomojlinaa.mp

/-- which blocks are known, and their data: zero as long as unknown -/
structure St where
  K : Nat → Bool
  D : Nat → Q
/-- an encoded block: what it is of, its data -/
structure Pc where
  S : Nat → Bool
  d : Q
def updQ (D : Nat → Q) (b : Nat) (q : Q) : Nat → Q := fun i => if i = b then q else D i
/-- the sum of the blocks below n of a set -/
def sm (S : Nat → Bool) (D : Nat → Q) : Nat → Q
  | 0 => Q.zero
  | n + 1 => (sm S D n).xor (if S n then D n else Q.zero)
/-- a set without another -/
def mns (f g : Nat → Bool) : Nat → Bool := fun i => f i && !g i
/-- block i is lacking -/
def lk (S K : Nat → Bool) (i : Nat) : Bool := S i && !K i
/-- block b is lacking, alone -/
def One (S K : Nat → Bool) (b : Nat) : Prop := b < 6 ∧ lk S K b = true ∧ ∀ i, i < 6 → lk S K i = true → i = b
theorem One.uniq {S K : Nat → Bool} {a b : Nat} (h : One S K a) (k : One S K b) : a = b := k.2.2 a h.1 h.2.1
theorem lk_t {S K : Nat → Bool} {i : Nat} : lk S K i = true ↔ S i = true ∧ K i = false := by unfold lk; simp
def det (s : St) (p : Pc) (b : Nat) : St := ⟨upd s.K b, updQ s.D b (p.d.xor (sm p.S s.D 6))⟩
open Classical in
/-- one encoded block is looked at -/
noncomputable def step (s : St) (p : Pc) : St := if h : ∃ b, One p.S s.K b then det s p (Classical.choose h) else s
theorem step_one {s : St} {p : Pc} {b : Nat} (h : One p.S s.K b) : step s p = det s p b := by
  have hx : ∃ b, One p.S s.K b := ⟨b, h⟩
  unfold step
  rw [dif_pos hx]
  rw [(Classical.choose_spec hx).uniq h]
theorem step_none {s : St} {p : Pc} (h : ∀ b, ¬ One p.S s.K b) : step s p = s := by
  unfold step
  rw [dif_neg (fun ⟨b, hb⟩ => h b hb)]
noncomputable def part (ps : List Pc) (s : St) : St := ps.foldl step s
def ini : St := ⟨fun _ => false, fun _ => Q.zero⟩
/-- behind k passes -/
noncomputable def iter (ps : List Pc) : Nat → St
  | 0 => ini
  | k + 1 => part ps (iter ps k)
theorem part_append (a b : List Pc) (s : St) : part (a ++ b) s = part b (part a s) := by unfold part; rw [List.foldl_append]
/-- nothing more can be determined -/
def Still (ps : List Pc) (s : St) : Prop := ∀ p ∈ ps, ∀ b, ¬ One p.S s.K b
theorem part_still {ps : List Pc} {s : St} (h : Still ps s) : part ps s = s := by
  induction ps with
  | nil => rfl
  | cons p ps ih =>
    show part ps (step s p) = s
    rw [step_none (h p List.mem_cons_self)]
    exact ih (fun q hq => h q (List.mem_cons_of_mem _ hq))
def Fin (ps : List Pc) (s : St) : Prop := (∃ k, s = iter ps k) ∧ Still ps s
theorem iter_still {ps : List Pc} {s : St} {k : Nat} (h : s = iter ps k) (hs : Still ps s) (j : Nat) : iter ps (k + j) = s := by
  induction j with
  | zero => exact h.symm
  | succ j ih => show part ps (iter ps (k + j)) = s; rw [ih]; exact part_still hs
theorem Fin.uniq {ps : List Pc} {s u : St} (h : Fin ps s) (g : Fin ps u) : s = u := by
  obtain ⟨⟨k, hk⟩, hs⟩ := h
  obtain ⟨⟨m, hm⟩, hu⟩ := g
  rcases Nat.le_total k m with hle | hle
  · have := iter_still hk hs (m - k)
    rw [show k + (m - k) = m by omega] at this
    rw [← this, ← hm]
  · have := iter_still hm hu (k - m)
    rw [show m + (k - m) = k by omega] at this
    rw [← this, ← hk]
open Classical in
/-- what comes of peeling -/
noncomputable def fin (ps : List Pc) : St := if h : ∃ s, Fin ps s then Classical.choose h else ini
theorem fin_eq {ps : List Pc} {s : St} (h : Fin ps s) : fin ps = s := by
  have hx : ∃ s, Fin ps s := ⟨s, h⟩
  unfold fin
  rw [dif_pos hx]
  exact (Classical.choose_spec hx).uniq h

/-! a known block stays; each step that determines makes one more known -/
theorem cnt_upd' {K : Nat → Bool} {b : Nat} (hb : b < 6) (h : K b = false) : cnt (upd K b) 6 = cnt K 6 + 1 := cnt_upd hb h
theorem One.new {S K : Nat → Bool} {b : Nat} (h : One S K b) : K b = false := (lk_t.mp h.2.1).2

/-! turns: pass and place; q places of pass p are behind us -/
def nx (p q i : Nat) : Nat × Nat := if q ≤ i then (p, i) else (p + 1, i)
def bef (a b : Nat × Nat) : Prop := a.1 < b.1 ∨ (a.1 = b.1 ∧ a.2 < b.2)
instance (a b : Nat × Nat) : Decidable (bef a b) := by unfold bef; infer_instance
theorem bef_trans {a b c : Nat × Nat} (h : bef a b) (k : bef b c) : bef a c := by unfold bef at *; omega
theorem bef_irrefl (a : Nat × Nat) : ¬ bef a a := by unfold bef; omega
theorem bef_tri {a b : Nat × Nat} (h : ¬ bef a b) : bef b a ∨ b = a := by
  unfold bef at *
  by_cases e : a.1 = b.1 ∧ a.2 = b.2
  · right; exact Prod.ext e.1.symm e.2.symm
  · left; omega

def updT (qu : Nat → Nat × Nat) (b : Nat) (t : Nat × Nat) : Nat → Nat × Nat := fun j => if j = b then t else qu j
theorem updT_same (qu : Nat → Nat × Nat) (b : Nat) (t : Nat × Nat) : updT qu b t b = t := if_pos rfl
theorem updT_ne (qu : Nat → Nat × Nat) {b c : Nat} (t : Nat × Nat) (h : c ≠ b) : updT qu b t c = qu c := if_neg h
/-- the queue, of the places that C names: which blocks are queued, and for which turn -/
def Que (C : Nat → Prop) (ps : List Pc) (K : Nat → Bool) (p q : Nat) (qd : Nat → Bool) (qu : Nat → Nat × Nat) : Prop :=
  ∀ b, b < 6 →
    ((qd b = true → ∃ I x, ps[I]? = some x ∧ C I ∧ One x.S K b ∧ qu b = nx p q I) ∧
     (∀ i x, ps[i]? = some x → C i → One x.S K b → qd b = true ∧ ¬ bef (nx p q i) (qu b)))

theorem Que.none (ps : List Pc) (K : Nat → Bool) (p q : Nat) (qu : Nat → Nat × Nat) : Que (fun _ => False) ps K p q (fun _ => false) qu :=
  fun _ _ => ⟨fun h => (by cases h), fun _ _ _ h _ => False.elim h⟩

/-- a place is looked at that lacks no block or several -/
theorem Que.pass {C C' : Nat → Prop} {ps : List Pc} {K : Nat → Bool} {p q : Nat} {qd : Nat → Bool} {qu : Nat → Nat × Nat} (h : Que C ps K p q qd qu) {i : Nat} {x : Pc} (hx : ps[i]? = some x) (hn : ∀ b, ¬ One x.S K b)
    (hC : ∀ j, C' j ↔ C j ∨ j = i) : Que C' ps K p q qd qu := fun b hb => by
  obtain ⟨h1, h2⟩ := h b hb
  refine ⟨fun hq => ?_, fun j y hy hj ho => ?_⟩
  · obtain ⟨I, z, e, hI, ho, hu⟩ := h1 hq
    exact ⟨I, z, e, (hC I).mpr (.inl hI), ho, hu⟩
  · rcases (hC j).mp hj with hj | rfl
    · exact h2 j y hy hj ho
    · rw [hx] at hy; injection hy with hy; subst hy
      exact absurd ho (hn b)

/-- a place is looked at that lacks one block, which is not queued, or for a later turn -/
theorem Que.put {C C' : Nat → Prop} {ps : List Pc} {K : Nat → Bool} {p q : Nat} {qd : Nat → Bool} {qu : Nat → Nat × Nat} (h : Que C ps K p q qd qu) {i b : Nat} {x : Pc} (hx : ps[i]? = some x) (ho : One x.S K b)
    (hw : qd b = false ∨ bef (nx p q i) (qu b)) (hC : ∀ j, C' j ↔ C j ∨ j = i) : Que C' ps K p q (upd qd b) (updT qu b (nx p q i)) := fun c hc => by
  obtain ⟨h1, h2⟩ := h c hc
  by_cases e : c = b
  · subst e
    refine ⟨fun _ => ⟨i, x, hx, (hC i).mpr (.inr rfl), ho, updT_same _ _ _⟩, fun j y hy hj ho' => ⟨by simp [upd], ?_⟩⟩
    rw [updT_same]
    rcases (hC j).mp hj with hj | rfl
    · obtain ⟨k1, k2⟩ := h2 j y hy hj ho'
      rcases hw with hw | hw
      · rw [hw] at k1; cases k1
      · exact fun hb => k2 (bef_trans hb hw)
    · exact bef_irrefl _
  · have e1 : upd qd b c = qd c := by unfold upd; rw [if_neg e]
    rw [e1, updT_ne _ _ e]
    refine ⟨fun hq => ?_, fun j y hy hj ho' => ?_⟩
    · obtain ⟨I, z, e, hI, ho, hu⟩ := h1 hq
      exact ⟨I, z, e, (hC I).mpr (.inl hI), ho, hu⟩
    · rcases (hC j).mp hj with hj | rfl
      · exact h2 j y hy hj ho'
      · rw [hx] at hy; injection hy with hy; subst hy
        exact absurd (ho'.uniq ho) e

/-- a place is looked at that lacks one block, which is queued for an earlier turn -/
theorem Que.keep {C C' : Nat → Prop} {ps : List Pc} {K : Nat → Bool} {p q : Nat} {qd : Nat → Bool} {qu : Nat → Nat × Nat} (h : Que C ps K p q qd qu) {i b : Nat} {x : Pc} (hx : ps[i]? = some x) (ho : One x.S K b)
    (hq : qd b = true) (hw : ¬ bef (nx p q i) (qu b)) (hC : ∀ j, C' j ↔ C j ∨ j = i) : Que C' ps K p q qd qu := fun c hc => by
  obtain ⟨h1, h2⟩ := h c hc
  refine ⟨fun hq => ?_, fun j y hy hj ho' => ?_⟩
  · obtain ⟨I, z, e, hI, ho, hu⟩ := h1 hq
    exact ⟨I, z, e, (hC I).mpr (.inl hI), ho, hu⟩
  · rcases (hC j).mp hj with hj | rfl
    · exact h2 j y hy hj ho'
    · rw [hx] at hy; injection hy with hy; subst hy
      obtain rfl := ho'.uniq ho
      exact ⟨hq, hw⟩

/-- steps that determine nothing -/
theorem part_quiet {ps : List Pc} {s X : St} {a b : Nat} (hab : a ≤ b) (h : part (ps.take a) X = s) (hn : ∀ j x, a ≤ j → j < b → ps[j]? = some x → ∀ c, ¬ One x.S s.K c) : part (ps.take b) X = s := by
  induction b with
  | zero => obtain rfl : a = 0 := by omega
            exact h
  | succ b ih =>
    by_cases e : a = b + 1
    · subst e; exact h
    · have h1 := ih (by omega) (fun j x h0 h1 h2 => hn j x h0 (by omega) h2)
      by_cases hb : b < ps.length
      · rw [List.take_succ_eq_append_getElem hb, part_append, h1]
        show step s ps[b] = s
        exact step_none (hn b _ (by omega) (by omega) (List.getElem?_eq_getElem hb))
      · rw [List.take_of_length_le (by omega)]
        rw [List.take_of_length_le (by omega)] at h1
        exact h1
theorem part_step {ps : List Pc} {s X : St} {I : Nat} {x : Pc} (h : part (ps.take I) X = s) (hx : ps[I]? = some x) : part (ps.take (I + 1)) X = step s x := by
  obtain ⟨hI, e⟩ := List.getElem?_eq_some_iff.mp hx
  rw [List.take_succ_eq_append_getElem hI, part_append, h, e]
  rfl

/-- the queue holds just what is to be determined next, and the state is that of the passes: behind q places of pass p -/
def Inv (ps : List Pc) (s : St) (p q : Nat) (qd : Nat → Bool) (qu : Nat → Nat × Nat) : Prop :=
  q ≤ ps.length ∧ s = part (ps.take q) (iter ps p) ∧ Que (fun _ => True) ps s.K p q qd qu

/-- nothing is queued: nothing more can be determined -/
theorem Inv.end_ {ps : List Pc} {s : St} {p q : Nat} {qd : Nat → Bool} {qu : Nat → Nat × Nat} (h : Inv ps s p q qd qu) (hq : ∀ b, b < 6 → qd b = false) : Fin ps s := by
  obtain ⟨hl, hs, hQ⟩ := h
  have hst : Still ps s := fun x hx b ho => by
    obtain ⟨i, hi, e⟩ := List.getElem_of_mem hx
    have := ((hQ b ho.1).2 i x (by rw [List.getElem?_eq_getElem hi, e]) trivial ho).1
    rw [hq b ho.1] at this
    cases this
  refine ⟨⟨p + 1, ?_⟩, hst⟩
  show s = part ps (iter ps p)
  have := part_quiet (b := ps.length) hl hs.symm (fun j x _ _ hx c ho => hst x (List.mem_of_getElem? hx) c ho)
  rw [List.take_length] at this
  exact this.symm

/-- the queued block whose turn comes first is determined next by the passes, too -/
theorem Inv.next {ps : List Pc} {s : St} {p q : Nat} {qd : Nat → Bool} {qu : Nat → Nat × Nat} (h : Inv ps s p q qd qu) {b P I : Nat} (hb : b < 6) (hq : qd b = true) (hu : qu b = (P, I)) (hm : ∀ c, c < 6 → qd c = true → ¬ bef (qu c) (qu b)) :
    ∃ x, ps[I]? = some x ∧ One x.S s.K b ∧ det s x b = part (ps.take (I + 1)) (iter ps P) ∧ I + 1 ≤ ps.length ∧ Que (fun i => ∀ y, ps[i]? = some y → y.S b = false) ps (upd s.K b) P (I + 1) (mns qd (upd s.K b)) qu := by
  obtain ⟨hl, hs, hQ⟩ := h
  obtain ⟨I', x, hx, _, ho, hn⟩ := (hQ b hb).1 hq
  have hI : I' = I := by rw [hu] at hn; unfold nx at hn; split at hn <;> (injection hn; omega)
  subst hI
  rw [hu] at hn hm
  obtain ⟨hlt, _⟩ := List.getElem?_eq_some_iff.mp hx
  -- who fires has a turn that is not before (P, I)
  have hfire : ∀ (j : Nat) (y : Pc) (c : Nat), ps[j]? = some y → One y.S s.K c → ¬ bef (nx p q j) (P, I') := fun j y c hy hoc => by
    obtain ⟨k1, k2⟩ := (hQ c hoc.1).2 j y hy trivial hoc
    have k3 := hm c hoc.1 k1
    intro hb'
    rcases bef_tri k2 with k4 | k4
    · exact k3 (bef_trans k4 hb')
    · rw [← k4] at hb'; exact k3 hb'
  refine ⟨x, hx, ho, ?_, hlt, ?_⟩
  · rw [← step_one ho]
    refine (part_step ?_ hx).symm
    unfold nx at hn
    split at hn
    · injection hn with e1 e2
      subst e1
      refine part_quiet (by omega) hs.symm (fun j y h0 h1 hy c hoc => hfire j y c hy hoc ?_)
      unfold nx bef; rw [if_pos h0]; simp; omega
    · injection hn with e1 e2
      subst e1
      have hit : iter ps (p + 1) = s := by
        show part ps (iter ps p) = s
        have := part_quiet (b := ps.length) hl hs.symm (fun j y h0 h1 hy c hoc => hfire j y c hy hoc (by unfold nx bef; rw [if_pos h0]; simp))
        rw [List.take_length] at this
        exact this
      refine part_quiet (a := 0) (by omega) (by rw [List.take_zero]; exact hit) (fun j y h0 h1 hy c hoc => hfire j y c hy hoc ?_)
      unfold nx bef; rw [if_neg (by omega)]; simp; omega
  · -- whoever lacks another block alone does not hold b, and keeps its turn
    have hbK : s.K b = false := ho.new
    have same : ∀ (y : Pc) (c : Nat), c ≠ b → y.S b = false → (One y.S (upd s.K b) c ↔ One y.S s.K c) := fun y c hcb hyb => by
      have hlk : ∀ i, lk y.S (upd s.K b) i = lk y.S s.K i := fun i => by
        unfold lk upd
        by_cases e : i = b
        · subst e; rw [hyb]; rfl
        · rw [if_neg e]
      unfold One
      simp only [hlk]
    have noB : ∀ (y : Pc) (c : Nat), c ≠ b → One y.S s.K c → y.S b = false := fun y c hcb hoc => by
      cases hy : y.S b with
      | false => rfl
      | true => exact absurd (hoc.2.2 b hb (lk_t.mpr ⟨hy, hbK⟩)).symm hcb
    have turn : ∀ (j : Nat) (y : Pc) (c : Nat), ps[j]? = some y → One y.S s.K c → c ≠ b → nx P (I' + 1) j = nx p q j := fun j y c hy hoc hcb => by
      have h1 := hfire j y c hy hoc
      have hjI : j ≠ I' := fun e => by
        subst e; rw [hx] at hy; injection hy with hy; subst hy
        exact hcb (hoc.uniq ho)
      unfold nx at hn h1 ⊢
      unfold bef at h1
      split at hn
      · injection hn with e1 e2
        subst e1
        by_cases hqj : q ≤ j
        · rw [if_pos hqj] at h1 ⊢; simp at h1; rw [if_pos (by omega)]
        · rw [if_neg hqj, if_neg (by omega)]
      · injection hn with e1 e2
        subst e1
        by_cases hqj : q ≤ j
        · rw [if_pos hqj] at h1; simp at h1
        · rw [if_neg hqj] at h1 ⊢; simp at h1; rw [if_pos (by omega)]
    intro c hc
    by_cases e : c = b
    · subst e
      have hu' : upd s.K c c = true := by simp [upd]
      refine ⟨fun hqc => (by have hqc : (qd c && !upd s.K c c) = true := hqc; rw [hu'] at hqc; simp at hqc), fun i y hy hC hoc => ?_⟩
      have := hoc.new
      rw [hu'] at this; cases this
    · have hu' : upd s.K b c = s.K c := by unfold upd; rw [if_neg e]
      obtain ⟨h1, h2⟩ := hQ c hc
      refine ⟨fun hqc => ?_, fun i y hy hC hoc => ?_⟩
      · have hqc' : qd c = true := by
          cases hh : qd c with
          | true => rfl
          | false => have hqc : (qd c && !upd s.K b c) = true := hqc; rw [hh] at hqc; cases hqc
        obtain ⟨J, y, hy, _, hoc, hn'⟩ := h1 hqc'
        have hyb := noB y c e hoc
        refine ⟨J, y, hy, fun z hz => ?_, (same y c e hyb).mpr hoc, by rw [hn', turn J y c hy hoc e]⟩
        rw [hy] at hz; injection hz with hz; subst hz; exact hyb
      · have hyb := hC y hy
        have hoc' := (same y c e hyb).mp hoc
        obtain ⟨k1, k2⟩ := h2 i y hy trivial hoc'
        refine ⟨?_, by rw [turn i y c hy hoc' e]; exact k2⟩
        have := hoc'.new
        show (qd c && !upd s.K b c) = true
        rw [k1, hu', this]; rfl
end Go.Proofs.Ytokajeomojlinaa.pp
