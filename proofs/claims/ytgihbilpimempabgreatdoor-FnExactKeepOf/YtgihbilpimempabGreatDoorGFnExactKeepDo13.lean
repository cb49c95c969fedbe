/-
  Merged texts: DoPlain, Dec3x, Dec3, Word.
-/
import Derived.Test.YtgihbilpimempabGreatDoorGFnExactKeepDo12
import Derived.Test.YtgihbilpimempabGreatDoorGFnExactKeepDo7
import Derived.Test.YtgihbilpimempabGreatDoorGFnExactKeepDo1
import Derived.Test.YtgihbilpimempabGreatDoorShelf
import Derived.Test.YtgihbilpimempabGreatDoorRows
import Derived.WalkKit
import Derived.ProofKit
import Derived.Lib.Hide
import Derived.Deep.QuietTactic
import Derived.BigQuiet
import Derived.Below
/-
  Plain: what a record does to what a keeper has; a record's text. Nothing here speaks of a program.
-/
namespace Go.Proofs.YtgihbilpimempabGreatDoor.kp
open Go.Proofs.YtgihbilpimempabGreatDoor.nb Go.Proofs.YtgihbilpimempabGreatDoor.ok Go.Proofs.YtgihbilpimempabGreatDoor.dc

def cutL {α : Type} (l : List α) (i : Nat) : List α := l.take i ++ l.drop (i + 1)
theorem cutL_len {α : Type} {l : List α} {i : Nat} (h : i < l.length) : (cutL l i).length + 1 = l.length := by
  unfold cutL; simp [List.length_take, List.length_drop]; omega
def timeS (k : Kp) (t : Int) : Kp := { k with time := t, held := k.held.filter (fun x => decide (t < x.u)), marks := k.marks.filter (fun x => decide (t < x.u)) }
def letS (k : Kp) (i : Nat) (m : Mk) : Kp := { k with held := cutL k.held i, marks := putM k.marks m }
def eatS (k : Kp) (i : Nat) : Kp := { k with inbox := cutL k.inbox i }
def isM (m : Mk) (x : Nt) : Bool := x.f == m.f && x.n == m.n && x.u == m.u

inductive Rc where
  | time (v : Int)
  | next (v : Int)
  | own (x : Nt)
  | take (x : Nt)
  | held (x : Nt)
  | inbox (x : Nt)
  | lets (m : Mk)
  | eat (m : Mk)
  | mark (m : Mk)

def kwTime : List UInt8 := [116, 105, 109, 101]
def kwNext : List UInt8 := [110, 101, 120, 116]
def kwOwn : List UInt8 := [111, 119, 110]
def kwTake : List UInt8 := [116, 97, 107, 101]
def kwHeld : List UInt8 := [104, 101, 108, 100]
def kwInbox : List UInt8 := [105, 110, 98, 111, 120]
def kwLet : List UInt8 := [108, 101, 116]
def kwEat : List UInt8 := [101, 97, 116]
def kwMark : List UInt8 := [109, 97, 114, 107]
def m3 (f n u : Int) : List UInt8 := dl f ++ 32 :: (dl n ++ 32 :: dl u)
def kw : Rc → List UInt8
  | .time _ => kwTime
  | .next _ => kwNext
  | .own _ => kwOwn
  | .take _ => kwTake
  | .held _ => kwHeld
  | .inbox _ => kwInbox
  | .lets _ => kwLet
  | .eat _ => kwEat
  | .mark _ => kwMark
def wlN (x : Nt) : List UInt8 := wl x.f x.n x.t x.u x.s.data.toList
def m3M (m : Mk) : List UInt8 := m3 m.f m.n m.u
def body : Rc → List UInt8
  | .time v => dl v
  | .next v => dl v
  | .own x => wlN x
  | .take x => wlN x
  | .held x => wlN x
  | .inbox x => wlN x
  | .lets m => m3M m
  | .eat m => m3M m
  | .mark m => m3M m
def rcL (r : Rc) : List UInt8 := kw r ++ 32 :: body r
def rcOk : Rc → Prop
  | .time v => 0 ≤ v ∧ v ≤ 999
  | .next v => 0 ≤ v ∧ v ≤ 999
  | .own x => okNt x = true
  | .take x => okNt x = true
  | .held x => okNt x = true
  | .inbox x => okNt x = true
  | .lets m => okMk m = true
  | .eat m => okMk m = true
  | .mark m => okMk m = true

def takeO (k : Kp) (x : Nt) : Option Kp := if takeB k x = true then some (takeS k x) else none
def applyS (k : Kp) : Rc → Option Kp
  | .time v => if k.time < v then some (timeS k v) else none
  | .next v => if k.next < v then some { k with next := v } else none
  | .own x => if x.f = k.id ∧ x.n = k.next then takeO { k with next := k.next + 1 } x else none
  | .take x => if x.f = k.id then none else takeO k x
  | .held x => if hasN k.held x.f x.n = true ∨ hasN k.inbox x.f x.n = true then none else some { k with held := putN k.held x }
  | .inbox x => if hasN k.held x.f x.n = true ∨ hasN k.inbox x.f x.n = true then none else some { k with inbox := putN k.inbox x }
  | .lets m => match k.held.findIdx? (isM m) with
    | some i => some (letS k i m)
    | none => none
  | .eat m => match k.inbox.findIdx? (isM m) with
    | some i => some (eatS k i)
    | none => none
  | .mark m => if hasM k.marks m.f m.n = true then none else some { k with marks := putM k.marks m }

theorem kw_blank (r : Rc) : ∀ c ∈ kw r, c ≠ 32 := by cases r <;> simp only [kw] <;> decide
theorem word_rcL (r : Rc) : word (rcL r) = (kw r, body r) := word_append (kw_blank r)
theorem word_back {l a b : List UInt8} (h : word l = (a, b)) (hb : b ≠ []) : l = a ++ 32 :: b := by
  induction l generalizing a b with
  | nil => cases h; exact absurd rfl hb
  | cons c l ih =>
    by_cases hc : c = 32
    · subst hc; rw [word_blank] at h; cases h; rfl
    · rw [word_cons hc] at h
      obtain ⟨h1, h2⟩ := Prod.mk.inj h
      rw [← h1, List.cons_append]
      congr 1
      exact ih (a := (word l).1) (b := b) (by rw [← h2]) hb
theorem dl_ne (v : Int) : dl v ≠ [] := fun h => by
  have := dd_all v.toNat
  unfold dl at h
  by_cases h1 : v.toNat < 10
  · rw [Lib.decDigits_one h1] at h; cases h
  · rw [dd_step (by omega)] at h; simp at h
theorem m3_ne (f n u : Int) : m3 f n u ≠ [] := by unfold m3; simp
theorem okMk_parts {m : Mk} (h : okMk m = true) : (0 ≤ m.f ∧ m.f ≤ 3) ∧ (1 ≤ m.n ∧ m.n ≤ 99) ∧ 1 ≤ m.u ∧ m.u ≤ 999 := by
  unfold okMk at h
  simp only [Bool.and_eq_true] at h
  exact ⟨of_decide_eq_true h.1.1, of_decide_eq_true h.1.2, of_decide_eq_true h.2⟩
theorem m3_inj {f n u f' n' u' : Int} (hf : 0 ≤ f) (hn : 0 ≤ n) (hu : 0 ≤ u) (hf' : 0 ≤ f') (hn' : 0 ≤ n') (hu' : 0 ≤ u') (e : m3 f n u = m3 f' n' u') : f = f' ∧ n = n' ∧ u = u' := by
  have w0 := congrArg word e
  unfold m3 at w0
  rw [word_dl, word_dl] at w0
  obtain ⟨g0, e1⟩ := Prod.mk.inj w0
  have w1 := congrArg word e1
  rw [word_dl, word_dl] at w1
  obtain ⟨g1, e2⟩ := Prod.mk.inj w1
  exact ⟨dl_inj hf hf' g0, dl_inj hn hn' g1, dl_inj hu hu' e2⟩
theorem wlN_inj {x y : Nt} (h : okNt x = true) (h' : okNt y = true) (e : wlN x = wlN y) : x = y := by
  obtain ⟨h1, h2, h3, h4, h5⟩ := wr_inj h h' (show wr x.f x.n x.t x.u x.s = wr y.f y.n y.t y.u y.s from congrArg str e)
  cases x; cases y
  simp at h1 h2 h3 h4 h5
  rw [h1, h2, h3, h4, h5]
theorem m3M_inj {x y : Mk} (h : okMk x = true) (h' : okMk y = true) (e : m3M x = m3M y) : x = y := by
  obtain ⟨a1, a2, a3⟩ := okMk_parts h
  obtain ⟨b1, b2, b3⟩ := okMk_parts h'
  obtain ⟨h1, h2, h3⟩ := m3_inj (by omega) (by omega) (by omega) (by omega) (by omega) (by omega) e
  cases x; cases y
  simp at h1 h2 h3
  rw [h1, h2, h3]
theorem rcL_inj {r r' : Rc} (h : rcOk r) (h' : rcOk r') (e : rcL r = rcL r') : r = r' := by
  have w0 := congrArg word e
  rw [word_rcL, word_rcL] at w0
  obtain ⟨e1, e2⟩ := Prod.mk.inj w0
  cases r <;> cases r' <;> first
    | (exfalso; simp only [kw] at e1; revert e1; decide)
    | (congr 1; exact dl_inj h.1 h'.1 e2)
    | (congr 1; exact wlN_inj h h' e2)
    | (congr 1; exact m3M_inj h h' e2)

/-- nothing that the record says can be done -/
def NoDo (k : Kp) (l : List UInt8) : Prop := ∀ r x, rcOk r → l = rcL r → applyS k r = some x → okK x = false
/-- what comes of a record -/
def Does (k : Kp) (l : List UInt8) (k' : Kp) (b : Bool) : Prop :=
  (b = true ∧ ∃ r, rcOk r ∧ l = rcL r ∧ applyS k r = some k' ∧ okK k' = true) ∨ (b = false ∧ k' = k ∧ NoDo k l)
def DoK (k : Kp) (l : List UInt8) (k' : Kp) (b : Bool) : Prop := (okK k = false ∧ k' = zeroK ∧ b = false) ∨ (okK k = true ∧ Does k l k' b)
theorem does_one {k : Kp} {l : List UInt8} {k1 k2 : Kp} {b1 b2 : Bool} (h1 : Does k l k1 b1) (h2 : Does k l k2 b2) : k1 = k2 ∧ b1 = b2 := by
  rcases h1 with ⟨rfl, r, ho, e, ha, hk⟩ | ⟨rfl, rfl, hn⟩
  · rcases h2 with ⟨rfl, r', ho', e', ha', hk'⟩ | ⟨rfl, rfl, hn'⟩
    · have := rcL_inj ho ho' (e.symm.trans e')
      subst this
      rw [ha] at ha'
      exact ⟨Option.some.inj ha', rfl⟩
    · rw [hn' r k1 ho e ha] at hk; cases hk
  · rcases h2 with ⟨rfl, r', ho', e', ha', hk'⟩ | ⟨rfl, rfl, hn'⟩
    · rw [hn r' k2 ho' e' ha'] at hk'; cases hk'
    · exact ⟨rfl, rfl⟩
theorem doK_one {k : Kp} {l : List UInt8} {k1 k2 : Kp} {b1 b2 : Bool} (h1 : DoK k l k1 b1) (h2 : DoK k l k2 b2) : k1 = k2 ∧ b1 = b2 := by
  rcases h1 with ⟨h, rfl, rfl⟩ | ⟨h, h1⟩
  · rcases h2 with ⟨_, rfl, rfl⟩ | ⟨h', _⟩
    · exact ⟨rfl, rfl⟩
    · rw [h] at h'; cases h'
  · rcases h2 with ⟨h', _, _⟩ | ⟨_, h2⟩
    · rw [h] at h'; cases h'
    · exact does_one h1 h2

/-- what is told of a record's doing, ahead of looking what came of it -/
def RecP (k : Kp) (l : List UInt8) (k' : Kp) (b : Bool) : Prop :=
  (b = true ∧ ∃ r, rcOk r ∧ l = rcL r ∧ applyS k r = some k') ∨ ((b = false ∨ okK k' = false) ∧ NoDo k l)
theorem recP_t {k : Kp} {l : List UInt8} {k' : Kp} (h : RecP k l k' true) (ho : okK k' = true) : Does k l k' true := by
  rcases h with ⟨_, r, h1, h2, h3⟩ | ⟨h | h, _⟩
  · exact .inl ⟨rfl, r, h1, h2, h3, ho⟩
  · cases h
  · rw [h] at ho; cases ho
theorem recP_bad {k : Kp} {l : List UInt8} {k' : Kp} {b : Bool} (h : RecP k l k' b) (ho : okK k' = false) : Does k l k false := by
  refine .inr ⟨rfl, rfl, ?_⟩
  rcases h with ⟨_, r, h1, h2, h3⟩ | ⟨_, h⟩
  · intro r' x hr' e' ha
    have := rcL_inj h1 hr' (h2.symm.trans e')
    subst this
    rw [h3] at ha
    rw [← Option.some.inj ha]
    exact ho
  · exact h
theorem recP_f {k : Kp} {l : List UInt8} {k' : Kp} (h : RecP k l k' false) : Does k l k false := by
  refine .inr ⟨rfl, rfl, ?_⟩
  rcases h with ⟨h, _⟩ | ⟨_, h⟩
  · cases h
  · exact h

/-- no such word: nothing to do -/
theorem nodo_word {k : Kp} {l : List UInt8} (h : ∀ r : Rc, kw r ≠ (word l).1) : NoDo k l := fun r x _ e _ => by
  exfalso
  apply h r
  rw [e, word_rcL]
/-- the record's word and the rest are known -/
theorem nodo_of {k : Kp} {l : List UInt8} (h : ∀ r x, rcOk r → kw r = (word l).1 → body r = (word l).2 → applyS k r = some x → okK x = false) : NoDo k l := fun r x hr e ha =>
  h r x hr (by rw [e, word_rcL]) (by rw [e, word_rcL]) ha

theorem okK_parts {k : Kp} (h : okK k = true) : inB k.id 0 3 = true ∧ inB k.time 0 999 = true ∧ inB k.next 1 100 = true ∧ okNts k.held 6 = true ∧ okMks k.marks = true ∧ okNts k.inbox 6 = true ∧ k.held.all (heldOk k) = true ∧ k.marks.all (markOk k) = true ∧ k.inbox.all (inOk k) = true := by
  unfold okK at h
  simp only [Bool.and_eq_true] at h
  obtain ⟨⟨⟨⟨⟨⟨⟨⟨a, b⟩, c⟩, d⟩, e⟩, f⟩, g⟩, i⟩, j⟩ := h
  exact ⟨a, b, c, d, e, f, g, i, j⟩
theorem okNts_parts {l : List Nt} {m : Nat} (h : okNts l m = true) : l.length ≤ m ∧ ∀ i, i < l.length → ordN l i = true := by
  unfold okNts at h
  rw [Bool.and_eq_true] at h
  exact ⟨of_decide_eq_true h.1, allI_iff.1 h.2⟩
theorem okMks_parts {l : List Mk} (h : okMks l = true) : l.length ≤ 12 ∧ ∀ i, i < l.length → ordM l i = true := by
  unfold okMks at h
  rw [Bool.and_eq_true] at h
  exact ⟨of_decide_eq_true h.1, allI_iff.1 h.2⟩
theorem less_trans {a b c d e f : Int} (h1 : less a b c d = true) (h2 : less c d e f = true) : less a b e f = true := by
  unfold less at *
  have h1 := of_decide_eq_true h1
  have h2 := of_decide_eq_true h2
  exact decide_eq_true (by omega)
theorem less_irr {a b : Int} : less a b a b = false := decide_eq_false (by omega)
theorem ordN_ok {l : List Nt} {i : Nat} {x : Nt} (h : ordN l i = true) (hx : l[i]? = some x) : okNt x = true := by
  unfold ordN at h
  rw [hx] at h
  simp only [Bool.and_eq_true] at h
  exact h.1
theorem ordM_ok {l : List Mk} {i : Nat} {x : Mk} (h : ordM l i = true) (hx : l[i]? = some x) : okMk x = true := by
  unfold ordM at h
  rw [hx] at h
  simp only [Bool.and_eq_true] at h
  exact h.1
theorem okNts_mem {l : List Nt} {m : Nat} (h : okNts l m = true) {x : Nt} (hx : x ∈ l) : okNt x = true := by
  obtain ⟨i, hi, rfl⟩ := List.mem_iff_getElem.1 hx
  exact ordN_ok ((okNts_parts h).2 i hi) (List.getElem?_eq_getElem hi)
theorem okMks_mem {l : List Mk} (h : okMks l = true) {x : Mk} (hx : x ∈ l) : okMk x = true := by
  obtain ⟨i, hi, rfl⟩ := List.mem_iff_getElem.1 hx
  exact ordM_ok ((okMks_parts h).2 i hi) (List.getElem?_eq_getElem hi)
theorem okNts_lt {l : List Nt} {m : Nat} (h : okNts l m = true) : ∀ (j i : Nat) (x y : Nt), i < j → l[i]? = some x → l[j]? = some y → less x.f x.n y.f y.n = true := by
  intro j
  induction j with
  | zero => intro i x y h; omega
  | succ j ih =>
    intro i x y hij hx hy
    have hj : j + 1 < l.length := (List.getElem?_eq_some_iff.1 hy).1
    have hz : l[j]? = some l[j] := List.getElem?_eq_getElem (by omega)
    have ho := (okNts_parts h).2 (j + 1) hj
    rw [ordN_succ hy hz, Bool.and_eq_true] at ho
    by_cases e : i = j
    · subst e
      rw [hz] at hx
      cases hx
      exact ho.2
    · exact less_trans (ih i x l[j] (by omega) hx hz) ho.2
/-- a message is told by its source and its number -/
theorem okNts_one {l : List Nt} {m : Nat} (h : okNts l m = true) {i j : Nat} {x y : Nt} (hx : l[i]? = some x) (hy : l[j]? = some y) (hf : x.f = y.f) (hn : x.n = y.n) : i = j := by
  rcases Nat.lt_trichotomy i j with hl | e | hl
  · have := okNts_lt h j i x y hl hx hy
    rw [hf, hn, less_irr] at this; cases this
  · exact e
  · have := okNts_lt h i j y x hl hy hx
    rw [hf, hn, less_irr] at this; cases this
theorem isM_iff {m : Mk} {x : Nt} : isM m x = true ↔ x.f = m.f ∧ x.n = m.n ∧ x.u = m.u := by
  unfold isM
  rw [Bool.and_eq_true, Bool.and_eq_true, beq_iff_eq, beq_iff_eq, beq_iff_eq, and_assoc]
theorem findM_some {l : List Nt} {q : Nat} (h : okNts l q = true) {m : Mk} {i : Nat} {x : Nt} (hx : l[i]? = some x) (hm : isM m x = true) : l.findIdx? (isM m) = some i := by
  rw [List.findIdx?_eq_some_iff_getElem]
  obtain ⟨hi, e⟩ := List.getElem?_eq_some_iff.1 hx
  refine ⟨hi, by rw [e]; exact hm, fun j hj hp => ?_⟩
  obtain ⟨a, b, _⟩ := isM_iff.1 hm
  obtain ⟨a', b', _⟩ := isM_iff.1 hp
  have := okNts_one h (i := j) (j := i) (List.getElem?_eq_getElem (by omega)) hx (a'.trans a.symm) (b'.trans b.symm)
  omega
theorem findM_none {l : List Nt} {m : Mk} (h : ∀ x ∈ l, isM m x = false) : l.findIdx? (isM m) = none := by
  rw [List.findIdx?_eq_none_iff]
  intro x hx
  exact h x hx
/-- the place by source and number alone: the same, where the time is the same; else there is none -/
theorem ixN_isM {l : List Nt} {q : Nat} (h : okNts l q = true) {m : Mk} : (ixN l m.f m.n = -1 → l.findIdx? (isM m) = none) ∧ ∀ (i : Nat) (x : Nt), ixN l m.f m.n = (i : Nat) → l[i]? = some x → (x.u = m.u → l.findIdx? (isM m) = some i) ∧ (x.u ≠ m.u → l.findIdx? (isM m) = none) := by
  rcases ixN_cases l m.f m.n with ⟨hn, he⟩ | ⟨hn, i, x, he, hx, hf, hnn⟩
  · refine ⟨fun _ => findM_none fun y hy => ?_, fun i x e => by rw [he] at e; omega⟩
    unfold hasN at hn
    rw [List.any_eq_false] at hn
    have := hn y hy
    unfold isM
    rw [Bool.eq_false_iff.2 this]; rfl
  · refine ⟨fun e => by rw [he] at e; omega, fun j y e hy => ?_⟩
    have hij : i = j := by rw [he] at e; omega
    subst hij
    rw [hx] at hy
    cases hy
    refine ⟨fun hu => findM_some h hx (isM_iff.2 ⟨hf, hnn, hu⟩), fun hu => findM_none fun y hy => ?_⟩
    obtain ⟨j, hj, rfl⟩ := List.mem_iff_getElem.1 hy
    rw [Bool.eq_false_iff]
    intro hp
    obtain ⟨a, b, c⟩ := isM_iff.1 hp
    have := okNts_one h (i := j) (j := i) (List.getElem?_eq_getElem hj) hx (a.trans hf.symm) (b.trans hnn.symm)
    subst this
    rw [List.getElem?_eq_getElem hj] at hx
    rw [Option.some.inj hx] at c
    exact hu c
/-- what is in a list of messages has a mark that is in order -/
theorem okNt_mk {x : Nt} (h : okNt x = true) : okMk ⟨x.f, x.n, x.u⟩ = true := by
  obtain ⟨h1, h2, _, h4, _, _⟩ := okN_parts h
  unfold okMk
  rw [inB_iff.2 (by omega), inB_iff.2 (by omega), inB_iff.2 (by omega)]
  rfl
theorem findM_ok {l : List Nt} {q : Nat} (h : okNts l q = true) {m : Mk} {i : Nat} (hi : l.findIdx? (isM m) = some i) : okMk m = true ∧ ∃ x, l[i]? = some x ∧ isM m x = true := by
  rw [List.findIdx?_eq_some_iff_getElem] at hi
  obtain ⟨hl, hp, _⟩ := hi
  obtain ⟨a, b, c⟩ := isM_iff.1 hp
  have := okNt_mk (okNts_mem h (List.getElem_mem hl))
  rw [a, b, c] at this
  exact ⟨this, l[i], List.getElem?_eq_getElem hl, hp⟩
end Go.Proofs.YtgihbilpimempabGreatDoor.kp

/-
  Contract of spec.l3Dec, sharper: -1 where the string is no numeral of a number up to 9999, else the number.
-/
namespace Go.Proofs.YtgihbilpimempabGreatDoor.dc
open Go.ChangeShapes Go.WideShapes Go.ChangeAt Go.RowKit
open Go.Proofs.YtgihbilpimempabGreatDoor.nb Go.Proofs.YtgihbilpimempabGreatDoor.ok Go.Proofs.YtgihbilpimempabGreatDoor.wd

/-- what a string of digits spells: -1 if it is no numeral of a number up to 9999 -/
def Reads (l : List UInt8) (v : Int) : Prop := (v = -1 ∧ ∀ m : Int, 0 ≤ m → m ≤ 9999 → l ≠ dl m) ∨ (0 ≤ v ∧ v ≤ 9999 ∧ l = dl v)
def ReadsPost (w : World) (l : List UInt8) (e : Ending) (w' : World) : Prop := ∃ v : Int, e = .returned (.int .i64 v) ∧ Reads l v ∧ Below w.heap.size w w'

theorem reads_not {l : List UInt8} (h : ∀ m : Int, 0 ≤ m → m ≤ 9999 → l ≠ dl m) : Reads l (-1) := .inl ⟨rfl, h⟩
theorem dl_len4 {m : Int} (h0 : 0 ≤ m) (h1 : m ≤ 9999) : 1 ≤ (dl m).length ∧ (dl m).length ≤ 4 := by
  by_cases h : m < 10
  · rw [dl_one h0 h]; simp
  · have := dl_len (n := m / 10) (by omega)
    rw [dl_step (by omega), List.length_append]
    simp
    omega
theorem not_len4 {l : List UInt8} (h : l.length < 1 ∨ 4 < l.length) : ∀ m : Int, 0 ≤ m → m ≤ 9999 → l ≠ dl m := fun m h0 h1 e => by
  have := dl_len4 h0 h1
  rw [← e] at this
  omega
theorem not_digit4 {l : List UInt8} {c : UInt8} (hm : c ∈ l) (h : dg c = false) : ∀ m : Int, 0 ≤ m → m ≤ 9999 → l ≠ dl m := fun m _ _ e => by
  have := List.all_eq_true.1 (dl_all m) c (e ▸ hm)
  rw [h] at this
  cases this
theorem not_val4 {l : List UInt8} (h : dl (val 0 l : Int) ≠ l) : ∀ m : Int, 0 ≤ m → m ≤ 9999 → l ≠ dl m := fun m h0 _ e => by
  apply h
  have : (val 0 l : Int) = m := by
    rw [e]
    unfold dl
    rw [dd_val]
    omega
  rw [this]
  exact e.symm

set_option maxHeartbeats 1000000 in
theorem dec3x_any (s : ByteArray) (hs : s.size ≤ 8388608) (w : World) :
    Calls Tryz.prog 72 #[.string s] w (ReadsPost w s.data.toList) := by
  by_cases h0 : s.size < 1
  · have R := Lib.hid (reads_not (not_len4 (l := s.data.toList) (.inl (by rw [← Lib.size_eq]; exact h0))))
    have h0' : (s.size : Int) < 1 := by omega
    go_enter Tryz.func72, Tryz.ntmps72
    go_wp2_with fail
    go_ret
    exact ⟨-1, rfl, R.out, Below.refl _ _⟩
  by_cases h1 : 4 < s.size
  · have R := Lib.hid (reads_not (not_len4 (l := s.data.toList) (.inr (by rw [← Lib.size_eq]; exact h1))))
    have h0' : ¬ (s.size : Int) < 1 := by omega
    have h1' : 4 < (s.size : Int) := by omega
    go_enter Tryz.func72, Tryz.ntmps72
    go_wp2_with fail
    go_ret
    exact ⟨-1, rfl, R.out, Below.refl _ _⟩
  have h0' : ¬ (s.size : Int) < 1 := by omega
  have h1' : ¬ 4 < (s.size : Int) := by omega
  go_enter Tryz.func72, Tryz.ntmps72
  go_wp2_with fail
  go_loop [3, 4] (fun x i => ∃ (k : Nat) (a : Int), k ≤ s.size ∧ i = .int .i64 k ∧ x = .int .i64 a ∧ 0 ≤ a ∧ a ≤ 9999 ∧ Hid (a = (val 0 (s.data.toList.take k) : Int) ∧ (s.data.toList.take k).all dg = true)) (fun _ i => s.size - (intOf i).toNat)
  case atStart => exact ⟨0, 0, by omega, rfl, rfl, by omega, by omega, rfl, rfl⟩
  case round =>
    obtain ⟨k, a, hk, rfl, rfl, a0, a1, HA⟩ := hrel
    by_cases hlt : k < s.size
    · have HM := Lib.hid (show s[k] ∈ s.data.toList from by show s.data[k] ∈ s.data.toList; simp)
      by_cases d0 : (s[k].toNat : Int) < 48
      · have R := Lib.hid (reads_not (not_digit4 HM.out (decide_eq_false (by omega))))
        go_wp2
        go_ret
        exact ⟨-1, rfl, R.out, Below.refl _ _⟩
      by_cases d1 : 57 < (s[k].toNat : Int)
      · have R := Lib.hid (reads_not (not_digit4 HM.out (decide_eq_false (by omega))))
        go_wp2
        go_ret
        exact ⟨-1, rfl, R.out, Below.refl _ _⟩
      have HS : Hid (a * 10 + ((s[k].toNat : Int) - 48) = (val 0 (s.data.toList.take (k + 1)) : Int) ∧ (s.data.toList.take (k + 1)).all dg = true) := by
        obtain ⟨e1, e2⟩ := HA.out
        have hd : dg s[k] = true := decide_eq_true (by omega)
        rw [ok.take_snoc s k hlt, val_snoc, List.all_append, e2]
        refine ⟨by rw [e1]; omega, by simp [hd]⟩
      have hb : a * 10 + ((s[k].toNat : Int) - 48) ≤ 9999 := by
        obtain ⟨e1, e2⟩ := HS.out
        have hv := val_lt _ e2
        have hp : 10 ^ (s.data.toList.take (k + 1)).length ≤ 10 ^ 4 := Nat.pow_le_pow_right (by omega) (by rw [List.length_take]; omega)
        rw [e1]
        have : (10 : Nat) ^ 4 = 10000 := by decide
        omega
      go_wp2
      go_round
      case rel => exact ⟨k + 1, _, by omega, by go_num, rfl, by omega, hb, HS⟩
      case measure => simp [intOf]; omega
    · have HE : Hid (a = (val 0 s.data.toList : Int)) := by
        have := HA.out.1
        rwa [List.take_of_length_le (by rw [← Lib.size_eq]; omega)] at this
      have HD := Lib.hid (fun W => dec_any a a0 a1 W)
      by_cases hq : str (dl a) = s
      · have R := Lib.hid (show Reads s.data.toList a from .inr ⟨a0, a1, by rw [← hq, data_str]⟩)
        rw [hq] at HD
        clear HA
        go_wp2_with fail
        refine (HD.out _).mono ?_
        rintro e w2 ⟨rfl, hB⟩
        go_wp2
        go_ret
        exact ⟨a, rfl, R.out, hB⟩
      · have R := Lib.hid (reads_not (not_val4 (l := s.data.toList) (fun e => hq (by rw [HE.out, e, str_data]))))
        have hne := toList_ne hq
        generalize str (dl a) = x at HD hne
        clear HA hq
        go_wp2_with fail
        refine (HD.out _).mono ?_
        rintro e w2 ⟨rfl, hB⟩
        go_wp2
        go_ret
        exact ⟨-1, rfl, R.out, hB⟩
end Go.Proofs.YtgihbilpimempabGreatDoor.dc

/-
  Contract of spec.l3Dec: a numeral's value, where the string is the numeral of a number up to 999.
-/
namespace Go.Proofs.YtgihbilpimempabGreatDoor.dc
open Go.ChangeShapes Go.WideShapes Go.ChangeAt Go.RowKit
open Go.Proofs.YtgihbilpimempabGreatDoor.nb Go.Proofs.YtgihbilpimempabGreatDoor.ok Go.Proofs.YtgihbilpimempabGreatDoor.wd

/-- v is what s spells, if s is the numeral of a number up to 999 -/
def Spells (l : List UInt8) (v : Int) : Prop := ∀ m : Int, 0 ≤ m → m ≤ 999 → l = dl m → v = m
def SpellPost (w : World) (l : List UInt8) (e : Ending) (w' : World) : Prop := ∃ v : Int, e = .returned (.int .i64 v) ∧ Spells l v ∧ Below w.heap.size w w'

theorem spells_not {l : List UInt8} {v : Int} (h : ∀ m : Int, 0 ≤ m → m ≤ 999 → l ≠ dl m) : Spells l v := fun m h0 h1 e => absurd e (h m h0 h1)
theorem not_len {l : List UInt8} (h : l.length < 1 ∨ 4 < l.length) : ∀ m : Int, 0 ≤ m → m ≤ 999 → l ≠ dl m := fun m _ h1 e => by
  have := dl_len h1
  rw [← e] at this
  omega
theorem not_digit {l : List UInt8} {c : UInt8} (hm : c ∈ l) (h : dg c = false) : ∀ m : Int, 0 ≤ m → m ≤ 999 → l ≠ dl m := fun m _ _ e => by
  have := List.all_eq_true.1 (dl_all m) c (e ▸ hm)
  rw [h] at this
  cases this
theorem spells_val {l : List UInt8} : Spells l (val 0 l : Int) := fun m h0 _ e => by
  rw [e]
  unfold dl
  rw [dd_val]
  omega
theorem not_val {l : List UInt8} (h : dl (val 0 l : Int) ≠ l) : ∀ m : Int, 0 ≤ m → m ≤ 999 → l ≠ dl m := fun m h0 h1 e => by
  have := spells_val m h0 h1 e
  rw [this] at h
  exact h e.symm

set_option maxHeartbeats 1000000 in
theorem dec3_any (s : ByteArray) (hs : s.size ≤ 1048576) (w : World) :
    Calls Tryz.prog 72 #[.string s] w (SpellPost w s.data.toList) := by
  by_cases h0 : s.size < 1
  · have R := Lib.hid (spells_not (v := -1) (not_len (l := s.data.toList) (.inl (by rw [← Lib.size_eq]; exact h0))))
    have h0' : (s.size : Int) < 1 := by omega
    go_enter Tryz.func72, Tryz.ntmps72
    go_wp2_with fail
    go_ret
    exact ⟨-1, rfl, R.out, Below.refl _ _⟩
  by_cases h1 : 4 < s.size
  · have R := Lib.hid (spells_not (v := -1) (not_len (l := s.data.toList) (.inr (by rw [← Lib.size_eq]; exact h1))))
    have h0' : ¬ (s.size : Int) < 1 := by omega
    have h1' : 4 < (s.size : Int) := by omega
    go_enter Tryz.func72, Tryz.ntmps72
    go_wp2_with fail
    go_ret
    exact ⟨-1, rfl, R.out, Below.refl _ _⟩
  have h0' : ¬ (s.size : Int) < 1 := by omega
  have h1' : ¬ 4 < (s.size : Int) := by omega
  go_enter Tryz.func72, Tryz.ntmps72
  go_wp2_with fail
  go_loop [3, 4] (fun x i => ∃ (k : Nat) (a : Int), k ≤ s.size ∧ i = .int .i64 k ∧ x = .int .i64 a ∧ 0 ≤ a ∧ a ≤ 9999 ∧ Hid (a = (val 0 (s.data.toList.take k) : Int) ∧ (s.data.toList.take k).all dg = true)) (fun _ i => s.size - (intOf i).toNat)
  case atStart => exact ⟨0, 0, by omega, rfl, rfl, by omega, by omega, rfl, rfl⟩
  case round =>
    obtain ⟨k, a, hk, rfl, rfl, a0, a1, HA⟩ := hrel
    by_cases hlt : k < s.size
    · have HM := Lib.hid (show s[k] ∈ s.data.toList from by show s.data[k] ∈ s.data.toList; simp)
      by_cases d0 : (s[k].toNat : Int) < 48
      · have R := Lib.hid (spells_not (v := -1) (not_digit HM.out (decide_eq_false (by omega))))
        go_wp2
        go_ret
        exact ⟨-1, rfl, R.out, Below.refl _ _⟩
      by_cases d1 : 57 < (s[k].toNat : Int)
      · have R := Lib.hid (spells_not (v := -1) (not_digit HM.out (decide_eq_false (by omega))))
        go_wp2
        go_ret
        exact ⟨-1, rfl, R.out, Below.refl _ _⟩
      have HS : Hid (a * 10 + ((s[k].toNat : Int) - 48) = (val 0 (s.data.toList.take (k + 1)) : Int) ∧ (s.data.toList.take (k + 1)).all dg = true) := by
        obtain ⟨e1, e2⟩ := HA.out
        have hd : dg s[k] = true := decide_eq_true (by omega)
        rw [ok.take_snoc s k hlt, val_snoc, List.all_append, e2]
        refine ⟨by rw [e1]; omega, by simp [hd]⟩
      have hb : a * 10 + ((s[k].toNat : Int) - 48) ≤ 9999 := by
        obtain ⟨e1, e2⟩ := HS.out
        have hv := val_lt _ e2
        have hp : 10 ^ (s.data.toList.take (k + 1)).length ≤ 10 ^ 4 := Nat.pow_le_pow_right (by omega) (by rw [List.length_take]; omega)
        rw [e1]
        have : (10 : Nat) ^ 4 = 10000 := by decide
        omega
      go_wp2
      go_round
      case rel => exact ⟨k + 1, _, by omega, by go_num, rfl, by omega, hb, HS⟩
      case measure => simp [intOf]; omega
    · have HE : Hid (a = (val 0 s.data.toList : Int)) := by
        have := HA.out.1
        rwa [List.take_of_length_le (by rw [← Lib.size_eq]; omega)] at this
      have HD := Lib.hid (fun W => dec_any a a0 a1 W)
      by_cases hq : str (dl a) = s
      · have R := Lib.hid (show Spells s.data.toList a by rw [HE.out]; exact spells_val)
        rw [hq] at HD
        clear HA
        go_wp2_with fail
        refine (HD.out _).mono ?_
        rintro e w2 ⟨rfl, hB⟩
        go_wp2
        go_ret
        exact ⟨a, rfl, R.out, hB⟩
      · have R := Lib.hid (spells_not (v := -1) (not_val (l := s.data.toList) (fun e => hq (by rw [HE.out, e, str_data]))))
        have hne := toList_ne hq
        generalize str (dl a) = x at HD hne
        clear HA hq
        go_wp2_with fail
        refine (HD.out _).mono ?_
        rintro e w2 ⟨rfl, hB⟩
        go_wp2
        go_ret
        exact ⟨-1, rfl, R.out, hB⟩
end Go.Proofs.YtgihbilpimempabGreatDoor.dc

/-
  Contracts of spec.l3Word, and of strings.Cut at a blank: the first word, and what stands behind it.
-/
namespace Go.Proofs.YtgihbilpimempabGreatDoor.dc
open Go.ChangeShapes Go.WideShapes Go.ChangeAt Go.RowKit
open Go.Proofs.YtgihbilpimempabGreatDoor.nb Go.Proofs.YtgihbilpimempabGreatDoor.ok

theorem below_drewN' {B : Nat} {a w : World} (h : Below B a w) (n : Nat) : Below B a (w.drewN n) := ⟨h.os, h.tape, h.output, h.size, h.block⟩

theorem word_parts {s : ByteArray} {i : Nat} (hi : s.data.toList[i]? = some 32) (hb : ∀ k, k < i → s.data.toList[k]? ≠ some 32) :
    s.extract 0 i = str (word s.data.toList).1 ∧ s.extract (i + 1) s.size = str (word s.data.toList).2 := by
  rw [word_at hi hb, Lib.extract_eq, Lib.extract_eq]
  refine ⟨by simp [str], ?_⟩
  unfold str
  congr 2
  show List.take (s.size - (i + 1)) (List.drop (i + 1) s.data.toList) = _
  rw [List.take_of_length_le (by rw [List.length_drop, ← Lib.size_eq]; exact Nat.le_refl _)]
theorem word_whole {s : ByteArray} (h : ∀ k : Nat, s.data.toList[k]? ≠ some 32) : s = str (word s.data.toList).1 ∧ (⟨#[]⟩ : ByteArray) = str (word s.data.toList).2 := by
  rw [word_none h]
  exact ⟨(str_data s).symm, rfl⟩

def WordPost (w : World) (s : ByteArray) (e : Ending) (w' : World) : Prop := e = .returned (.tuple #[.string (str (word s.data.toList).1), .string (str (word s.data.toList).2)]) ∧ Below w.heap.size w w'
def CutPost (w : World) (s : ByteArray) (e : Ending) (w' : World) : Prop := ∃ b, e = .returned (.tuple #[.string (str (word s.data.toList).1), .string (str (word s.data.toList).2), .bool b]) ∧ Below w.heap.size w w'

theorem idx_any (s : ByteArray) (w : World) : Calls Tryz.prog 140 #[.string s, .string ⟨#[32]⟩] w fun e w' => e = .returned (.int .i64 (Lib.indexByte s.data.toList 32)) ∧ w = w' :=
  (Tryz.stringslite_Index_one s 32 w).mono fun _ _ ⟨a, b⟩ => ⟨a, b.symm⟩

theorem cut_inner (s : ByteArray) (hs : s.size ≤ 1048576) (w : World) :
    Calls Tryz.prog 127 #[.string s, .string ⟨#[32]⟩] w (CutPost w s) := by
  by_cases hneg : Lib.indexByte s.data.toList 32 < 0
  · have e1 : Lib.indexByte s.data.toList 32 = -1 := by have := Lib.indexByte_ge s.data.toList 32; omega
    have HW := Lib.hid (word_whole (Lib.indexByte_none e1))
    have HI := Lib.hid (fun W => (idx_any s W))
    rw [e1] at HI
    clear hneg e1
    go_enter Tryz.func127, Tryz.ntmps127
    go_wp2_with ((go_at_call 140; refine (HI.out _).mono ?_; rintro e w' ⟨rfl, rfl⟩))
    go_ret3
    exact ⟨false, by rw [← HW.out.1, ← HW.out.2]; rfl, Below.refl _ _⟩
  · obtain ⟨o, ho⟩ := Int.eq_ofNat_of_zero_le (Int.not_lt.1 hneg)
    obtain ⟨h1, h2⟩ := Lib.indexByte_some ho
    have HW := Lib.hid (word_parts h1 h2)
    have HI := Lib.hid (fun W => (idx_any s W))
    rw [ho] at HI
    have hlt : o < s.size := by have := (List.getElem?_eq_some_iff.1 h1).1; rwa [← Lib.size_eq] at this
    clear hneg ho h1 h2
    have b0 : (0 : Int) ≤ (o : Int) := by omega
    have b1 : (o : Int) ≤ (s.size : Int) := by omega
    have b2 : IntKind.i64.wrap ((o : Int) + 1) = (o : Int) + 1 := by rw [IntKind.wrap_i64]; omega
    have b3 : (0 : Int) ≤ (o : Int) + 1 := by omega
    have b4 : (o : Int) + 1 ≤ (s.size : Int) := by omega
    have b5 : ((o : Int) + 1).toNat = o + 1 := by omega
    go_enter Tryz.func127, Tryz.ntmps127
    go_wp2_with ((go_at_call 140; refine (HI.out _).mono ?_; rintro e w' ⟨rfl, rfl⟩))
    go_quiet (fail)
    go_wp2
    go_ret3
    exact ⟨true, by rw [← HW.out.1, ← HW.out.2]; rfl, below_drewN' (Below.refl _ _) _⟩

theorem cut_any (s : ByteArray) (hs : s.size ≤ 1048576) (w : World) :
    Calls Tryz.prog 105 #[.string s, .string ⟨#[32]⟩] w (CutPost w s) := by
  have H := Lib.hid (fun W => cut_inner s hs W)
  go_enter Tryz.func105, Tryz.ntmps105
  go_wp2_with fail
  refine (H.out _).mono ?_
  rintro e w1 ⟨b, rfl, hB⟩
  go_wp2
  go_ret3
  exact ⟨b, rfl, hB⟩

theorem sword_any (s : ByteArray) (hs : s.size ≤ 1048576) (w : World) :
    Calls Tryz.prog 71 #[.string s] w (WordPost w s) := by
  go_enter Tryz.func71, Tryz.ntmps71
  go_wp2
  go_loop [4] (fun i => ∃ k : Nat, k ≤ s.size ∧ i = .int .i64 k ∧ Hid (∀ j, j < k → s.data.toList[j]? ≠ some 32)) (fun i => s.size - (intOf i).toNat)
  case atStart => exact ⟨0, by omega, rfl, fun j hj => absurd hj (by omega)⟩
  case round =>
    obtain ⟨k, hk, rfl, HA⟩ := hrel
    by_cases hlt : k < s.size
    · have hat : s.data.toList[k]? = some s[k] := by rw [List.getElem?_eq_getElem (by rw [← Lib.size_eq]; exact hlt)]; rfl
      by_cases hc : s[k] = 32
      · have HW := Lib.hid (word_parts (hat.trans (by rw [hc])) HA.out)
        have hcv : ((s[k].toNat : Int) == 32) = true := by rw [hc]; rfl
        have b0 : (0 : Int) ≤ (k : Int) := by omega
        have b1 : (k : Int) ≤ (s.size : Int) := by omega
        have b2 : IntKind.i64.wrap ((k : Int) + 1) = (k : Int) + 1 := by rw [IntKind.wrap_i64]; omega
        have b3 : (0 : Int) ≤ (k : Int) + 1 := by omega
        have b4 : (k : Int) + 1 ≤ (s.size : Int) := by omega
        have b5 : ((k : Int) + 1).toNat = k + 1 := by omega
        clear hat hc
        go_wp2
        go_quiet (fail)
        go_wp2
        go_ret2
        exact ⟨by rw [← HW.out.1, ← HW.out.2]; rfl, below_drewN' (Below.refl _ _) _⟩
      · have R : Hid (∀ j, j < k + 1 → s.data.toList[j]? ≠ some 32) := fun j hj => by
          by_cases e : j = k
          · subst e; rw [hat]; intro h; exact hc (Option.some.inj h)
          · exact HA.out j (by omega)
        have hcv : ((s[k].toNat : Int) == 32) = false := by
          rw [beq_eq_false_iff_ne]
          intro e
          apply hc
          apply UInt8.toNat_inj.1
          have : s[k].toNat = 32 := by omega
          rw [this]; rfl
        clear hat hc
        go_wp2
        go_round
        case rel => exact ⟨k + 1, by omega, by go_num, R⟩
        case measure => simp [intOf]; omega
    · have HW := Lib.hid (word_whole (s := s) (fun j e => by
        by_cases hj : j < k
        · exact HA.out j hj e
        · have := (List.getElem?_eq_some_iff.1 e).1
          rw [← Lib.size_eq] at this
          omega))
      go_wp2
      go_ret2
      exact ⟨by rw [← HW.out.1, ← HW.out.2]; rfl, Below.refl _ _⟩
end Go.Proofs.YtgihbilpimempabGreatDoor.dc

