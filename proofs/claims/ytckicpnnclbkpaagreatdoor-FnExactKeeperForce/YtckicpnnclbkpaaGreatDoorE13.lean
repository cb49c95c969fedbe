/-
  Merged texts: SStart, ReadPlain, DoPlain, OfPlain, Lim, Next, After, IMark, IHas.
-/
import Derived.Test.YtckicpnnclbkpaaGreatDoorE12
namespace Go.Proofs.YtckicpnnclbkpaaGreatDoor.kp
open Go.ChangeShapes Go.WideShapes Go.ChangeAt Go.RowKit
open wd ow rl ok nb
def zeroK : Kp := ⟨0, 0, 0, [], [], []⟩
def startK (id : Int) : Kp := if inB id 0 3 then ⟨id, 0, 1, [], [], []⟩ else zeroK
theorem nil_own {w W : World} {k : Kp} (hB : Below w.heap.size w W) (h1 : k.held = []) (h2 : k.marks = []) (h3 : k.inbox = []) : OwnK w W k (.slice none 0 0) (.slice none 0 0) (.slice none 0 0) := by
 refine ⟨⟨?_, hB⟩, ⟨?_, hB⟩, ⟨?_, hB⟩, (fun g e => by cases e), (fun g e => by cases e), (fun g e => by cases e)⟩
 ·rw [h1]; exact World.ownsRow_nil _ _ _ _
 ·rw [h2]; exact World.ownsRow_nil _ _ _ _
 ·rw [h3]; exact World.ownsRow_nil _ _ _ _
set_option maxRecDepth 100000 in
theorem start_any (id : Int) (w : World) : Calls Tryz.prog 58 #[.int .i64 id] w (KeepPost w (startK id)) := by
 have H1 := Lib.hid (fun V => keeper_any id V)
 cases hb : inB id 0 3 with
 | false =>
  have HE := Lib.hid (show startK id = zeroK by unfold startK; rw [hb]; rfl)
  rw [hb] at H1
  go_enter Tryz.func58, Tryz.ntmps58
  go_wp2_with fail
  refine (H1.out _).mono ?_
  rintro e w1 ⟨rfl, rfl⟩
  go_wp2
  refine bodyPost_ret (v := kpV 0 0 0 (.slice none 0 0) (.slice none 0 0) (.slice none 0 0)) (by simp [results, Tryz.results58, go_sem]) rfl ⟨_, _, _, by rw [HE.out]; rfl, ?_⟩
  rw [HE.out]
  exact nil_own ((Below.refl _ _).alloc (Nat.le_refl _) _) rfl rfl rfl
 | true =>
  have HE := Lib.hid (show startK id = ⟨id, 0, 1, [], [], []⟩ by unfold startK; rw [hb]; rfl)
  rw [hb] at H1
  go_enter Tryz.func58, Tryz.ntmps58
  go_wp2_with fail
  refine (H1.out _).mono ?_
  rintro e w1 ⟨rfl, rfl⟩
  go_wp2
  refine bodyPost_ret (v := kpV id 0 1 (.slice none 0 0) (.slice none 0 0) (.slice none 0 0)) (by simp [results, Tryz.results58, go_sem]) rfl ⟨_, _, _, by rw [HE.out], ?_⟩
  rw [HE.out]
  exact nil_own ((Below.refl _ _).alloc (Nat.le_refl _) _) rfl rfl rfl
end Go.Proofs.YtckicpnnclbkpaaGreatDoor.kp

namespace Go.Proofs.YtckicpnnclbkpaaGreatDoor.dc
open nb ok
def sfx (f n t u : Int) (r : List UInt8) : Nat → List UInt8
 | 0 => wl f n t u r
 | 1 => dl n ++ 32 :: (dl t ++ 32 :: (dl u ++ 32 :: r))
 | 2 => dl t ++ 32 :: (dl u ++ 32 :: r)
 | 3 => dl u ++ 32 :: r
 | _ => r
def Inv (l : List UInt8) (k : Nat) (vs : List Int) (rest : List UInt8) : Prop :=
 ∀ f n t u (s : ByteArray), okN f n t u s = true → l = wl f n t u s.data.toList → vs = [f, n, t, u].take k ∧ rest = sfx f n t u s.data.toList k
theorem inv_start (l : List UInt8) : Inv l 0 [] l := fun _ _ _ _ _ _ e => ⟨rfl, e⟩
theorem inv_step {l : List UInt8} {k : Nat} {vs : List Int} {rest : List UInt8} {v : Int} (hk : k < 4) (h : Inv l k vs rest)
  (hv : ∀ m : Int, 0 ≤ m → m ≤ 999 → (word rest).1 = dl m → v = m) : Inv l (k + 1) (vs ++ [v]) (word rest).2 := by
 intro f n t u s ho e
 obtain ⟨⟨f0, f1⟩, ⟨n0, n1⟩, ⟨t0, t1⟩, ⟨u0, u1⟩, _, _⟩ := okN_parts ho
 obtain ⟨h1, h2⟩ := h f n t u s ho e
 match k, hk with
 | 0, _ =>
  have e2 : word rest = (dl f, sfx f n t u s.data.toList 1) := by rw [h2]; exact word_dl f _
  have hv' := hv f (by omega) (by omega) (by rw [e2])
  rw [hv', h1, e2]
  exact ⟨rfl, rfl⟩
 | 1, _ =>
  have e2 : word rest = (dl n, sfx f n t u s.data.toList 2) := by rw [h2]; exact word_dl n _
  have hv' := hv n (by omega) (by omega) (by rw [e2])
  rw [hv', h1, e2]
  exact ⟨rfl, rfl⟩
 | 2, _ =>
  have e2 : word rest = (dl t, sfx f n t u s.data.toList 3) := by rw [h2]; exact word_dl t _
  have hv' := hv t (by omega) (by omega) (by rw [e2])
  rw [hv', h1, e2]
  exact ⟨rfl, rfl⟩
 | 3, _ =>
  have e2 : word rest = (dl u, sfx f n t u s.data.toList 4) := by rw [h2]; exact word_dl u _
  have hv' := hv u (by omega) (by omega) (by rw [e2])
  rw [hv', h1, e2]
  exact ⟨rfl, rfl⟩
def NoNote (x : ByteArray) : Prop := ∀ f n t u (s : ByteArray), okN f n t u s = true → x ≠ wr f n t u s
def RD (x : ByteArray) (b : Bool) (f n t u : Int) (s : ByteArray) : Prop :=
 (b = true ∧ okN f n t u s = true ∧ x = wr f n t u s) ∨ (b = false ∧ f = 0 ∧ n = 0 ∧ t = 0 ∧ u = 0 ∧ s = ⟨#[]⟩ ∧ NoNote x)
theorem wr_data {x : ByteArray} {f n t u : Int} {s : ByteArray} (h : x = wr f n t u s) : x.data.toList = wl f n t u s.data.toList := by rw [h]; exact data_str _
theorem wl_ne (f n t u : Int) (r : List UInt8) : wl f n t u r ≠ [] := by unfold wl; simp
theorem wr_ne (f n t u : Int) (s : ByteArray) : wr f n t u s ≠ str [] := fun h => wl_ne _ _ _ _ _ (str_inj h)
theorem fin_note {x : ByteArray} {a b c d : Int} {r : List UInt8} (h : Inv x.data.toList 4 [a, b, c, d] r) {f n t u : Int} {s : ByteArray} (ho : okN f n t u s = true) (e : x = wr f n t u s) :
  a = f ∧ b = n ∧ c = t ∧ d = u ∧ str r = s := by
 obtain ⟨h1, h2⟩ := h f n t u s ho (wr_data e)
 simp at h1
 obtain ⟨rfl, rfl, rfl, rfl⟩ := h1
 exact ⟨rfl, rfl, rfl, rfl, by rw [h2]; exact str_data s⟩
theorem fin_bad {x : ByteArray} {a b c d : Int} {r : List UInt8} (h : Inv x.data.toList 4 [a, b, c, d] r) (ho : okN a b c d (str r) = false) : NoNote x := by
 intro f n t u s hok e
 obtain ⟨rfl, rfl, rfl, rfl, rfl⟩ := fin_note h hok e
 rw [ho] at hok
 cases hok
theorem fin_other {x : ByteArray} {a b c d : Int} {r : List UInt8} (h : Inv x.data.toList 4 [a, b, c, d] r) (hne : wr a b c d (str r) ≠ x) : NoNote x := by
 intro f n t u s hok e
 obtain ⟨rfl, rfl, rfl, rfl, rfl⟩ := fin_note h hok e
 exact hne e.symm
theorem no_empty : NoNote (str []) := fun f n t u s _ e => wr_ne f n t u s e.symm
theorem dl_inj {a b : Int} (ha : 0 ≤ a) (hb : 0 ≤ b) (h : dl a = dl b) : a = b := by
 have := congrArg (val 0) h
 unfold dl at this
 rw [dd_val, dd_val] at this
 omega
theorem wr_inj {f n t u f' n' t' u' : Int} {s s' : ByteArray} (h : okN f n t u s = true) (h' : okN f' n' t' u' s' = true) (e : wr f n t u s = wr f' n' t' u' s') :
  f = f' ∧ n = n' ∧ t = t' ∧ u = u' ∧ s = s' := by
 obtain ⟨⟨f0, f1⟩, ⟨n0, n1⟩, ⟨t0, t1⟩, ⟨u0, u1⟩, _, _⟩ := okN_parts h
 obtain ⟨⟨f0', f1'⟩, ⟨n0', n1'⟩, ⟨t0', t1'⟩, ⟨u0', u1'⟩, _, _⟩ := okN_parts h'
 have e0 := str_inj e
 have w0 := congrArg word e0
 unfold wl at w0
 rw [word_dl, word_dl] at w0
 obtain ⟨g0, e1⟩ := Prod.mk.inj w0
 have w1 := congrArg word e1
 rw [word_dl, word_dl] at w1
 obtain ⟨g1, e2⟩ := Prod.mk.inj w1
 have w2 := congrArg word e2
 rw [word_dl, word_dl] at w2
 obtain ⟨g2, e3⟩ := Prod.mk.inj w2
 have w3 := congrArg word e3
 rw [word_dl, word_dl] at w3
 obtain ⟨g3, e4⟩ := Prod.mk.inj w3
 exact ⟨dl_inj f0 f0' g0, dl_inj (by omega) (by omega) g1, dl_inj t0 t0' g2, dl_inj (by omega) (by omega) g3, by rw [← str_data s, e4, str_data]⟩
theorem rd_one {x : ByteArray} {b b' : Bool} {f n t u f' n' t' u' : Int} {s s' : ByteArray} (h : RD x b f n t u s) (h' : RD x b' f' n' t' u' s') :
  b = b' ∧ f = f' ∧ n = n' ∧ t = t' ∧ u = u' ∧ s = s' := by
 rcases h with ⟨rfl, ho, e⟩ | ⟨rfl, rfl, rfl, rfl, rfl, rfl, hn⟩
 ·rcases h' with ⟨rfl, ho', e'⟩ | ⟨rfl, _, _, _, _, _, hn'⟩
  ·exact ⟨rfl, wr_inj ho ho' (e.symm.trans e')⟩
  ·exact absurd e (hn' _ _ _ _ _ ho)
 ·rcases h' with ⟨rfl, ho', e'⟩ | ⟨rfl, rfl, rfl, rfl, rfl, rfl, _⟩
  ·exact absurd e' (hn _ _ _ _ _ ho')
  ·exact ⟨rfl, rfl, rfl, rfl, rfl, rfl⟩
end Go.Proofs.YtckicpnnclbkpaaGreatDoor.dc

namespace Go.Proofs.YtckicpnnclbkpaaGreatDoor.kp
open nb ok dc
def cutL {α : Type} (l : List α) (i : Nat) : List α := l.take i ++ l.drop (i + 1)
theorem cutL_len {α : Type} {l : List α} {i : Nat} (h : i < l.length) : (cutL l i).length + 1 = l.length := by
 unfold cutL; simp [List.length_take, List.length_drop]; omega
def timeS (k : Kp) (t : Int) : Kp := { k with time := t, held := k.held.filter (fun x => decide (t < x.u)), marks := k.marks.filter (fun x => decide (t < x.u)) }
def letS (k : Kp) (i : Nat) (m : Mk) : Kp := { k with held := cutL k.held i, marks := putM k.marks m }
def eatS (k : Kp) (i : Nat) : Kp := { k with inbox := cutL k.inbox i }
def isM (m : Mk) (x : Nt) : Bool := x.f == m.f && x.n == m.n && x.u == m.u
inductive Rc where
 | time (v : Int)
 | next (v : Int)
 | own (x : Nt)
 | take (x : Nt)
 | held (x : Nt)
 | inbox (x : Nt)
 | lets (m : Mk)
 | eat (m : Mk)
 | mark (m : Mk)
def kwTime : List UInt8 := [116, 105, 109, 101]
def kwNext : List UInt8 := [110, 101, 120, 116]
def kwOwn : List UInt8 := [111, 119, 110]
def kwTake : List UInt8 := [116, 97, 107, 101]
def kwHeld : List UInt8 := [104, 101, 108, 100]
def kwInbox : List UInt8 := [105, 110, 98, 111, 120]
def kwLet : List UInt8 := [108, 101, 116]
def kwEat : List UInt8 := [101, 97, 116]
def kwMark : List UInt8 := [109, 97, 114, 107]
def m3 (f n u : Int) : List UInt8 := dl f ++ 32 :: (dl n ++ 32 :: dl u)
def kw : Rc → List UInt8
 | .time _ => kwTime
 | .next _ => kwNext
 | .own _ => kwOwn
 | .take _ => kwTake
 | .held _ => kwHeld
 | .inbox _ => kwInbox
 | .lets _ => kwLet
 | .eat _ => kwEat
 | .mark _ => kwMark
def wlN (x : Nt) : List UInt8 := wl x.f x.n x.t x.u x.s.data.toList
def m3M (m : Mk) : List UInt8 := m3 m.f m.n m.u
def body : Rc → List UInt8
 | .time v => dl v
 | .next v => dl v
 | .own x => wlN x
 | .take x => wlN x
 | .held x => wlN x
 | .inbox x => wlN x
 | .lets m => m3M m
 | .eat m => m3M m
 | .mark m => m3M m
def rcL (r : Rc) : List UInt8 := kw r ++ 32 :: body r
def rcOk : Rc → Prop
 | .time v => 0 ≤ v ∧ v ≤ 999
 | .next v => 0 ≤ v ∧ v ≤ 999
 | .own x => okNt x = true
 | .take x => okNt x = true
 | .held x => okNt x = true
 | .inbox x => okNt x = true
 | .lets m => okMk m = true
 | .eat m => okMk m = true
 | .mark m => okMk m = true
def takeO (k : Kp) (x : Nt) : Option Kp := if takeB k x = true then some (takeS k x) else none
def applyS (k : Kp) : Rc → Option Kp
 | .time v => if k.time < v then some (timeS k v) else none
 | .next v => if k.next < v then some { k with next := v } else none
 | .own x => if x.f = k.id ∧ x.n = k.next then takeO { k with next := k.next + 1 } x else none
 | .take x => if x.f = k.id then none else takeO k x
 | .held x => if hasN k.held x.f x.n = true ∨ hasN k.inbox x.f x.n = true then none else some { k with held := putN k.held x }
 | .inbox x => if hasN k.held x.f x.n = true ∨ hasN k.inbox x.f x.n = true then none else some { k with inbox := putN k.inbox x }
 | .lets m => match k.held.findIdx? (isM m) with
  | some i => some (letS k i m)
  | none => none
 | .eat m => match k.inbox.findIdx? (isM m) with
  | some i => some (eatS k i)
  | none => none
 | .mark m => if hasM k.marks m.f m.n = true then none else some { k with marks := putM k.marks m }
theorem kw_blank (r : Rc) : ∀ c ∈ kw r, c ≠ 32 := by cases r <;> simp only [kw] <;> decide
theorem word_rcL (r : Rc) : word (rcL r) = (kw r, body r) := word_append (kw_blank r)
theorem word_back {l a b : List UInt8} (h : word l = (a, b)) (hb : b ≠ []) : l = a ++ 32 :: b := by
 induction l generalizing a b with
 | nil => cases h; exact absurd rfl hb
 | cons c l ih =>
  by_cases hc : c = 32
  ·subst hc; rw [word_blank] at h; cases h; rfl
  ·rw [word_cons hc] at h
   obtain ⟨h1, h2⟩ := Prod.mk.inj h
   rw [← h1, List.cons_append]
   congr 1
   exact ih (a := (word l).1) (b := b) (by rw [← h2]) hb
theorem dl_ne (v : Int) : dl v ≠ [] := fun h => by
 have := dd_all v.toNat
 unfold dl at h
 by_cases h1 : v.toNat < 10
 ·rw [Lib.decDigits_one h1] at h; cases h
 ·rw [dd_step (by omega)] at h; simp at h
theorem m3_ne (f n u : Int) : m3 f n u ≠ [] := by unfold m3; simp
theorem okMk_parts {m : Mk} (h : okMk m = true) : (0 ≤ m.f ∧ m.f ≤ 3) ∧ (1 ≤ m.n ∧ m.n ≤ 99) ∧ 1 ≤ m.u ∧ m.u ≤ 999 := by
 unfold okMk at h
 simp only [Bool.and_eq_true] at h
 exact ⟨of_decide_eq_true h.1.1, of_decide_eq_true h.1.2, of_decide_eq_true h.2⟩
theorem m3_inj {f n u f' n' u' : Int} (hf : 0 ≤ f) (hn : 0 ≤ n) (hu : 0 ≤ u) (hf' : 0 ≤ f') (hn' : 0 ≤ n') (hu' : 0 ≤ u') (e : m3 f n u = m3 f' n' u') : f = f' ∧ n = n' ∧ u = u' := by
 have w0 := congrArg word e
 unfold m3 at w0
 rw [word_dl, word_dl] at w0
 obtain ⟨g0, e1⟩ := Prod.mk.inj w0
 have w1 := congrArg word e1
 rw [word_dl, word_dl] at w1
 obtain ⟨g1, e2⟩ := Prod.mk.inj w1
 exact ⟨dl_inj hf hf' g0, dl_inj hn hn' g1, dl_inj hu hu' e2⟩
theorem wlN_inj {x y : Nt} (h : okNt x = true) (h' : okNt y = true) (e : wlN x = wlN y) : x = y := by
 obtain ⟨h1, h2, h3, h4, h5⟩ := wr_inj h h' (show wr x.f x.n x.t x.u x.s = wr y.f y.n y.t y.u y.s from congrArg str e)
 cases x; cases y
 simp at h1 h2 h3 h4 h5
 rw [h1, h2, h3, h4, h5]
theorem m3M_inj {x y : Mk} (h : okMk x = true) (h' : okMk y = true) (e : m3M x = m3M y) : x = y := by
 obtain ⟨a1, a2, a3⟩ := okMk_parts h
 obtain ⟨b1, b2, b3⟩ := okMk_parts h'
 obtain ⟨h1, h2, h3⟩ := m3_inj (by omega) (by omega) (by omega) (by omega) (by omega) (by omega) e
 cases x; cases y
 simp at h1 h2 h3
 rw [h1, h2, h3]
theorem rcL_inj {r r' : Rc} (h : rcOk r) (h' : rcOk r') (e : rcL r = rcL r') : r = r' := by
 have w0 := congrArg word e
 rw [word_rcL, word_rcL] at w0
 obtain ⟨e1, e2⟩ := Prod.mk.inj w0
 cases r <;> cases r' <;> first
  | (exfalso; simp only [kw] at e1; revert e1; decide)
  | (congr 1; exact dl_inj h.1 h'.1 e2)
  | (congr 1; exact wlN_inj h h' e2)
  | (congr 1; exact m3M_inj h h' e2)
def NoDo (k : Kp) (l : List UInt8) : Prop := ∀ r x, rcOk r → l = rcL r → applyS k r = some x → okK x = false
def Does (k : Kp) (l : List UInt8) (k' : Kp) (b : Bool) : Prop :=
 (b = true ∧ ∃ r, rcOk r ∧ l = rcL r ∧ applyS k r = some k' ∧ okK k' = true) ∨ (b = false ∧ k' = k ∧ NoDo k l)
def DoK (k : Kp) (l : List UInt8) (k' : Kp) (b : Bool) : Prop := (okK k = false ∧ k' = zeroK ∧ b = false) ∨ (okK k = true ∧ Does k l k' b)
theorem does_one {k : Kp} {l : List UInt8} {k1 k2 : Kp} {b1 b2 : Bool} (h1 : Does k l k1 b1) (h2 : Does k l k2 b2) : k1 = k2 ∧ b1 = b2 := by
 rcases h1 with ⟨rfl, r, ho, e, ha, hk⟩ | ⟨rfl, rfl, hn⟩
 ·rcases h2 with ⟨rfl, r', ho', e', ha', hk'⟩ | ⟨rfl, rfl, hn'⟩
  ·have := rcL_inj ho ho' (e.symm.trans e')
   subst this
   rw [ha] at ha'
   exact ⟨Option.some.inj ha', rfl⟩
  ·rw [hn' r k1 ho e ha] at hk; cases hk
 ·rcases h2 with ⟨rfl, r', ho', e', ha', hk'⟩ | ⟨rfl, rfl, hn'⟩
  ·rw [hn r' k2 ho' e' ha'] at hk'; cases hk'
  ·exact ⟨rfl, rfl⟩
def RecP (k : Kp) (l : List UInt8) (k' : Kp) (b : Bool) : Prop :=
 (b = true ∧ ∃ r, rcOk r ∧ l = rcL r ∧ applyS k r = some k') ∨ ((b = false ∨ okK k' = false) ∧ NoDo k l)
theorem recP_t {k : Kp} {l : List UInt8} {k' : Kp} (h : RecP k l k' true) (ho : okK k' = true) : Does k l k' true := by
 rcases h with ⟨_, r, h1, h2, h3⟩ | ⟨h | h, _⟩
 ·exact .inl ⟨rfl, r, h1, h2, h3, ho⟩
 ·cases h
 ·rw [h] at ho; cases ho
theorem recP_bad {k : Kp} {l : List UInt8} {k' : Kp} {b : Bool} (h : RecP k l k' b) (ho : okK k' = false) : Does k l k false := by
 refine .inr ⟨rfl, rfl, ?_⟩
 rcases h with ⟨_, r, h1, h2, h3⟩ | ⟨_, h⟩
 ·intro r' x hr' e' ha
  have := rcL_inj h1 hr' (h2.symm.trans e')
  subst this
  rw [h3] at ha
  rw [← Option.some.inj ha]
  exact ho
 ·exact h
theorem recP_f {k : Kp} {l : List UInt8} {k' : Kp} (h : RecP k l k' false) : Does k l k false := by
 refine .inr ⟨rfl, rfl, ?_⟩
 rcases h with ⟨h, _⟩ | ⟨_, h⟩
 ·cases h
 ·exact h
theorem nodo_word {k : Kp} {l : List UInt8} (h : ∀ r : Rc, kw r ≠ (word l).1) : NoDo k l := fun r x _ e _ => by
 exfalso
 apply h r
 rw [e, word_rcL]
theorem nodo_of {k : Kp} {l : List UInt8} (h : ∀ r x, rcOk r → kw r = (word l).1 → body r = (word l).2 → applyS k r = some x → okK x = false) : NoDo k l := fun r x hr e ha =>
 h r x hr (by rw [e, word_rcL]) (by rw [e, word_rcL]) ha
theorem okK_parts {k : Kp} (h : okK k = true) : inB k.id 0 3 = true ∧ inB k.time 0 999 = true ∧ inB k.next 1 100 = true ∧ okNts k.held 6 = true ∧ okMks k.marks = true ∧ okNts k.inbox 6 = true ∧ k.held.all (heldOk k) = true ∧ k.marks.all (markOk k) = true ∧ k.inbox.all (inOk k) = true := by
 unfold okK at h
 simp only [Bool.and_eq_true] at h
 obtain ⟨⟨⟨⟨⟨⟨⟨⟨a, b⟩, c⟩, d⟩, e⟩, f⟩, g⟩, i⟩, j⟩ := h
 exact ⟨a, b, c, d, e, f, g, i, j⟩
theorem okNts_parts {l : List Nt} {m : Nat} (h : okNts l m = true) : l.length ≤ m ∧ ∀ i, i < l.length → ordN l i = true := by
 unfold okNts at h
 rw [Bool.and_eq_true] at h
 exact ⟨of_decide_eq_true h.1, allI_iff.1 h.2⟩
theorem okMks_parts {l : List Mk} (h : okMks l = true) : l.length ≤ 12 ∧ ∀ i, i < l.length → ordM l i = true := by
 unfold okMks at h
 rw [Bool.and_eq_true] at h
 exact ⟨of_decide_eq_true h.1, allI_iff.1 h.2⟩
theorem less_trans {a b c d e f : Int} (h1 : less a b c d = true) (h2 : less c d e f = true) : less a b e f = true := by
 unfold less at *
 have h1 := of_decide_eq_true h1
 have h2 := of_decide_eq_true h2
 exact decide_eq_true (by omega)
theorem less_irr {a b : Int} : less a b a b = false := decide_eq_false (by omega)
theorem ordN_ok {l : List Nt} {i : Nat} {x : Nt} (h : ordN l i = true) (hx : l[i]? = some x) : okNt x = true := by
 unfold ordN at h
 rw [hx] at h
 simp only [Bool.and_eq_true] at h
 exact h.1
theorem ordM_ok {l : List Mk} {i : Nat} {x : Mk} (h : ordM l i = true) (hx : l[i]? = some x) : okMk x = true := by
 unfold ordM at h
 rw [hx] at h
 simp only [Bool.and_eq_true] at h
 exact h.1
theorem okNts_mem {l : List Nt} {m : Nat} (h : okNts l m = true) {x : Nt} (hx : x ∈ l) : okNt x = true := by
 obtain ⟨i, hi, rfl⟩ := List.mem_iff_getElem.1 hx
 exact ordN_ok ((okNts_parts h).2 i hi) (List.getElem?_eq_getElem hi)
theorem okMks_mem {l : List Mk} (h : okMks l = true) {x : Mk} (hx : x ∈ l) : okMk x = true := by
 obtain ⟨i, hi, rfl⟩ := List.mem_iff_getElem.1 hx
 exact ordM_ok ((okMks_parts h).2 i hi) (List.getElem?_eq_getElem hi)
theorem okNts_lt {l : List Nt} {m : Nat} (h : okNts l m = true) : ∀ (j i : Nat) (x y : Nt), i < j → l[i]? = some x → l[j]? = some y → less x.f x.n y.f y.n = true := by
 intro j
 induction j with
 | zero => intro i x y h; omega
 | succ j ih =>
  intro i x y hij hx hy
  have hj : j + 1 < l.length := (List.getElem?_eq_some_iff.1 hy).1
  have hz : l[j]? = some l[j] := List.getElem?_eq_getElem (by omega)
  have ho := (okNts_parts h).2 (j + 1) hj
  rw [ordN_succ hy hz, Bool.and_eq_true] at ho
  by_cases e : i = j
  ·subst e
   rw [hz] at hx
   cases hx
   exact ho.2
  ·exact less_trans (ih i x l[j] (by omega) hx hz) ho.2
theorem okNts_one {l : List Nt} {m : Nat} (h : okNts l m = true) {i j : Nat} {x y : Nt} (hx : l[i]? = some x) (hy : l[j]? = some y) (hf : x.f = y.f) (hn : x.n = y.n) : i = j := by
 rcases Nat.lt_trichotomy i j with hl | e | hl
 ·have := okNts_lt h j i x y hl hx hy
  rw [hf, hn, less_irr] at this; cases this
 ·exact e
 ·have := okNts_lt h i j y x hl hy hx
  rw [hf, hn, less_irr] at this; cases this
theorem isM_iff {m : Mk} {x : Nt} : isM m x = true ↔ x.f = m.f ∧ x.n = m.n ∧ x.u = m.u := by
 unfold isM
 rw [Bool.and_eq_true, Bool.and_eq_true, beq_iff_eq, beq_iff_eq, beq_iff_eq, and_assoc]
theorem findM_some {l : List Nt} {q : Nat} (h : okNts l q = true) {m : Mk} {i : Nat} {x : Nt} (hx : l[i]? = some x) (hm : isM m x = true) : l.findIdx? (isM m) = some i := by
 rw [List.findIdx?_eq_some_iff_getElem]
 obtain ⟨hi, e⟩ := List.getElem?_eq_some_iff.1 hx
 refine ⟨hi, by rw [e]; exact hm, fun j hj hp => ?_⟩
 obtain ⟨a, b, _⟩ := isM_iff.1 hm
 obtain ⟨a', b', _⟩ := isM_iff.1 hp
 have := okNts_one h (i := j) (j := i) (List.getElem?_eq_getElem (by omega)) hx (a'.trans a.symm) (b'.trans b.symm)
 omega
theorem findM_none {l : List Nt} {m : Mk} (h : ∀ x ∈ l, isM m x = false) : l.findIdx? (isM m) = none := by
 rw [List.findIdx?_eq_none_iff]
 intro x hx
 exact h x hx
theorem ixN_isM {l : List Nt} {q : Nat} (h : okNts l q = true) {m : Mk} : (ixN l m.f m.n = -1 → l.findIdx? (isM m) = none) ∧ ∀ (i : Nat) (x : Nt), ixN l m.f m.n = (i : Nat) → l[i]? = some x → (x.u = m.u → l.findIdx? (isM m) = some i) ∧ (x.u ≠ m.u → l.findIdx? (isM m) = none) := by
 rcases ixN_cases l m.f m.n with ⟨hn, he⟩ | ⟨hn, i, x, he, hx, hf, hnn⟩
 ·refine ⟨fun _ => findM_none fun y hy => ?_, fun i x e => by rw [he] at e; omega⟩
  unfold hasN at hn
  rw [List.any_eq_false] at hn
  have := hn y hy
  unfold isM
  rw [Bool.eq_false_iff.2 this]; rfl
 ·refine ⟨fun e => by rw [he] at e; omega, fun j y e hy => ?_⟩
  have hij : i = j := by rw [he] at e; omega
  subst hij
  rw [hx] at hy
  cases hy
  refine ⟨fun hu => findM_some h hx (isM_iff.2 ⟨hf, hnn, hu⟩), fun hu => findM_none fun y hy => ?_⟩
  obtain ⟨j, hj, rfl⟩ := List.mem_iff_getElem.1 hy
  rw [Bool.eq_false_iff]
  intro hp
  obtain ⟨a, b, c⟩ := isM_iff.1 hp
  have := okNts_one h (i := j) (j := i) (List.getElem?_eq_getElem hj) hx (a.trans hf.symm) (b.trans hnn.symm)
  subst this
  rw [List.getElem?_eq_getElem hj] at hx
  rw [Option.some.inj hx] at c
  exact hu c
theorem okNt_mk {x : Nt} (h : okNt x = true) : okMk ⟨x.f, x.n, x.u⟩ = true := by
 obtain ⟨h1, h2, _, h4, _, _⟩ := okN_parts h
 unfold okMk
 rw [inB_iff.2 (by omega), inB_iff.2 (by omega), inB_iff.2 (by omega)]
 rfl
theorem findM_ok {l : List Nt} {q : Nat} (h : okNts l q = true) {m : Mk} {i : Nat} (hi : l.findIdx? (isM m) = some i) : okMk m = true ∧ ∃ x, l[i]? = some x ∧ isM m x = true := by
 rw [List.findIdx?_eq_some_iff_getElem] at hi
 obtain ⟨hl, hp, _⟩ := hi
 obtain ⟨a, b, c⟩ := isM_iff.1 hp
 have := okNt_mk (okNts_mem h (List.getElem_mem hl))
 rw [a, b, c] at this
 exact ⟨this, l[i], List.getElem?_eq_getElem hl, hp⟩
end Go.Proofs.YtckicpnnclbkpaaGreatDoor.kp

namespace Go.Proofs.YtckicpnnclbkpaaGreatDoor.kp
open nb ok dc
def Runs : Kp → List (List UInt8) → Kp → Prop
 | k, [], k' => k' = k
 | k, l :: ls, k' => ∃ k1, Does k l k1 true ∧ Runs k1 ls k'
theorem runs_one {k : Kp} {ls : List (List UInt8)} {a b : Kp} (h1 : Runs k ls a) (h2 : Runs k ls b) : a = b := by
 induction ls generalizing k with
 | nil => exact h1.trans h2.symm
 | cons l ls ih =>
  obtain ⟨x, hx, h1⟩ := h1
  obtain ⟨y, hy, h2⟩ := h2
  obtain ⟨e, _⟩ := does_one hx hy
  subst e
  exact ih h1 h2
theorem runs_snoc {k k1 k2 : Kp} {ls : List (List UInt8)} {l : List UInt8} (h : Runs k ls k1) (hd : Does k1 l k2 true) : Runs k (ls ++ [l]) k2 := by
 induction ls generalizing k with
 | nil => cases h; exact ⟨_, hd, rfl⟩
 | cons a ls ih =>
  obtain ⟨x, hx, h⟩ := h
  exact ⟨x, hx, ih h⟩
theorem does_ok {k k' : Kp} {l : List UInt8} (h : Does k l k' true) : okK k' = true := by
 rcases h with ⟨_, _, _, _, _, h⟩ | ⟨h, _⟩
 ·exact h
 ·cases h
theorem runs_ok {k k' : Kp} {ls : List (List UInt8)} (hk : okK k = true) (h : Runs k ls k') : okK k' = true := by
 induction ls generalizing k with
 | nil => cases h; exact hk
 | cons a ls ih =>
  obtain ⟨x, hx, h⟩ := h
  exact ih (does_ok hx) h
def Stops (k : Kp) (ls : List (List UInt8)) : Prop := ∃ i l k1, ls[i]? = some l ∧ Runs k (ls.take i) k1 ∧ Does k1 l k1 false
theorem runs_take {k k' : Kp} {ls : List (List UInt8)} (h : Runs k ls k') (i : Nat) (l : List UInt8) (hi : ls[i]? = some l) : ∃ k1 k2, Runs k (ls.take i) k1 ∧ Does k1 l k2 true := by
 induction ls generalizing k i with
 | nil => simp at hi
 | cons a ls ih =>
  obtain ⟨x, hx, h⟩ := h
  cases i with
  | zero =>
   simp only [List.getElem?_cons_zero, Option.some.injEq] at hi
   subst hi
   exact ⟨k, x, rfl, hx⟩
  | succ i =>
   rw [List.getElem?_cons_succ] at hi
   obtain ⟨k1, k2, h1, h2⟩ := ih h i hi
   exact ⟨k1, k2, ⟨x, hx, h1⟩, h2⟩
theorem runs_stops {k k' : Kp} {ls : List (List UInt8)} (h : Runs k ls k') (hs : Stops k ls) : False := by
 obtain ⟨i, l, k1, hi, hr, hd⟩ := hs
 obtain ⟨k2, k3, h1, h2⟩ := runs_take h i l hi
 have := runs_one hr h1
 subst this
 cases (does_one hd h2).2
def OfK (id : Int) (ls : List (List UInt8)) (k' : Kp) (b : Bool) : Prop :=
 (inB id 0 3 = true ∧ b = true ∧ Runs (startK id) ls k') ∨ (b = false ∧ k' = zeroK ∧ (inB id 0 3 = false ∨ inB id 0 3 = true ∧ Stops (startK id) ls))
theorem ofK_one {id : Int} {ls : List (List UInt8)} {k1 k2 : Kp} {b1 b2 : Bool} (h1 : OfK id ls k1 b1) (h2 : OfK id ls k2 b2) : k1 = k2 ∧ b1 = b2 := by
 rcases h1 with ⟨hi, rfl, h1⟩ | ⟨rfl, rfl, h1⟩
 ·rcases h2 with ⟨_, rfl, h2⟩ | ⟨rfl, rfl, h2 | ⟨_, h2⟩⟩
  ·exact ⟨runs_one h1 h2, rfl⟩
  ·rw [hi] at h2; cases h2
  ·exact (runs_stops h1 h2).elim
 ·rcases h2 with ⟨hi, rfl, h2⟩ | ⟨rfl, rfl, h2⟩
  ·rcases h1 with h1 | ⟨_, h1⟩
   ·rw [hi] at h1; cases h1
   ·exact (runs_stops h2 h1).elim
  ·exact ⟨rfl, rfl⟩
theorem take_snoc {α : Type} {ls : List α} {i : Nat} {l : α} (h : ls[i]? = some l) : ls.take (i + 1) = ls.take i ++ [l] := by
 rw [List.take_add_one, h]; rfl
end Go.Proofs.YtckicpnnclbkpaaGreatDoor.kp

namespace Go.Proofs.YtckicpnnclbkpaaGreatDoor.li
open Go.ChangeShapes Go.WideShapes Go.ChangeAt Go.RowKit
open nb
abbrev lim (v a b : Int) : Value := .agg #[.int .i64 v, .int .i64 a, .int .i64 b]
theorem limited_any (n : Int) (w : World) :
  Calls Tryz.prog 120 #[.int .i64 n] w fun e w' => e = .returned (lim n 0 3) ∧ Below w.heap.size w w' := by
 go_enter Tryz.func120, Tryz.ntmps120
 go_wp2
 exact bodyPost_ret (v := lim n 0 3) (by simp [results, Tryz.results120, go_sem, lim]) rfl ⟨rfl, (Below.refl _ _).alloc (Nat.le_refl _) _⟩
theorem limNum_any (n : Int) (w : World) :
  Calls Tryz.prog 121 #[.int .i64 n] w fun e w' => e = .returned (lim n 1 99) ∧ Below w.heap.size w w' := by
 go_enter Tryz.func121, Tryz.ntmps121
 go_wp2
 exact bodyPost_ret (v := lim n 1 99) (by simp [results, Tryz.results121, go_sem, lim]) rfl ⟨rfl, (Below.refl _ _).alloc (Nat.le_refl _) _⟩
theorem limUntil_any (n : Int) (w : World) :
  Calls Tryz.prog 122 #[.int .i64 n] w fun e w' => e = .returned (lim n 1 999) ∧ Below w.heap.size w w' := by
 go_enter Tryz.func122, Tryz.ntmps122
 go_wp2
 exact bodyPost_ret (v := lim n 1 999) (by simp [results, Tryz.results122, go_sem, lim]) rfl ⟨rfl, (Below.refl _ _).alloc (Nat.le_refl _) _⟩
theorem outside_any (v a b : Int) (w : World) :
  Calls Tryz.prog 125 #[lim v a b] w fun e w' => e = .returned (.bool (!inB v a b)) ∧ Below w.heap.size w w' := by
 unfold lim
 by_cases h1 : v < a
 ·rw [inB_f (.inl h1)]
  go_enter Tryz.func125, Tryz.ntmps125
  go_wp2
  go_ret
  exact ⟨rfl, (Below.refl _ _).alloc (Nat.le_refl _) _⟩
 ·by_cases h2 : b < v
  ·rw [inB_f (.inr h2)]
   go_enter Tryz.func125, Tryz.ntmps125
   go_wp2
   go_ret
   exact ⟨rfl, (Below.refl _ _).alloc (Nat.le_refl _) _⟩
  ·rw [inB_t (by omega) (by omega)]
   go_enter Tryz.func125, Tryz.ntmps125
   go_wp2
   go_ret
   exact ⟨rfl, (Below.refl _ _).alloc (Nat.le_refl _) _⟩
end Go.Proofs.YtckicpnnclbkpaaGreatDoor.li

namespace Go.Proofs.YtckicpnnclbkpaaGreatDoor.nx
open Go.ChangeShapes Go.WideShapes Go.ChangeAt Go.RowKit
open nb li
def nxt (a t : Int) : Int := if a = t ∨ a < 0 ∨ 3 < a ∨ t < 0 ∨ 3 < t then -1 else if a < t then a + 1 else a - 1
def cmpI (x y : Int) : Int := if x < y then -1 else if y < x then 1 else 0
theorem cmpI_lt {x y : Int} (h : x < y) : cmpI x y = -1 := if_pos h
theorem cmpI_gt {x y : Int} (h : y < x) : cmpI x y = 1 := by unfold cmpI; rw [if_neg (by omega), if_pos h]
theorem cmpI_eq {x y : Int} (h : x = y) : cmpI x y = 0 := by unfold cmpI; rw [if_neg (by omega), if_neg (by omega)]
theorem nan_any (x : Int) (w : World) :
  Calls Tryz.prog 209 #[.int .i64 x] w fun e w' => e = .returned (.bool false) ∧ w = w' := by
 go_enter Tryz.func209, Tryz.ntmps209
 go_wp2
 go_ret
 exact ⟨rfl, rfl⟩
theorem cmp_any (x y : Int) (w : World) :
  Calls Tryz.prog 185 #[.int .i64 x, .int .i64 y] w fun e w' => e = .returned (.int .i64 (cmpI x y)) ∧ w = w' := by
 rcases Int.lt_trichotomy x y with h | h | h
 ·have hr := Lib.hid (cmpI_lt h)
  go_enter Tryz.func185, Tryz.ntmps185
  go_wp2_with ((go_at_call 209; refine (nan_any _ _).mono ?_; rintro e w' ⟨rfl, rfl⟩))
  go_ret
  exact ⟨ret_int hr.out.symm, rfl⟩
 ·subst h
  have hr := Lib.hid (cmpI_eq (x := x) rfl)
  go_enter Tryz.func185, Tryz.ntmps185
  go_wp2_with ((go_at_call 209; refine (nan_any _ _).mono ?_; rintro e w' ⟨rfl, rfl⟩))
  go_ret
  exact ⟨ret_int hr.out.symm, rfl⟩
 ·have hr := Lib.hid (cmpI_gt h)
  have h2 : ¬ x < y := by omega
  go_enter Tryz.func185, Tryz.ntmps185
  go_wp2_with ((go_at_call 209; refine (nan_any _ _).mono ?_; rintro e w' ⟨rfl, rfl⟩))
  go_ret
  exact ⟨ret_int hr.out.symm, rfl⟩
end Go.Proofs.YtckicpnnclbkpaaGreatDoor.nx

namespace Go.Proofs.YtckicpnnclbkpaaGreatDoor.qa
open Go.RowKit
open wd
structure After (w : World) where
 W : World
 h : Below w.heap.size w W
instance (w : World) : Inhabited (After w) := ⟨⟨w, Below.refl _ _⟩⟩
theorem region {P : Program} {id : Nat} {Q : Exit → Act → World → Prop} {a : Act} {w : World} {l : List Oper} (hm : P.follows .mixedOrders = true) (hB : Region.lexB .any l.toArray = true)
  (h : wpQuiet P l.toArray (fun w' => ∃ p : After w, w' = p.W) (fun a' => ∀ w', (∃ p : After w, w' = p.W) → Q .normal a' w') l a) : (Code.region id l.toArray true).wp P Q a w :=
 wp_region_quiet (C := fun w' => ∃ p : After w, w' = p.W) hm hB ⟨⟨_, (Below.refl _ w).drew⟩, rfl⟩ (by simpa using h)
section
variable {P : Program} {f : FuncId} {args : Array Value} {w : World} {v : Value}
theorem of_below {p : After w} (h : Calls P f args p.W fun e w' => e = .returned v ∧ Below p.W.heap.size p.W w') : Calls P f args p.W fun e w'' => e = .returned v ∧ ∃ q : After w, w'' = q.W :=
 h.mono fun _ w' ⟨he, hb⟩ => ⟨he, ⟨w', p.h.trans (hb.mono p.h.size)⟩, rfl⟩
theorem of_same {p : After w} (h : Calls P f args p.W fun e w' => e = .returned v ∧ p.W = w') : Calls P f args p.W fun e w'' => e = .returned v ∧ ∃ q : After w, w'' = q.W :=
 h.mono fun _ _ ⟨he, hb⟩ => ⟨he, p, hb.symm⟩
theorem cell {g i : Nat} (hg : g < w.heap.size) (h : w.cell? ⟨g, i, none⟩ = some v) (p : After w) : p.W.cell? ⟨g, i, none⟩ = some v := (p.h.cell (p := ⟨g, i, none⟩) hg).trans h
theorem blk {g : Nat} {t : TypeId} {cs : Array Value} (h : Blk w g t cs) (p : After w) : Blk p.W g t cs := h.below p.h h.lt
end
theorem three {w : World} {g : Nat} {t : TypeId} {a b c : Value} (h : Blk w g t #[a, b, c]) : (∀ p : After w, p.W.cell? ⟨g, 0, none⟩ = some a) ∧ (∀ p : After w, p.W.cell? ⟨g, 1, none⟩ = some b) ∧ (∀ p : After w, p.W.cell? ⟨g, 2, none⟩ = some c) :=
 ⟨fun p => (blk h p).cell 0, fun p => (blk h p).cell 1, fun p => (blk h p).cell 2⟩
theorem five {w : World} {g : Nat} {t : TypeId} {a b c d e : Value} (h : Blk w g t #[a, b, c, d, e]) : (∀ p : After w, p.W.cell? ⟨g, 0, none⟩ = some a) ∧ (∀ p : After w, p.W.cell? ⟨g, 1, none⟩ = some b) ∧ (∀ p : After w, p.W.cell? ⟨g, 2, none⟩ = some c) ∧ (∀ p : After w, p.W.cell? ⟨g, 3, none⟩ = some d) ∧ (∀ p : After w, p.W.cell? ⟨g, 4, none⟩ = some e) :=
 ⟨fun p => (blk h p).cell 0, fun p => (blk h p).cell 1, fun p => (blk h p).cell 2, fun p => (blk h p).cell 3, fun p => (blk h p).cell 4⟩
theorem six {w : World} {g : Nat} {t : TypeId} {a b c d e f : Value} (h : Blk w g t #[a, b, c, d, e, f]) : (∀ p : After w, p.W.cell? ⟨g, 0, none⟩ = some a) ∧ (∀ p : After w, p.W.cell? ⟨g, 1, none⟩ = some b) ∧ (∀ p : After w, p.W.cell? ⟨g, 2, none⟩ = some c) ∧ (∀ p : After w, p.W.cell? ⟨g, 3, none⟩ = some d) ∧ (∀ p : After w, p.W.cell? ⟨g, 4, none⟩ = some e) ∧ (∀ p : After w, p.W.cell? ⟨g, 5, none⟩ = some f) :=
 ⟨fun p => (blk h p).cell 0, fun p => (blk h p).cell 1, fun p => (blk h p).cell 2, fun p => (blk h p).cell 3, fun p => (blk h p).cell 4, fun p => (blk h p).cell 5⟩
end Go.Proofs.YtckicpnnclbkpaaGreatDoor.qa

namespace Go.Proofs.YtckicpnnclbkpaaGreatDoor.kp
open Go.ChangeShapes Go.WideShapes Go.ChangeAt Go.RowKit
open wd ow rl ok nb nx
def AggPost (w : World) (v : Value) (e : Ending) (w' : World) : Prop := e = .returned v ∧ Below w.heap.size w w'
theorem nmark_any (f n t u : Int) (s : ByteArray) (w : World) : Calls Tryz.prog 167 #[note f n t u s] w (AggPost w (mark f n u)) := by
 unfold note
 go_enter Tryz.func167, Tryz.ntmps167
 go_wp2
 refine bodyPost_ret (v := mark f n u) (by simp [results, Tryz.results167, go_sem, mark]) rfl ⟨rfl, ?_⟩
 exact ((Below.refl _ _).alloc (Nat.le_refl _) _).alloc (by simp) _
theorem mmark_any (f n u : Int) (w : World) : Calls Tryz.prog 273 #[mark f n u] w (AggPost w (mark f n u)) := by
 unfold mark
 go_enter Tryz.func273, Tryz.ntmps273
 go_wp2
 refine bodyPost_ret (v := mark f n u) (by simp [results, Tryz.results273, go_sem, mark]) rfl ⟨rfl, ?_⟩
 exact ((Below.refl _ _).alloc (Nat.le_refl _) _).alloc (by simp) _
theorem mMark (a b c : Value) (w : World) : (Go.method 453 108 (.agg #[a, b, c]) "loop.example/bargeman/impl.mark").run Tryz.prog w = .ok (273, .agg #[a, b, c]) w := by kernel_rfl
theorem mNote (a b c d e : Value) (w : World) : (Go.method 453 105 (.agg #[a, b, c, d, e]) "loop.example/bargeman/impl.mark").run Tryz.prog w = .ok (167, .agg #[a, b, c, d, e]) w := by kernel_rfl
def orI (a b : Int) : Int := if a = 0 then b else a
theorem or_any (a b : Int) (g : Nat) (w : World) (h0 : w.cell? ⟨g, 0, none⟩ = some (.int .i64 a)) (h1 : w.cell? ⟨g, 1, none⟩ = some (.int .i64 b)) :
  Calls Tryz.prog 184 #[.slice (some ⟨g, 0, none⟩) 2 2] w fun e w' => e = .returned (.int .i64 (orI a b)) ∧ w = w' := by
 by_cases ha : a = 0
 ·subst ha
  have HE := Lib.hid (show orI 0 b = b from if_pos rfl)
  by_cases hb : b = 0
  ·subst hb
   go_enter Tryz.func184, Tryz.ntmps184
   go_wp2
   go_loop [8] (fun i => i = .int .i64 0 ∨ i = .int .i64 1 ∨ i = .int .i64 2) (fun i => 3 - (intOf i).toNat)
   case atStart => exact .inl rfl
   case round =>
    rcases hrel with rfl | rfl | rfl
    ·go_wp2
     go_round
     case rel => exact .inr (.inl rfl)
     case measure => simp [intOf]
    ·go_wp2
     go_round
     case rel => exact .inr (.inr rfl)
     case measure => simp [intOf]
    ·go_wp2
     go_ret
     exact ⟨nb.ret_int HE.out.symm, rfl⟩
  ·have hb' : (b == 0) = false := by simpa using hb
   go_enter Tryz.func184, Tryz.ntmps184
   go_wp2
   go_loop [8] (fun i => i = .int .i64 0 ∨ i = .int .i64 1) (fun i => 3 - (intOf i).toNat)
   case atStart => exact .inl rfl
   case round =>
    rcases hrel with rfl | rfl
    ·go_wp2
     go_round
     case rel => exact .inr rfl
     case measure => simp [intOf]
    ·go_wp2
     go_ret
     exact ⟨nb.ret_int HE.out.symm, rfl⟩
 ·have HE := Lib.hid (show orI a b = a from if_neg ha)
  have ha' : (a == 0) = false := by simpa using ha
  go_enter Tryz.func184, Tryz.ntmps184
  go_wp2
  go_loop [8] (fun i => i = .int .i64 0) (fun i => 3 - (intOf i).toNat)
  case atStart => exact rfl
  case round =>
   subst hrel
   go_wp2
   go_ret
   exact ⟨nb.ret_int HE.out.symm, rfl⟩
theorem or_new (a b : Int) (t : TypeId) (W : World) :
  Calls Tryz.prog 184 #[.slice (some ⟨W.heap.size, 0, none⟩) 2 2] (W.alloc (.cells #[.int .i64 a, .int .i64 b] t)).drew fun e w' => e = .returned (.int .i64 (orI a b)) ∧ (W.alloc (.cells #[.int .i64 a, .int .i64 b] t)).drew = w' :=
 or_any a b _ _ ((Blk.new W t _).cell 0) ((Blk.new W t _).cell 1)
def cmpM (f n f' n' : Int) : Int := orI (cmpI f f') (cmpI n n')
def CmpPost (w : World) (f n f' n' : Int) (e : Ending) (w' : World) : Prop := e = .returned (.int .i64 (cmpM f n f' n')) ∧ Below w.heap.size w w'
theorem cmpM_eq {f n f' n' : Int} : cmpM f n f' n' = 0 ↔ (f = f' ∧ n = n') := by
 rcases Int.lt_trichotomy f f' with h | h | h
 ·unfold cmpM; rw [cmpI_lt h]; simp [orI]; omega
 ·unfold cmpM
  rw [cmpI_eq h, show orI 0 (cmpI n n') = cmpI n n' from if_pos rfl]
  rcases Int.lt_trichotomy n n' with h' | h' | h'
  ·rw [cmpI_lt h']; omega
  ·rw [cmpI_eq h']; omega
  ·rw [cmpI_gt h']; omega
 ·unfold cmpM; rw [cmpI_gt h]; simp [orI]; omega
theorem cmpM_lt {f n f' n' : Int} : cmpM f n f' n' < 0 ↔ (f < f' ∨ f = f' ∧ n < n') := by
 rcases Int.lt_trichotomy f f' with h | h | h
 ·unfold cmpM; rw [cmpI_lt h]; simp [orI]; omega
 ·unfold cmpM
  rw [cmpI_eq h, show orI 0 (cmpI n n') = cmpI n n' from if_pos rfl]
  rcases Int.lt_trichotomy n n' with h' | h' | h'
  ·rw [cmpI_lt h']; omega
  ·rw [cmpI_eq h']; omega
  ·rw [cmpI_gt h']; omega
 ·unfold cmpM; rw [cmpI_gt h]; simp [orI]; omega
set_option maxRecDepth 100000 in
set_option maxHeartbeats 800000 in
theorem compare_any (f n u f' n' u' : Int) (w : World) : Calls Tryz.prog 157 #[mark f n u, mark f' n' u'] w (CmpPost w f n f' n') := by
 unfold mark
 have k1 := (Blk.new w 108 #[.int .i64 f, .int .i64 n, .int .i64 u]).alloc (.cells #[.int .i64 f', .int .i64 n', .int .i64 u'] 108)
 have k2 := Blk.new (w.alloc (.cells #[.int .i64 f, .int .i64 n, .int .i64 u] 108)) 108 #[.int .i64 f', .int .i64 n', .int .i64 u']
 have hB0 := ((Below.refl w.heap.size w).alloc (Nat.le_refl _) (.cells #[.int .i64 f, .int .i64 n, .int .i64 u] 108)).alloc (by simp) (.cells #[.int .i64 f', .int .i64 n', .int .i64 u'] 108)
 simp only [World.size_alloc] at k2
 go_enter Tryz.func157, Tryz.ntmps157
 go_wp2_with fail
 generalize (w.alloc (.cells #[.int .i64 f, .int .i64 n, .int .i64 u] 108)).alloc (.cells #[.int .i64 f', .int .i64 n', .int .i64 u'] 108) = V at k1 k2 hB0 ⊢
 have c0 := k1.cell 0
 have c1 := k1.cell 1
 have d0 := k2.cell 0
 have d1 := k2.cell 1
 simp only [List.getElem?_toArray, List.getElem?_cons_zero, List.getElem?_cons_succ] at c0 c1 d0 d1
 have HB := Lib.hid hB0
 clear k1 k2 hB0
 have HR := Lib.hid (show orI (cmpI f f') (cmpI n n') = cmpM f n f' n' from rfl)
 go_region_held3 (fun w' => w'.cell? ⟨w.heap.size, 0, none⟩ = some (.int .i64 f) ∧ w'.cell? ⟨w.heap.size, 1, none⟩ = some (.int .i64 n) ∧ w'.cell? ⟨w.heap.size + 1, 0, none⟩ = some (.int .i64 f') ∧ w'.cell? ⟨w.heap.size + 1, 1, none⟩ = some (.int .i64 n')) (first | exact ⟨c0, c1, d0, d1⟩ | go_keep) ((first | (go_at_call 185; refine (cmp_any _ _ _).mono ?_; rintro e w2 ⟨rfl, rfl⟩) | (go_at_call 184; refine (or_new _ _ _ _).mono ?_; rintro e w3 ⟨rfl, rfl⟩)))
 have HB2 := Lib.hid (show Below w.heap.size w (V.alloc (.cells #[.int .i64 (cmpI f f'), .int .i64 (cmpI n n')] 3)).drew from (HB.out.alloc HB.out.size _).drew)
 clear c0 c1 d0 d1
 go_wp2
 go_ret
 exact ⟨nb.ret_int HR.out, HB2.out⟩
end Go.Proofs.YtckicpnnclbkpaaGreatDoor.kp

namespace Go.Proofs.YtckicpnnclbkpaaGreatDoor.kp
open Go.ChangeShapes Go.WideShapes Go.ChangeAt Go.RowKit
open wd ow rl ok nb nx
def IdxPost (w : World) (i : Nat) (b : Bool) (e : Ending) (w' : World) : Prop := e = .returned (.tuple #[.int .i64 i, .bool b]) ∧ Below w.heap.size w w'
theorem mk_any_at {α : Type} {p : α → Bool} {l : List α} {k : Nat} {x : α} (hx : l[k]? = some x) (hp : p x = true) : l.any p = true := List.any_eq_true.2 ⟨x, List.mem_of_getElem? hx, hp⟩
theorem findIdx_end {α : Type} {p : α → Bool} {l : List α} {k : Nat} (h : (l.take k).any p = false) (hk : l.length ≤ k) : l.findIdx p = l.length ∧ l.any p = false := by
 rw [List.take_of_length_le hk] at h
 refine ⟨?_, h⟩
 rw [List.findIdx_eq_length]
 intro y hy
 rw [List.any_eq_false] at h
 simpa using h y hy
def PredM (g b : Nat) (w : World) (l : List Mk) (p : Mk → Bool) : Prop := ∀ V x, Below w.heap.size w V → x ∈ l → Calls Tryz.prog g #[mark x.f x.n x.u, .pointer (some ⟨b, 0, none⟩)] V (BoolK V (p x))
def PredN (g b : Nat) (w : World) (l : List Nt) (p : Nt → Bool) : Prop := ∀ V x, Below w.heap.size w V → x ∈ l → Calls Tryz.prog g #[note x.f x.n x.t x.u x.s, .pointer (some ⟨b, 0, none⟩)] V (BoolK V (p x))
set_option maxRecDepth 100000 in
set_option maxHeartbeats 800000 in
theorem srch_hasM (w : World) (v : Value) (l : List Mk) (h : SeesMk w v l) (hl : l.length ≤ 1048576) (b : Nat) (p : Mk → Bool) (hp : PredM 217 b w l p) :
  Calls Tryz.prog 200 #[v, .func (.func 217) #[] #[.pointer (some ⟨b, 0, none⟩)]] w (IdxPost w (l.findIdx p) (l.any p)) := by
 have HP := Lib.hid hp
 have HS := Lib.hid h
 obtain ⟨A, c, rfl, _⟩ := h
 clear hp
 go_enter Tryz.func200, Tryz.ntmps200
 go_wp2
 go_loopw [10] (fun i wr => ∃ k : Nat, k ≤ l.length ∧ i = .int .i64 k ∧ Hid ((l.take k).any p = false) ∧ Below w.heap.size w wr) (fun i _ => (l.length + 1 : Nat) - (intOf i).toNat)
 case atStart => exact ⟨0, by omega, rfl, rfl, Below.refl _ _⟩
 case round =>
  obtain ⟨k, hk, rfl, HA, hB⟩ := hrel
  by_cases hlt : k < l.length
  ·have hx : l[k]? = some l[k] := List.getElem?_eq_getElem hlt
   have hm := List.getElem_mem hlt
   have hc := mark_at (HS.out.later hB) hx
   generalize l[k] = y at hx hm hc
   obtain ⟨g, c', e, hg, _, t0, t1, t2⟩ := hc
   injection e with e1 e2 e3
   subst e1; subst e3
   have hk1 : (k : Int) < (l.length : Int) := by omega
   have HX := Lib.hid hx
   have HM := Lib.hid hm
   have HB := Lib.hid hB
   clear hx hm hB
   go_wp2_with fail
   have hB0 := HB.out.alloc HB.out.size (.cells #[.int .i64 y.f, .int .i64 y.n, .int .i64 y.u] 108)
   refine (HP.out _ y hB0 HM.out).mono ?_
   rintro e w2 ⟨rfl, hB2⟩
   have HB2 := Lib.hid (hB0.trans (hB2.mono hB0.size))
   clear hB2 hB0 t0 t1 t2
   cases hq : p y with
   | true =>
    have HI := Lib.hid (findIdx_first HA.out HX.out hq)
    have HT := Lib.hid (mk_any_at HX.out hq)
    clear hq
    go_wp2
    go_ret2
    exact ⟨by rw [HI.out, HT.out]; rfl, HB2.out⟩
   | false =>
    have HN := Lib.hid (none_on HA.out HX.out hq)
    clear hq
    go_wp2
    go_roundw
    case rel => exact ⟨k + 1, by omega, by go_num, HN, HB2.out⟩
    case measure => simp [intOf]; omega
  ·obtain ⟨e1, e2⟩ := findIdx_end HA.out (by omega)
   have HE := Lib.hid e1
   have HF := Lib.hid e2
   clear e1 e2
   have hk1 : ¬ (k : Int) < (l.length : Int) := by omega
   go_wp2
   go_ret2
   exact ⟨by rw [HE.out, HF.out]; rfl, hB⟩
end Go.Proofs.YtckicpnnclbkpaaGreatDoor.kp

