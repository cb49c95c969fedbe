/-
  Merged texts: IOrd.
-/
import Derived.Test.YtckicpnnclbkpaaGreatDoorE14
namespace Go.Proofs.YtckicpnnclbkpaaGreatDoor.kp
open Go.ChangeShapes Go.WideShapes Go.ChangeAt Go.RowKit
open wd ow rl ok nb nx
def ordQ (p : Nt → Bool) (l : List Nt) (i : Nat) : Bool :=
 match l[i]? with
 | none => true
 | some x => p x && (match i with
  | 0 => true
  | j + 1 => match l[j]? with
   | none => true
   | some y => less y.f y.n x.f x.n)
def ordR (p : Mk → Bool) (l : List Mk) (i : Nat) : Bool :=
 match l[i]? with
 | none => true
 | some x => p x && (match i with
  | 0 => true
  | j + 1 => match l[j]? with
   | none => true
   | some y => less y.f y.n x.f x.n)
theorem ordQ_zero {p : Nt → Bool} {l : List Nt} {x : Nt} (h : l[0]? = some x) : ordQ p l 0 = p x := by simp [ordQ, h]
theorem ordQ_succ {p : Nt → Bool} {l : List Nt} {i : Nat} {x y : Nt} (h : l[i + 1]? = some x) (h' : l[i]? = some y) : ordQ p l (i + 1) = (p x && less y.f y.n x.f x.n) := by simp [ordQ, h, h']
theorem ordQ_bad {p : Nt → Bool} {l : List Nt} {i : Nat} {x : Nt} (h : l[i]? = some x) (hp : p x = false) : ordQ p l i = false := by simp [ordQ, h, hp]
theorem ordR_zero {p : Mk → Bool} {l : List Mk} {x : Mk} (h : l[0]? = some x) : ordR p l 0 = p x := by simp [ordR, h]
theorem ordR_succ {p : Mk → Bool} {l : List Mk} {i : Nat} {x y : Mk} (h : l[i + 1]? = some x) (h' : l[i]? = some y) : ordR p l (i + 1) = (p x && less y.f y.n x.f x.n) := by simp [ordR, h, h']
theorem ordR_bad {p : Mk → Bool} {l : List Mk} {i : Nat} {x : Mk} (h : l[i]? = some x) (hp : p x = false) : ordR p l i = false := by simp [ordR, h, hp]
theorem cmp_less (f n f' n' : Int) : less f n f' n' = decide (cmpM f n f' n' < 0) := by
 unfold less
 exact decide_eq_decide.2 cmpM_lt.symm
def MethN (g b : Nat) (w : World) (l : List Nt) (p : Nt → Bool) : Prop := ∀ V x, Below w.heap.size w V → x ∈ l → Calls Tryz.prog g #[.pointer (some ⟨b, 0, none⟩), note x.f x.n x.t x.u x.s] V (BoolK V (p x))
def MethM (g b : Nat) (w : World) (l : List Mk) (p : Mk → Bool) : Prop := ∀ V x, Below w.heap.size w V → x ∈ l → Calls Tryz.prog g #[.pointer (some ⟨b, 0, none⟩), mark x.f x.n x.u] V (BoolK V (p x))
set_option maxRecDepth 100000 in
set_option maxHeartbeats 4000000 in
theorem ord_hold (w : World) (v : Value) (l : List Nt) (h : SeesN w v l) (hl : l.length ≤ 1048576) (b : Nat) (p : Nt → Bool) (hp : MethN 135 b w l p) :
  Calls Tryz.prog 134 #[v, .func (.func 135) #[.pointer (some ⟨b, 0, none⟩)] #[]] w (BoolK w (allI l.length (ordQ p l))) := by
 have HP := Lib.hid hp
 have HS := Lib.hid h
 obtain ⟨A, c, rfl, _⟩ := h
 clear hp
 go_enter Tryz.func134, Tryz.ntmps134
 go_wp2
 go_loopw [9] (fun i wr => ∃ k : Nat, k ≤ l.length ∧ i = .int .i64 k ∧ Hid (allI k (ordQ p l) = true) ∧ Below w.heap.size w wr) (fun i _ => (l.length + 1 : Nat) - (intOf i).toNat)
 case atStart => exact ⟨0, by omega, rfl, rfl, Below.refl _ _⟩
 case round =>
  obtain ⟨k, hk, rfl, HA, hB⟩ := hrel
  by_cases hlt : k < l.length
  ·have hx : l[k]? = some l[k] := List.getElem?_eq_getElem hlt
   have hm := List.getElem_mem hlt
   have hc := note_at (HS.out.later hB) hx
   generalize l[k] = y at hx hm hc
   obtain ⟨g, c', e, hg, _, t0, t1, t2, t3, t4⟩ := hc
   injection e with e1 e2 e3
   subst e1; subst e3
   have hk1 : (k : Int) < (l.length : Int) := by omega
   have HX := Lib.hid hx
   have HM := Lib.hid hm
   have HB := Lib.hid hB
   clear hx hm hB
   go_wp2_with fail
   have hB0 := HB.out.alloc HB.out.size (.cells #[.int .i64 y.f, .int .i64 y.n, .int .i64 y.t, .int .i64 y.u, .string y.s] 105)
   have kb := Blk.new wr 105 #[.int .i64 y.f, .int .i64 y.n, .int .i64 y.t, .int .i64 y.u, .string y.s]
   generalize wr.heap.size = G at kb ⊢
   generalize wr.alloc (.cells #[.int .i64 y.f, .int .i64 y.n, .int .i64 y.t, .int .i64 y.u, .string y.s] 105) = W at *
   refine (HP.out _ y hB0 HM.out).mono ?_
   rintro e w2 ⟨rfl, hB2⟩
   have hW2 := hB0.trans (hB2.mono hB0.size)
   have kb2 := kb.below hB2 kb.lt
   have HB2 := Lib.hid hW2
   clear hB2 hB0 t0 t1 t2 t3 t4 kb hW2
   cases hq : p y with
   | false =>
    have HR := Lib.hid (allI_bad hlt (ordQ_bad HX.out hq))
    clear hq kb2
    go_wp2
    go_ret
    exact ⟨nb.ret_bool HR.out.symm, HB2.out⟩
   | true =>
    have HQ := Lib.hid hq
    clear hq
    obtain ⟨c0, c1, c2, c3, c4⟩ := qa.five kb2
    clear kb2
    cases k with
    | zero =>
     have HR := Lib.hid (allI_on HA.out (show ordQ p l 0 = true from (ordQ_zero HX.out).trans HQ.out))
     go_wp2_with fail
     refine qa.region (by kernel_rfl) (by kernel_rfl) ?_
     repeat (go_big_quiet_step (fail))
     refine wpQuiet_nil ?_
     rintro _ ⟨q, rfl⟩
     have HB3 := Lib.hid (HB2.out.trans (q.h.mono HB2.out.size))
     clear c0 c1 c2 c3 c4
     go_wp2
     go_roundw
     case rel => exact ⟨1, by omega, by go_num, HR, HB3.out⟩
     case measure => simp [intOf]
    | succ j =>
    have hz : l[j]? = some l[j] := List.getElem?_eq_getElem (by omega)
    have hc := note_at (HS.out.later HB2.out) hz
    generalize l[j] = z at hz hc
    obtain ⟨g', c'', e, hg2, _, r0, r1, r2, r3, r4⟩ := hc
    injection e with e1 e2 e3
    injection e1 with e1
    injection e1 with e1 _ _
    subst e1; subst e3
    have q0 := qa.cell (w := w2) (i := j * 5) hg2 r0
    have q1 := qa.cell (w := w2) (i := j * 5 + 1) hg2 r1
    have q2 := qa.cell (w := w2) (i := j * 5 + 2) hg2 r2
    have q3 := qa.cell (w := w2) (i := j * 5 + 3) hg2 r3
    have q4 := qa.cell (w := w2) (i := j * 5 + 4) hg2 r4
    have hm := mNote
    have HO := Lib.hid (ordQ_succ (p := p) HX.out hz)
    have HC := Lib.hid (cmp_less z.f z.n y.f y.n)
    clear hz e2
    have CA := Lib.hid (fun V => compare_any z.f z.n z.u y.f y.n y.u V)
    unfold CmpPost at CA
    generalize cmpM z.f z.n y.f y.n = cv at CA HC
    have hj2 : (j : Int) < (l.length : Int) := by omega
    by_cases hcv : 0 ≤ cv
    ·have HR := Lib.hid (allI_bad hlt (HO.out.trans (by rw [HQ.out, HC.out, decide_eq_false (by omega)]; rfl)))
     clear HO HC
     go_wp2_with fail
     refine qa.region (by kernel_rfl) (by kernel_rfl) ?_
     repeat (go_big_quiet_step (first | (go_at_call 167; exact qa.of_below (nmark_any _ _ _ _ _ _)) | (go_at_call 157; exact qa.of_below (CA.out _))))
     refine wpQuiet_nil ?_
     rintro _ ⟨q, rfl⟩
     have HB3 := Lib.hid (HB2.out.trans (q.h.mono HB2.out.size))
     clear c0 c1 c2 c3 c4 q0 q1 q2 q3 q4 hm
     go_wp2
     go_ret
     exact ⟨nb.ret_bool HR.out.symm, HB3.out⟩
    ·have HR := Lib.hid (allI_on HA.out (HO.out.trans (by rw [HQ.out, HC.out, decide_eq_true (by omega)]; rfl)))
     clear HO HC
     go_wp2_with fail
     try have hcv := Int.not_le.2 hcv
     refine qa.region (by kernel_rfl) (by kernel_rfl) ?_
     repeat (go_big_quiet_step (first | (go_at_call 167; exact qa.of_below (nmark_any _ _ _ _ _ _)) | (go_at_call 157; exact qa.of_below (CA.out _))))
     refine wpQuiet_nil ?_
     rintro _ ⟨q, rfl⟩
     have HB3 := Lib.hid (HB2.out.trans (q.h.mono HB2.out.size))
     clear c0 c1 c2 c3 c4 q0 q1 q2 q3 q4 hm
     go_wp2
     go_roundw
     case rel => exact ⟨j + 1 + 1, by omega, by go_num, HR, HB3.out⟩
     case measure => simp [intOf]; omega
  ·have HR := Lib.hid (show allI l.length (ordQ p l) = true by have := HA.out; rwa [show k = l.length by omega] at this)
   have hk1 : ¬ (k : Int) < (l.length : Int) := by omega
   go_wp2
   go_ret
   exact ⟨nb.ret_bool HR.out.symm, hB⟩
set_option maxRecDepth 100000 in
set_option maxHeartbeats 4000000 in
theorem ord_inbox (w : World) (v : Value) (l : List Nt) (h : SeesN w v l) (hl : l.length ≤ 1048576) (b : Nat) (p : Nt → Bool) (hp : MethN 138 b w l p) :
  Calls Tryz.prog 134 #[v, .func (.func 138) #[.pointer (some ⟨b, 0, none⟩)] #[]] w (BoolK w (allI l.length (ordQ p l))) := by
 have HP := Lib.hid hp
 have HS := Lib.hid h
 obtain ⟨A, c, rfl, _⟩ := h
 clear hp
 go_enter Tryz.func134, Tryz.ntmps134
 go_wp2
 go_loopw [9] (fun i wr => ∃ k : Nat, k ≤ l.length ∧ i = .int .i64 k ∧ Hid (allI k (ordQ p l) = true) ∧ Below w.heap.size w wr) (fun i _ => (l.length + 1 : Nat) - (intOf i).toNat)
 case atStart => exact ⟨0, by omega, rfl, rfl, Below.refl _ _⟩
 case round =>
  obtain ⟨k, hk, rfl, HA, hB⟩ := hrel
  by_cases hlt : k < l.length
  ·have hx : l[k]? = some l[k] := List.getElem?_eq_getElem hlt
   have hm := List.getElem_mem hlt
   have hc := note_at (HS.out.later hB) hx
   generalize l[k] = y at hx hm hc
   obtain ⟨g, c', e, hg, _, t0, t1, t2, t3, t4⟩ := hc
   injection e with e1 e2 e3
   subst e1; subst e3
   have hk1 : (k : Int) < (l.length : Int) := by omega
   have HX := Lib.hid hx
   have HM := Lib.hid hm
   have HB := Lib.hid hB
   clear hx hm hB
   go_wp2_with fail
   have hB0 := HB.out.alloc HB.out.size (.cells #[.int .i64 y.f, .int .i64 y.n, .int .i64 y.t, .int .i64 y.u, .string y.s] 105)
   have kb := Blk.new wr 105 #[.int .i64 y.f, .int .i64 y.n, .int .i64 y.t, .int .i64 y.u, .string y.s]
   generalize wr.heap.size = G at kb ⊢
   generalize wr.alloc (.cells #[.int .i64 y.f, .int .i64 y.n, .int .i64 y.t, .int .i64 y.u, .string y.s] 105) = W at *
   refine (HP.out _ y hB0 HM.out).mono ?_
   rintro e w2 ⟨rfl, hB2⟩
   have hW2 := hB0.trans (hB2.mono hB0.size)
   have kb2 := kb.below hB2 kb.lt
   have HB2 := Lib.hid hW2
   clear hB2 hB0 t0 t1 t2 t3 t4 kb hW2
   cases hq : p y with
   | false =>
    have HR := Lib.hid (allI_bad hlt (ordQ_bad HX.out hq))
    clear hq kb2
    go_wp2
    go_ret
    exact ⟨nb.ret_bool HR.out.symm, HB2.out⟩
   | true =>
    have HQ := Lib.hid hq
    clear hq
    obtain ⟨c0, c1, c2, c3, c4⟩ := qa.five kb2
    clear kb2
    cases k with
    | zero =>
     have HR := Lib.hid (allI_on HA.out (show ordQ p l 0 = true from (ordQ_zero HX.out).trans HQ.out))
     go_wp2_with fail
     refine qa.region (by kernel_rfl) (by kernel_rfl) ?_
     repeat (go_big_quiet_step (fail))
     refine wpQuiet_nil ?_
     rintro _ ⟨q, rfl⟩
     have HB3 := Lib.hid (HB2.out.trans (q.h.mono HB2.out.size))
     clear c0 c1 c2 c3 c4
     go_wp2
     go_roundw
     case rel => exact ⟨1, by omega, by go_num, HR, HB3.out⟩
     case measure => simp [intOf]
    | succ j =>
    have hz : l[j]? = some l[j] := List.getElem?_eq_getElem (by omega)
    have hc := note_at (HS.out.later HB2.out) hz
    generalize l[j] = z at hz hc
    obtain ⟨g', c'', e, hg2, _, r0, r1, r2, r3, r4⟩ := hc
    injection e with e1 e2 e3
    injection e1 with e1
    injection e1 with e1 _ _
    subst e1; subst e3
    have q0 := qa.cell (w := w2) (i := j * 5) hg2 r0
    have q1 := qa.cell (w := w2) (i := j * 5 + 1) hg2 r1
    have q2 := qa.cell (w := w2) (i := j * 5 + 2) hg2 r2
    have q3 := qa.cell (w := w2) (i := j * 5 + 3) hg2 r3
    have q4 := qa.cell (w := w2) (i := j * 5 + 4) hg2 r4
    have hm := mNote
    have HO := Lib.hid (ordQ_succ (p := p) HX.out hz)
    have HC := Lib.hid (cmp_less z.f z.n y.f y.n)
    clear hz e2
    have CA := Lib.hid (fun V => compare_any z.f z.n z.u y.f y.n y.u V)
    unfold CmpPost at CA
    generalize cmpM z.f z.n y.f y.n = cv at CA HC
    have hj2 : (j : Int) < (l.length : Int) := by omega
    by_cases hcv : 0 ≤ cv
    ·have HR := Lib.hid (allI_bad hlt (HO.out.trans (by rw [HQ.out, HC.out, decide_eq_false (by omega)]; rfl)))
     clear HO HC
     go_wp2_with fail
     refine qa.region (by kernel_rfl) (by kernel_rfl) ?_
     repeat (go_big_quiet_step (first | (go_at_call 167; exact qa.of_below (nmark_any _ _ _ _ _ _)) | (go_at_call 157; exact qa.of_below (CA.out _))))
     refine wpQuiet_nil ?_
     rintro _ ⟨q, rfl⟩
     have HB3 := Lib.hid (HB2.out.trans (q.h.mono HB2.out.size))
     clear c0 c1 c2 c3 c4 q0 q1 q2 q3 q4 hm
     go_wp2
     go_ret
     exact ⟨nb.ret_bool HR.out.symm, HB3.out⟩
    ·have HR := Lib.hid (allI_on HA.out (HO.out.trans (by rw [HQ.out, HC.out, decide_eq_true (by omega)]; rfl)))
     clear HO HC
     go_wp2_with fail
     try have hcv := Int.not_le.2 hcv
     refine qa.region (by kernel_rfl) (by kernel_rfl) ?_
     repeat (go_big_quiet_step (first | (go_at_call 167; exact qa.of_below (nmark_any _ _ _ _ _ _)) | (go_at_call 157; exact qa.of_below (CA.out _))))
     refine wpQuiet_nil ?_
     rintro _ ⟨q, rfl⟩
     have HB3 := Lib.hid (HB2.out.trans (q.h.mono HB2.out.size))
     clear c0 c1 c2 c3 c4 q0 q1 q2 q3 q4 hm
     go_wp2
     go_roundw
     case rel => exact ⟨j + 1 + 1, by omega, by go_num, HR, HB3.out⟩
     case measure => simp [intOf]; omega
  ·have HR := Lib.hid (show allI l.length (ordQ p l) = true by have := HA.out; rwa [show k = l.length by omega] at this)
   have hk1 : ¬ (k : Int) < (l.length : Int) := by omega
   go_wp2
   go_ret
   exact ⟨nb.ret_bool HR.out.symm, hB⟩
set_option maxRecDepth 100000 in
set_option maxHeartbeats 4000000 in
theorem ord_mark (w : World) (v : Value) (l : List Mk) (h : SeesMk w v l) (hl : l.length ≤ 1048576) (b : Nat) (p : Mk → Bool) (hp : MethM 137 b w l p) :
  Calls Tryz.prog 136 #[v, .func (.func 137) #[.pointer (some ⟨b, 0, none⟩)] #[]] w (BoolK w (allI l.length (ordR p l))) := by
 have HP := Lib.hid hp
 have HS := Lib.hid h
 obtain ⟨A, c, rfl, _⟩ := h
 clear hp
 go_enter Tryz.func136, Tryz.ntmps136
 go_wp2
 go_loopw [9] (fun i wr => ∃ k : Nat, k ≤ l.length ∧ i = .int .i64 k ∧ Hid (allI k (ordR p l) = true) ∧ Below w.heap.size w wr) (fun i _ => (l.length + 1 : Nat) - (intOf i).toNat)
 case atStart => exact ⟨0, by omega, rfl, rfl, Below.refl _ _⟩
 case round =>
  obtain ⟨k, hk, rfl, HA, hB⟩ := hrel
  by_cases hlt : k < l.length
  ·have hx : l[k]? = some l[k] := List.getElem?_eq_getElem hlt
   have hm := List.getElem_mem hlt
   have hc := mark_at (HS.out.later hB) hx
   generalize l[k] = y at hx hm hc
   obtain ⟨g, c', e, hg, _, t0, t1, t2⟩ := hc
   injection e with e1 e2 e3
   subst e1; subst e3
   have hk1 : (k : Int) < (l.length : Int) := by omega
   have HX := Lib.hid hx
   have HM := Lib.hid hm
   have HB := Lib.hid hB
   clear hx hm hB
   go_wp2_with fail
   have hB0 := HB.out.alloc HB.out.size (.cells #[.int .i64 y.f, .int .i64 y.n, .int .i64 y.u] 108)
   have kb := Blk.new wr 108 #[.int .i64 y.f, .int .i64 y.n, .int .i64 y.u]
   generalize wr.heap.size = G at kb ⊢
   generalize wr.alloc (.cells #[.int .i64 y.f, .int .i64 y.n, .int .i64 y.u] 108) = W at *
   refine (HP.out _ y hB0 HM.out).mono ?_
   rintro e w2 ⟨rfl, hB2⟩
   have hW2 := hB0.trans (hB2.mono hB0.size)
   have kb2 := kb.below hB2 kb.lt
   have HB2 := Lib.hid hW2
   clear hB2 hB0 t0 t1 t2 kb hW2
   cases hq : p y with
   | false =>
    have HR := Lib.hid (allI_bad hlt (ordR_bad HX.out hq))
    clear hq kb2
    go_wp2
    go_ret
    exact ⟨nb.ret_bool HR.out.symm, HB2.out⟩
   | true =>
    have HQ := Lib.hid hq
    clear hq
    obtain ⟨c0, c1, c2⟩ := qa.three kb2
    clear kb2
    cases k with
    | zero =>
     have HR := Lib.hid (allI_on HA.out (show ordR p l 0 = true from (ordR_zero HX.out).trans HQ.out))
     go_wp2_with fail
     refine qa.region (by kernel_rfl) (by kernel_rfl) ?_
     repeat (go_big_quiet_step (fail))
     refine wpQuiet_nil ?_
     rintro _ ⟨q, rfl⟩
     have HB3 := Lib.hid (HB2.out.trans (q.h.mono HB2.out.size))
     clear c0 c1 c2
     go_wp2
     go_roundw
     case rel => exact ⟨1, by omega, by go_num, HR, HB3.out⟩
     case measure => simp [intOf]
    | succ j =>
    have hz : l[j]? = some l[j] := List.getElem?_eq_getElem (by omega)
    have hc := mark_at (HS.out.later HB2.out) hz
    generalize l[j] = z at hz hc
    obtain ⟨g', c'', e, hg2, _, r0, r1, r2⟩ := hc
    injection e with e1 e2 e3
    injection e1 with e1
    injection e1 with e1 _ _
    subst e1; subst e3
    have q0 := qa.cell (w := w2) (i := j * 3) hg2 r0
    have q1 := qa.cell (w := w2) (i := j * 3 + 1) hg2 r1
    have q2 := qa.cell (w := w2) (i := j * 3 + 2) hg2 r2
    have hm := mMark
    have HO := Lib.hid (ordR_succ (p := p) HX.out hz)
    have HC := Lib.hid (cmp_less z.f z.n y.f y.n)
    clear hz e2
    have CA := Lib.hid (fun V => compare_any z.f z.n z.u y.f y.n y.u V)
    unfold CmpPost at CA
    generalize cmpM z.f z.n y.f y.n = cv at CA HC
    have hj2 : (j : Int) < (l.length : Int) := by omega
    by_cases hcv : 0 ≤ cv
    ·have HR := Lib.hid (allI_bad hlt (HO.out.trans (by rw [HQ.out, HC.out, decide_eq_false (by omega)]; rfl)))
     clear HO HC
     go_wp2_with fail
     refine qa.region (by kernel_rfl) (by kernel_rfl) ?_
     repeat (go_big_quiet_step (first | (go_at_call 273; exact qa.of_below (mmark_any _ _ _ _)) | (go_at_call 157; exact qa.of_below (CA.out _))))
     refine wpQuiet_nil ?_
     rintro _ ⟨q, rfl⟩
     have HB3 := Lib.hid (HB2.out.trans (q.h.mono HB2.out.size))
     clear c0 c1 c2 q0 q1 q2 hm
     go_wp2
     go_ret
     exact ⟨nb.ret_bool HR.out.symm, HB3.out⟩
    ·have HR := Lib.hid (allI_on HA.out (HO.out.trans (by rw [HQ.out, HC.out, decide_eq_true (by omega)]; rfl)))
     clear HO HC
     go_wp2_with fail
     try have hcv := Int.not_le.2 hcv
     refine qa.region (by kernel_rfl) (by kernel_rfl) ?_
     repeat (go_big_quiet_step (first | (go_at_call 273; exact qa.of_below (mmark_any _ _ _ _)) | (go_at_call 157; exact qa.of_below (CA.out _))))
     refine wpQuiet_nil ?_
     rintro _ ⟨q, rfl⟩
     have HB3 := Lib.hid (HB2.out.trans (q.h.mono HB2.out.size))
     clear c0 c1 c2 q0 q1 q2 hm
     go_wp2
     go_roundw
     case rel => exact ⟨j + 1 + 1, by omega, by go_num, HR, HB3.out⟩
     case measure => simp [intOf]; omega
  ·have HR := Lib.hid (show allI l.length (ordR p l) = true by have := HA.out; rwa [show k = l.length by omega] at this)
   have hk1 : ¬ (k : Int) < (l.length : Int) := by omega
   go_wp2
   go_ret
   exact ⟨nb.ret_bool HR.out.symm, hB⟩
end Go.Proofs.YtckicpnnclbkpaaGreatDoor.kp

