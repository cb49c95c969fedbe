/-
  Merged texts: ISrch, IPut, IDel, IRem.
-/
import Derived.Test.YtckicpnnclbkpaaGreatDoorE15
import Derived.Laws.StructEq
import Derived.WalkLawsBesides
namespace Go.Proofs.YtckicpnnclbkpaaGreatDoor.kp
open Go.ChangeShapes Go.WideShapes Go.ChangeAt Go.RowKit
open wd ow rl ok nb nx
set_option maxRecDepth 100000 in
set_option maxHeartbeats 800000 in
theorem srch_insM (w : World) (v : Value) (l : List Mk) (h : SeesMk w v l) (hl : l.length ≤ 1048576) (b : Nat) (p : Mk → Bool) (hp : PredM 201 b w l p) :
  Calls Tryz.prog 200 #[v, .func (.func 201) #[] #[.pointer (some ⟨b, 0, none⟩)]] w (IdxPost w (l.findIdx p) (l.any p)) := by
 have HP := Lib.hid hp
 have HS := Lib.hid h
 obtain ⟨A, c, rfl, _⟩ := h
 clear hp
 go_enter Tryz.func200, Tryz.ntmps200
 go_wp2
 go_loopw [10] (fun i wr => ∃ k : Nat, k ≤ l.length ∧ i = .int .i64 k ∧ Hid ((l.take k).any p = false) ∧ Below w.heap.size w wr) (fun i _ => (l.length + 1 : Nat) - (intOf i).toNat)
 case atStart => exact ⟨0, by omega, rfl, rfl, Below.refl _ _⟩
 case round =>
  obtain ⟨k, hk, rfl, HA, hB⟩ := hrel
  by_cases hlt : k < l.length
  ·have hx : l[k]? = some l[k] := List.getElem?_eq_getElem hlt
   have hm := List.getElem_mem hlt
   have hc := mark_at (HS.out.later hB) hx
   generalize l[k] = y at hx hm hc
   obtain ⟨g, c', e, hg, _, t0, t1, t2⟩ := hc
   injection e with e1 e2 e3
   subst e1; subst e3
   have hk1 : (k : Int) < (l.length : Int) := by omega
   have HX := Lib.hid hx
   have HM := Lib.hid hm
   have HB := Lib.hid hB
   clear hx hm hB
   go_wp2_with fail
   have hB0 := HB.out.alloc HB.out.size (.cells #[.int .i64 y.f, .int .i64 y.n, .int .i64 y.u] 108)
   refine (HP.out _ y hB0 HM.out).mono ?_
   rintro e w2 ⟨rfl, hB2⟩
   have HB2 := Lib.hid (hB0.trans (hB2.mono hB0.size))
   clear hB2 hB0 t0 t1 t2
   cases hq : p y with
   | true =>
    have HI := Lib.hid (findIdx_first HA.out HX.out hq)
    have HT := Lib.hid (mk_any_at HX.out hq)
    clear hq
    go_wp2
    go_ret2
    exact ⟨by rw [HI.out, HT.out]; rfl, HB2.out⟩
   | false =>
    have HN := Lib.hid (none_on HA.out HX.out hq)
    clear hq
    go_wp2
    go_roundw
    case rel => exact ⟨k + 1, by omega, by go_num, HN, HB2.out⟩
    case measure => simp [intOf]; omega
  ·obtain ⟨e1, e2⟩ := findIdx_end HA.out (by omega)
   have HE := Lib.hid e1
   have HF := Lib.hid e2
   clear e1 e2
   have hk1 : ¬ (k : Int) < (l.length : Int) := by omega
   go_wp2
   go_ret2
   exact ⟨by rw [HE.out, HF.out]; rfl, hB⟩
set_option maxRecDepth 100000 in
set_option maxHeartbeats 800000 in
theorem srch_insN (w : World) (v : Value) (l : List Nt) (h : SeesN w v l) (hl : l.length ≤ 1048576) (b : Nat) (p : Nt → Bool) (hp : PredN 204 b w l p) :
  Calls Tryz.prog 197 #[v, .func (.func 204) #[] #[.pointer (some ⟨b, 0, none⟩)]] w (IdxPost w (l.findIdx p) (l.any p)) := by
 have HP := Lib.hid hp
 have HS := Lib.hid h
 obtain ⟨A, c, rfl, _⟩ := h
 clear hp
 go_enter Tryz.func197, Tryz.ntmps197
 go_wp2
 go_loopw [10] (fun i wr => ∃ k : Nat, k ≤ l.length ∧ i = .int .i64 k ∧ Hid ((l.take k).any p = false) ∧ Below w.heap.size w wr) (fun i _ => (l.length + 1 : Nat) - (intOf i).toNat)
 case atStart => exact ⟨0, by omega, rfl, rfl, Below.refl _ _⟩
 case round =>
  obtain ⟨k, hk, rfl, HA, hB⟩ := hrel
  by_cases hlt : k < l.length
  ·have hx : l[k]? = some l[k] := List.getElem?_eq_getElem hlt
   have hm := List.getElem_mem hlt
   have hc := note_at (HS.out.later hB) hx
   generalize l[k] = y at hx hm hc
   obtain ⟨g, c', e, hg, _, t0, t1, t2, t3, t4⟩ := hc
   injection e with e1 e2 e3
   subst e1; subst e3
   have hk1 : (k : Int) < (l.length : Int) := by omega
   have HX := Lib.hid hx
   have HM := Lib.hid hm
   have HB := Lib.hid hB
   clear hx hm hB
   go_wp2_with fail
   have hB0 := HB.out.alloc HB.out.size (.cells #[.int .i64 y.f, .int .i64 y.n, .int .i64 y.t, .int .i64 y.u, .string y.s] 105)
   refine (HP.out _ y hB0 HM.out).mono ?_
   rintro e w2 ⟨rfl, hB2⟩
   have HB2 := Lib.hid (hB0.trans (hB2.mono hB0.size))
   clear hB2 hB0 t0 t1 t2 t3 t4
   cases hq : p y with
   | true =>
    have HI := Lib.hid (findIdx_first HA.out HX.out hq)
    have HT := Lib.hid (mk_any_at HX.out hq)
    clear hq
    go_wp2
    go_ret2
    exact ⟨by rw [HI.out, HT.out]; rfl, HB2.out⟩
   | false =>
    have HN := Lib.hid (none_on HA.out HX.out hq)
    clear hq
    go_wp2
    go_roundw
    case rel => exact ⟨k + 1, by omega, by go_num, HN, HB2.out⟩
    case measure => simp [intOf]; omega
  ·obtain ⟨e1, e2⟩ := findIdx_end HA.out (by omega)
   have HE := Lib.hid e1
   have HF := Lib.hid e2
   clear e1 e2
   have hk1 : ¬ (k : Int) < (l.length : Int) := by omega
   go_wp2
   go_ret2
   exact ⟨by rw [HE.out, HF.out]; rfl, hB⟩
set_option maxRecDepth 100000 in
set_option maxHeartbeats 800000 in
theorem srch_remN (w : World) (v : Value) (l : List Nt) (h : SeesN w v l) (hl : l.length ≤ 1048576) (b : Nat) (p : Nt → Bool) (hp : PredN 198 b w l p) :
  Calls Tryz.prog 197 #[v, .func (.func 198) #[] #[.pointer (some ⟨b, 0, none⟩)]] w (IdxPost w (l.findIdx p) (l.any p)) := by
 have HP := Lib.hid hp
 have HS := Lib.hid h
 obtain ⟨A, c, rfl, _⟩ := h
 clear hp
 go_enter Tryz.func197, Tryz.ntmps197
 go_wp2
 go_loopw [10] (fun i wr => ∃ k : Nat, k ≤ l.length ∧ i = .int .i64 k ∧ Hid ((l.take k).any p = false) ∧ Below w.heap.size w wr) (fun i _ => (l.length + 1 : Nat) - (intOf i).toNat)
 case atStart => exact ⟨0, by omega, rfl, rfl, Below.refl _ _⟩
 case round =>
  obtain ⟨k, hk, rfl, HA, hB⟩ := hrel
  by_cases hlt : k < l.length
  ·have hx : l[k]? = some l[k] := List.getElem?_eq_getElem hlt
   have hm := List.getElem_mem hlt
   have hc := note_at (HS.out.later hB) hx
   generalize l[k] = y at hx hm hc
   obtain ⟨g, c', e, hg, _, t0, t1, t2, t3, t4⟩ := hc
   injection e with e1 e2 e3
   subst e1; subst e3
   have hk1 : (k : Int) < (l.length : Int) := by omega
   have HX := Lib.hid hx
   have HM := Lib.hid hm
   have HB := Lib.hid hB
   clear hx hm hB
   go_wp2_with fail
   have hB0 := HB.out.alloc HB.out.size (.cells #[.int .i64 y.f, .int .i64 y.n, .int .i64 y.t, .int .i64 y.u, .string y.s] 105)
   refine (HP.out _ y hB0 HM.out).mono ?_
   rintro e w2 ⟨rfl, hB2⟩
   have HB2 := Lib.hid (hB0.trans (hB2.mono hB0.size))
   clear hB2 hB0 t0 t1 t2 t3 t4
   cases hq : p y with
   | true =>
    have HI := Lib.hid (findIdx_first HA.out HX.out hq)
    have HT := Lib.hid (mk_any_at HX.out hq)
    clear hq
    go_wp2
    go_ret2
    exact ⟨by rw [HI.out, HT.out]; rfl, HB2.out⟩
   | false =>
    have HN := Lib.hid (none_on HA.out HX.out hq)
    clear hq
    go_wp2
    go_roundw
    case rel => exact ⟨k + 1, by omega, by go_num, HN, HB2.out⟩
    case measure => simp [intOf]; omega
  ·obtain ⟨e1, e2⟩ := findIdx_end HA.out (by omega)
   have HE := Lib.hid e1
   have HF := Lib.hid e2
   clear e1 e2
   have hk1 : ¬ (k : Int) < (l.length : Int) := by omega
   go_wp2
   go_ret2
   exact ⟨by rw [HE.out, HF.out]; rfl, hB⟩
set_option maxRecDepth 100000 in
set_option maxHeartbeats 800000 in
theorem srch_hasN (w : World) (v : Value) (l : List Nt) (h : SeesN w v l) (hl : l.length ≤ 1048576) (b : Nat) (p : Nt → Bool) (hp : PredN 239 b w l p) :
  Calls Tryz.prog 197 #[v, .func (.func 239) #[] #[.pointer (some ⟨b, 0, none⟩)]] w (IdxPost w (l.findIdx p) (l.any p)) := by
 have HP := Lib.hid hp
 have HS := Lib.hid h
 obtain ⟨A, c, rfl, _⟩ := h
 clear hp
 go_enter Tryz.func197, Tryz.ntmps197
 go_wp2
 go_loopw [10] (fun i wr => ∃ k : Nat, k ≤ l.length ∧ i = .int .i64 k ∧ Hid ((l.take k).any p = false) ∧ Below w.heap.size w wr) (fun i _ => (l.length + 1 : Nat) - (intOf i).toNat)
 case atStart => exact ⟨0, by omega, rfl, rfl, Below.refl _ _⟩
 case round =>
  obtain ⟨k, hk, rfl, HA, hB⟩ := hrel
  by_cases hlt : k < l.length
  ·have hx : l[k]? = some l[k] := List.getElem?_eq_getElem hlt
   have hm := List.getElem_mem hlt
   have hc := note_at (HS.out.later hB) hx
   generalize l[k] = y at hx hm hc
   obtain ⟨g, c', e, hg, _, t0, t1, t2, t3, t4⟩ := hc
   injection e with e1 e2 e3
   subst e1; subst e3
   have hk1 : (k : Int) < (l.length : Int) := by omega
   have HX := Lib.hid hx
   have HM := Lib.hid hm
   have HB := Lib.hid hB
   clear hx hm hB
   go_wp2_with fail
   have hB0 := HB.out.alloc HB.out.size (.cells #[.int .i64 y.f, .int .i64 y.n, .int .i64 y.t, .int .i64 y.u, .string y.s] 105)
   refine (HP.out _ y hB0 HM.out).mono ?_
   rintro e w2 ⟨rfl, hB2⟩
   have HB2 := Lib.hid (hB0.trans (hB2.mono hB0.size))
   clear hB2 hB0 t0 t1 t2 t3 t4
   cases hq : p y with
   | true =>
    have HI := Lib.hid (findIdx_first HA.out HX.out hq)
    have HT := Lib.hid (mk_any_at HX.out hq)
    clear hq
    go_wp2
    go_ret2
    exact ⟨by rw [HI.out, HT.out]; rfl, HB2.out⟩
   | false =>
    have HN := Lib.hid (none_on HA.out HX.out hq)
    clear hq
    go_wp2
    go_roundw
    case rel => exact ⟨k + 1, by omega, by go_num, HN, HB2.out⟩
    case measure => simp [intOf]; omega
  ·obtain ⟨e1, e2⟩ := findIdx_end HA.out (by omega)
   have HE := Lib.hid e1
   have HF := Lib.hid e2
   clear e1 e2
   have hk1 : ¬ (k : Int) < (l.length : Int) := by omega
   go_wp2
   go_ret2
   exact ⟨by rw [HE.out, HF.out]; rfl, hB⟩
end Go.Proofs.YtckicpnnclbkpaaGreatDoor.kp

namespace Go.Proofs.YtckicpnnclbkpaaGreatDoor.kp
open Go.ChangeShapes Go.WideShapes Go.ChangeAt Go.RowKit
open wd ow rl ok nb nx
theorem cmp_gt (f n f' n' : Int) : decide (0 < cmpM f n f' n') = less f' n' f n := by
 unfold less
 have h1 := @cmpM_lt f n f' n'
 have h2 := @cmpM_eq f n f' n'
 refine decide_eq_decide.2 ⟨fun h => ?_, fun h => ?_⟩
 ·have a1 : ¬ cmpM f n f' n' < 0 := by omega
  have a2 : ¬ cmpM f n f' n' = 0 := by omega
  rw [h1] at a1
  rw [h2] at a2
  omega
 ·have a1 : ¬ cmpM f n f' n' < 0 := by rw [h1]; omega
  have a2 : ¬ cmpM f n f' n' = 0 := by rw [h2]; omega
  omega
theorem below_grown {W W2 W3 : World} {row : Option Nat} (hb : Below W.heap.size W W2) (hg : W2.grownBy W3 row) : W.grownBy W3 row :=
 ⟨hg.os.trans hb.os, hg.tape.trans hb.tape, hg.output.trans hb.output, Nat.le_trans hb.size hg.size, fun k hk hne => (hg.block k (Nat.lt_of_lt_of_le hk hb.size) hne).trans (hb.block k hk)⟩
theorem from_later {W W3 : World} {v v' : Value} (hs : W.heap.size ≤ W3.heap.size) (h : From W3 v' v) : From W v' v := fun g hg => by
 rcases h g hg with h | h
 ·exact .inl (by omega)
 ·exact .inr h
set_option maxRecDepth 100000 in
set_option maxHeartbeats 800000 in
theorem insM_pred (b : Nat) (x : Mk) (w : World) (l : List Mk) (hb : Blk w b 108 #[.int .i64 x.f, .int .i64 x.n, .int .i64 x.u]) : PredM 201 b w l (fun y => less x.f x.n y.f y.n) := by
 intro V y hB _
 have k1 := hb.below hB hb.lt
 have k2 := Blk.new V 108 #[.int .i64 y.f, .int .i64 y.n, .int .i64 y.u]
 have k3 := k1.alloc (.cells #[.int .i64 y.f, .int .i64 y.n, .int .i64 y.u] 108)
 have hB0 := (Below.refl V.heap.size V).alloc (Nat.le_refl _) (.cells #[.int .i64 y.f, .int .i64 y.n, .int .i64 y.u] 108)
 have HE := Lib.hid (cmp_gt y.f y.n x.f x.n)
 clear hb hB k1
 unfold mark
 go_enter Tryz.func201, Tryz.ntmps201
 go_wp2_with fail
 generalize V.alloc (.cells #[.int .i64 y.f, .int .i64 y.n, .int .i64 y.u] 108) = W at *
 obtain ⟨c0, c1, c2⟩ := qa.three k2
 obtain ⟨d0, d1, d2⟩ := qa.three k3
 have HB := Lib.hid hB0
 clear k2 k3 hB0
 have hm := mMark
 refine qa.region (by kernel_rfl) (by kernel_rfl) ?_
 repeat (go_big_quiet_step (first | (go_at_call 273; exact qa.of_below (mmark_any _ _ _ _)) | (go_at_call 157; exact qa.of_below (compare_any _ _ _ _ _ _ _))))
 refine wpQuiet_nil ?_
 rintro _ ⟨p, rfl⟩
 have HB2 := Lib.hid (HB.out.trans (p.h.mono HB.out.size))
 clear c0 c1 c2 d0 d1 d2 hm
 go_wp2
 go_ret
 exact ⟨nb.ret_bool HE.out, HB2.out⟩
set_option maxRecDepth 100000 in
set_option maxHeartbeats 800000 in
theorem insN_pred (b : Nat) (x : Nt) (w : World) (l : List Nt) (hb : Blk w b 105 #[.int .i64 x.f, .int .i64 x.n, .int .i64 x.t, .int .i64 x.u, .string x.s]) : PredN 204 b w l (fun y => less x.f x.n y.f y.n) := by
 intro V y hB _
 have k1 := hb.below hB hb.lt
 have k2 := Blk.new V 105 #[.int .i64 y.f, .int .i64 y.n, .int .i64 y.t, .int .i64 y.u, .string y.s]
 have k3 := k1.alloc (.cells #[.int .i64 y.f, .int .i64 y.n, .int .i64 y.t, .int .i64 y.u, .string y.s] 105)
 have hB0 := (Below.refl V.heap.size V).alloc (Nat.le_refl _) (.cells #[.int .i64 y.f, .int .i64 y.n, .int .i64 y.t, .int .i64 y.u, .string y.s] 105)
 have HE := Lib.hid (cmp_gt y.f y.n x.f x.n)
 clear hb hB k1
 unfold note
 go_enter Tryz.func204, Tryz.ntmps204
 go_wp2_with fail
 generalize V.alloc (.cells #[.int .i64 y.f, .int .i64 y.n, .int .i64 y.t, .int .i64 y.u, .string y.s] 105) = W at *
 obtain ⟨c0, c1, c2, c3, c4⟩ := qa.five k2
 obtain ⟨d0, d1, d2, d3, d4⟩ := qa.five k3
 have HB := Lib.hid hB0
 clear k2 k3 hB0
 have hm := mNote
 refine qa.region (by kernel_rfl) (by kernel_rfl) ?_
 repeat (go_big_quiet_step (first | (go_at_call 167; exact qa.of_below (nmark_any _ _ _ _ _ _)) | (go_at_call 157; exact qa.of_below (compare_any _ _ _ _ _ _ _))))
 refine wpQuiet_nil ?_
 rintro _ ⟨p, rfl⟩
 have HB2 := Lib.hid (HB.out.trans (p.h.mono HB.out.size))
 clear c0 c1 c2 c3 c4 d0 d1 d2 d3 d4 hm
 go_wp2
 go_ret
 exact ⟨nb.ret_bool HE.out, HB2.out⟩
set_option maxRecDepth 100000 in
set_option maxHeartbeats 800000 in
theorem hasN_pred (b : Nat) (f n u : Int) (w : World) (l : List Nt) (hb : Blk w b 108 #[.int .i64 f, .int .i64 n, .int .i64 u]) : PredN 239 b w l (fun x => x.f == f && x.n == n) := by
 intro V y hB _
 have k1 := hb.below hB hb.lt
 have k2 := Blk.new V 105 #[.int .i64 y.f, .int .i64 y.n, .int .i64 y.t, .int .i64 y.u, .string y.s]
 have k3 := k1.alloc (.cells #[.int .i64 y.f, .int .i64 y.n, .int .i64 y.t, .int .i64 y.u, .string y.s] 105)
 have hB0 := (Below.refl V.heap.size V).alloc (Nat.le_refl _) (.cells #[.int .i64 y.f, .int .i64 y.n, .int .i64 y.t, .int .i64 y.u, .string y.s] 105)
 have HE := Lib.hid (cmp_is y.f y.n f n)
 clear hb hB k1
 unfold note
 go_enter Tryz.func239, Tryz.ntmps239
 go_wp2_with fail
 generalize V.alloc (.cells #[.int .i64 y.f, .int .i64 y.n, .int .i64 y.t, .int .i64 y.u, .string y.s] 105) = W at *
 obtain ⟨c0, c1, c2, c3, c4⟩ := qa.five k2
 obtain ⟨d0, d1, d2⟩ := qa.three k3
 have HB := Lib.hid hB0
 clear k2 k3 hB0
 have hm := mNote
 refine qa.region (by kernel_rfl) (by kernel_rfl) ?_
 repeat (go_big_quiet_step (first | (go_at_call 167; exact qa.of_below (nmark_any _ _ _ _ _ _)) | (go_at_call 157; exact qa.of_below (compare_any _ _ _ _ _ _ _))))
 refine wpQuiet_nil ?_
 rintro _ ⟨p, rfl⟩
 have HB2 := Lib.hid (HB.out.trans (p.h.mono HB.out.size))
 clear c0 c1 c2 c3 c4 d0 d1 d2 hm
 go_wp2
 go_ret
 exact ⟨nb.ret_bool HE.out, HB2.out⟩
def fstN (l : List Nt) (f n : Int) : Nt := (l.find? (fun x => x.f == f && x.n == n)).getD ⟨0, 0, 0, 0, ⟨#[]⟩⟩
def FindNP (w : World) (l : List Nt) (f n : Int) (e : Ending) (w' : World) : Prop := e = .returned (.tuple #[ntV (fstN l f n), .bool (hasN l f n)]) ∧ Below w.heap.size w w'
set_option maxRecDepth 100000 in
set_option maxHeartbeats 800000 in
theorem findN_any (w : World) (v : Value) (l : List Nt) (h : SeesN w v l) (hl : l.length ≤ 1048576) (f n u : Int) :
  Calls Tryz.prog 222 #[v, mark f n u] w (FindNP w l f n) := by
 have k1 := (Blk.new w 108 #[.int .i64 f, .int .i64 n, .int .i64 u]).alloc (.cells #[.int .i64 0, .int .i64 0, .int .i64 0, .int .i64 0, .string ⟨#[]⟩] 105)
 have kz := Blk.new (w.alloc (.cells #[.int .i64 f, .int .i64 n, .int .i64 u] 108)) 105 #[.int .i64 0, .int .i64 0, .int .i64 0, .int .i64 0, .string ⟨#[]⟩]
 rw [World.size_alloc] at kz
 have hB0 : Below w.heap.size w ((w.alloc (.cells #[.int .i64 f, .int .i64 n, .int .i64 u] 108)).alloc (.cells #[.int .i64 0, .int .i64 0, .int .i64 0, .int .i64 0, .string ⟨#[]⟩] 105)) := ((Below.refl _ _).alloc (Nat.le_refl _) _).alloc (by simp) _
 have hS := srch_hasN _ v l (h.later hB0) hl _ _ (hasN_pred _ f n u _ l k1)
 have HL := Lib.hid h
 have HB := Lib.hid hB0
 have HKz := Lib.hid kz
 have hmf := mkfn
 have HF := Lib.hid (show fstN l f n = (l.find? (fun x => x.f == f && x.n == n)).getD ⟨0, 0, 0, 0, ⟨#[]⟩⟩ from rfl)
 have HA := Lib.hid (show hasN l f n = l.any (fun x => x.f == f && x.n == n) from rfl)
 obtain ⟨A, c, rfl, _⟩ := h
 clear k1 kz hB0
 unfold mark
 cases ha : l.any (fun x => x.f == f && x.n == n) with
 | true =>
  obtain ⟨y, hy, hf, hlt⟩ := find_any ha
  rw [ha] at hS HA
  have HF2 := Lib.hid (show fstN l f n = y by rw [HF.out, hf]; rfl)
  generalize l.findIdx (fun x => x.f == f && x.n == n) = i at hS hy hlt
  have HS := Lib.hid hS
  have hi1 : (i : Int) < (l.length : Int) := by omega
  clear hS ha hf HF
  go_enter Tryz.func222, Tryz.ntmps222
  go_wp2_with fail
  refine HS.out.mono ?_
  rintro e w2 ⟨rfl, hB2⟩
  have hB3 := HB.out.trans (hB2.mono HB.out.size)
  have hz2 := HKz.out.below hB2 HKz.out.lt
  obtain ⟨g, c', e, hg, _, t0, t1, t2, t3, t4⟩ := note_at (HL.out.later hB3) hy
  injection e with e1 e2 e3
  subst e1; subst e3
  have HB2 := Lib.hid hB3
  have z0 := hz2.cell 0
  have z1 := hz2.cell 1
  have z2 := hz2.cell 2
  have z3 := hz2.cell 3
  have z4 := hz2.cell 4
  have y0 := hz2.frozen 0
  have y1 := hz2.frozen 1
  have y2 := hz2.frozen 2
  have y3 := hz2.frozen 3
  have y4 := hz2.frozen 4
  simp only [List.getElem?_toArray, List.getElem?_cons_zero, List.getElem?_cons_succ] at z0 z1 z2 z3 z4
  clear hB2 hB3 hy HKz hz2
  go_wp2
  refine bodyPost_ret (v := .tuple #[note y.f y.n y.t y.u y.s, .bool true]) (by simp [results, Tryz.results222, go_sem, note, *]) rfl ⟨by rw [HF2.out, HA.out]; rfl, ?_⟩
  exact (((((HB2.out).setCell (p := ⟨w.heap.size + 1, 0, none⟩) (by show w.heap.size ≤ w.heap.size + 1; omega) _).setCell (p := ⟨w.heap.size + 1, 1, none⟩) (by show w.heap.size ≤ w.heap.size + 1; omega) _).setCell (p := ⟨w.heap.size + 1, 2, none⟩) (by show w.heap.size ≤ w.heap.size + 1; omega) _).setCell (p := ⟨w.heap.size + 1, 3, none⟩) (by show w.heap.size ≤ w.heap.size + 1; omega) _).setCell (p := ⟨w.heap.size + 1, 4, none⟩) (by show w.heap.size ≤ w.heap.size + 1; omega) _
 | false =>
  rw [ha] at hS HA
  have HF2 := Lib.hid (show fstN l f n = ⟨0, 0, 0, 0, ⟨#[]⟩⟩ by rw [HF.out, find_none ha]; rfl)
  generalize l.findIdx (fun x => x.f == f && x.n == n) = i at hS
  have HS := Lib.hid hS
  clear hS ha HF
  go_enter Tryz.func222, Tryz.ntmps222
  go_wp2_with fail
  refine HS.out.mono ?_
  rintro e w2 ⟨rfl, hB2⟩
  have hB3 := HB.out.trans (hB2.mono HB.out.size)
  have hz2 := (HKz.out.below hB2 HKz.out.lt).alloc (.cells #[.int .i64 0, .int .i64 0, .int .i64 0, .int .i64 0, .string ⟨#[]⟩] 105)
  have HB2 := Lib.hid (hB3.alloc hB3.size (.cells #[.int .i64 0, .int .i64 0, .int .i64 0, .int .i64 0, .string ⟨#[]⟩] 105))
  have hx2 := Blk.new w2 105 #[.int .i64 0, .int .i64 0, .int .i64 0, .int .i64 0, .string ⟨#[]⟩]
  clear hB2 hB3 HKz
  go_upto_region 4 with (fail)
  generalize w2.alloc (.cells #[.int .i64 0, .int .i64 0, .int .i64 0, .int .i64 0, .string ⟨#[]⟩] 105) = V at HB2 hz2 hx2 ⊢
  generalize w2.heap.size = xb at hx2 ⊢
  have z0 := hz2.cell 0
  have z1 := hz2.cell 1
  have z2 := hz2.cell 2
  have z3 := hz2.cell 3
  have z4 := hz2.cell 4
  have y0 := hz2.frozen 0
  have y1 := hz2.frozen 1
  have y2 := hz2.frozen 2
  have y3 := hz2.frozen 3
  have y4 := hz2.frozen 4
  simp only [List.getElem?_toArray, List.getElem?_cons_zero, List.getElem?_cons_succ] at z0 z1 z2 z3 z4
  have x0 := hx2.cell 0
  have x1 := hx2.cell 1
  have xx2 := hx2.cell 2
  have x3 := hx2.cell 3
  have x4 := hx2.cell 4
  simp only [List.getElem?_toArray, List.getElem?_cons_zero, List.getElem?_cons_succ] at x0 x1 xx2 x3 x4
  clear hz2 hx2
  go_wp2
  refine bodyPost_ret (v := .tuple #[note 0 0 0 0 ⟨#[]⟩, .bool false]) (by simp [results, Tryz.results222, go_sem, note, *]) rfl ⟨by rw [HF2.out, HA.out]; rfl, ?_⟩
  exact (((((HB2.out).setCell (p := ⟨w.heap.size + 1, 0, none⟩) (by show w.heap.size ≤ w.heap.size + 1; omega) _).setCell (p := ⟨w.heap.size + 1, 1, none⟩) (by show w.heap.size ≤ w.heap.size + 1; omega) _).setCell (p := ⟨w.heap.size + 1, 2, none⟩) (by show w.heap.size ≤ w.heap.size + 1; omega) _).setCell (p := ⟨w.heap.size + 1, 3, none⟩) (by show w.heap.size ≤ w.heap.size + 1; omega) _).setCell (p := ⟨w.heap.size + 1, 4, none⟩) (by show w.heap.size ≤ w.heap.size + 1; omega) _
set_option maxRecDepth 100000 in
theorem hasN_any (w : World) (v : Value) (l : List Nt) (h : SeesN w v l) (hl : l.length ≤ 1048576) (f n u : Int) :
  Calls Tryz.prog 203 #[v, mark f n u] w (BoolK w (hasN l f n)) := by
 have hB0 := (Below.refl w.heap.size w).alloc (Nat.le_refl _) (.cells #[.int .i64 f, .int .i64 n, .int .i64 u] 108)
 have HS := Lib.hid (findN_any _ v l (h.later hB0) hl f n u)
 have HB := Lib.hid hB0
 clear hB0 h
 unfold mark at HS ⊢
 go_enter Tryz.func203, Tryz.ntmps203
 go_wp2_with fail
 refine HS.out.mono ?_
 rintro e w2 ⟨rfl, hB2⟩
 have HB2 := Lib.hid (HB.out.trans (hB2.mono HB.out.size))
 clear hB2
 unfold ntV note
 go_wp2
 go_ret
 exact ⟨rfl, HB2.out.alloc HB2.out.size _⟩
set_option maxRecDepth 100000 in
theorem insertM_any (W : World) (B : Nat) (v : Value) (l : List Mk) (x : Mk) (h : OwnAt mkS 108 B W v l) (hB : B ≤ W.heap.size) (hl : l.length ≤ 1048576) :
  Calls Tryz.prog 174 #[v, mkV x] W (MutM B W v (putM l x)) := by
 have k1 := Blk.new W 108 #[.int .i64 x.f, .int .i64 x.n, .int .i64 x.u]
 have hB0 := (Below.refl W.heap.size W).alloc (Nat.le_refl _) (.cells #[.int .i64 x.f, .int .i64 x.n, .int .i64 x.u] 108)
 have HO := Lib.hid (h.alloc (.cells #[.int .i64 x.f, .int .i64 x.n, .int .i64 x.u] 108))
 have HS := Lib.hid (srch_insM _ v l (HO.out.sees) hl _ _ (insM_pred _ x _ l k1))
 have HB := Lib.hid hB0
 have HLt := Lib.hid (fun g (hg : v.ownBlock = some g) => (OwnAt.ltW h hg).2)
 have HK := Lib.hid k1
 have HE := Lib.hid (show putM l x = putAt l (l.findIdx (fun y => less x.f x.n y.f y.n)) x from rfl)
 have hpl : l.findIdx (fun y => less x.f x.n y.f y.n) ≤ l.length := List.findIdx_le_length
 generalize l.findIdx (fun y => less x.f x.n y.f y.n) = p at HS HE hpl
 have hmf := mkfn
 obtain ⟨A, c, rfl⟩ := OwnAt.form h
 clear k1 hB0 h
 unfold mkV mark
 go_enter Tryz.func174, Tryz.ntmps174
 go_wp2_with fail
 generalize W.alloc (.cells #[.int .i64 x.f, .int .i64 x.n, .int .i64 x.u] 108) = V at HO HS HB HK ⊢
 refine HS.out.mono ?_
 rintro e w2 ⟨rfl, hB2⟩
 have hK2 := HK.out.below hB2 HK.out.lt
 obtain ⟨c0, c1, c2⟩ := mk_cells hK2
 have hO2 := HO.out.later hB2
 have hW2 := HB.out.trans (hB2.mono HB.out.size)
 have hW3 := hW2.alloc hW2.size (.cells #[.int .i64 x.f, .int .i64 x.n, .int .i64 x.u] 108)
 have hO3 := hO2.alloc (.cells #[.int .i64 x.f, .int .i64 x.n, .int .i64 x.u] 108)
 have hX3 := Blk.new w2 108 #[.int .i64 x.f, .int .i64 x.n, .int .i64 x.u]
 have hs2 := hW2.size
 have HI := Lib.hid (insM_any _ B _ l p x _ hO3 (by have := hW3.size; omega) hl hpl hX3 (fun e => by have := HLt.out _ e; omega))
 have HW3 := Lib.hid hW3
 clear hB2 hK2 hO2 hW2 hW3 hO3 hX3 HS HO HB
 go_wp2_with fail
 refine HI.out.mono ?_
 rintro e w4 ⟨v', rfl, hO4, hG4, hF4⟩
 have HR := Lib.hid (And.intro hO4 (And.intro (below_grown HW3.out hG4) (from_later HW3.out.size hF4)))
 clear hO4 hG4 hF4 c0 c1 c2
 go_wp2
 go_ret
 exact ⟨_, rfl, by rw [HE.out]; exact HR.out.1, HR.out.2.1, HR.out.2.2⟩
set_option maxRecDepth 100000 in
theorem insertN_any (W : World) (B : Nat) (v : Value) (l : List Nt) (x : Nt) (h : OwnAt ntS 105 B W v l) (hB : B ≤ W.heap.size) (hl : l.length ≤ 1048576) :
  Calls Tryz.prog 176 #[v, ntV x] W (MutN B W v (putN l x)) := by
 have k1 := Blk.new W 105 #[.int .i64 x.f, .int .i64 x.n, .int .i64 x.t, .int .i64 x.u, .string x.s]
 have hB0 := (Below.refl W.heap.size W).alloc (Nat.le_refl _) (.cells #[.int .i64 x.f, .int .i64 x.n, .int .i64 x.t, .int .i64 x.u, .string x.s] 105)
 have HO := Lib.hid (h.alloc (.cells #[.int .i64 x.f, .int .i64 x.n, .int .i64 x.t, .int .i64 x.u, .string x.s] 105))
 have HS := Lib.hid (srch_insN _ v l (HO.out.sees) hl _ _ (insN_pred _ x _ l k1))
 have HB := Lib.hid hB0
 have HLt := Lib.hid (fun g (hg : v.ownBlock = some g) => (OwnAt.ltW h hg).2)
 have HK := Lib.hid k1
 have HE := Lib.hid (show putN l x = putAt l (l.findIdx (fun y => less x.f x.n y.f y.n)) x from rfl)
 have hpl : l.findIdx (fun y => less x.f x.n y.f y.n) ≤ l.length := List.findIdx_le_length
 generalize l.findIdx (fun y => less x.f x.n y.f y.n) = p at HS HE hpl
 have hmf := mkfn
 obtain ⟨A, c, rfl⟩ := OwnAt.form h
 clear k1 hB0 h
 unfold ntV note
 go_enter Tryz.func176, Tryz.ntmps176
 go_wp2_with fail
 generalize W.alloc (.cells #[.int .i64 x.f, .int .i64 x.n, .int .i64 x.t, .int .i64 x.u, .string x.s] 105) = V at HO HS HB HK ⊢
 refine HS.out.mono ?_
 rintro e w2 ⟨rfl, hB2⟩
 have hK2 := HK.out.below hB2 HK.out.lt
 obtain ⟨c0, c1, c2, c3, c4⟩ := nt_cells hK2
 have hO2 := HO.out.later hB2
 have hW2 := HB.out.trans (hB2.mono HB.out.size)
 have hW3 := hW2.alloc hW2.size (.cells #[.int .i64 x.f, .int .i64 x.n, .int .i64 x.t, .int .i64 x.u, .string x.s] 105)
 have hO3 := hO2.alloc (.cells #[.int .i64 x.f, .int .i64 x.n, .int .i64 x.t, .int .i64 x.u, .string x.s] 105)
 have hX3 := Blk.new w2 105 #[.int .i64 x.f, .int .i64 x.n, .int .i64 x.t, .int .i64 x.u, .string x.s]
 have hs2 := hW2.size
 have HI := Lib.hid (insN_any _ B _ l p x _ hO3 (by have := hW3.size; omega) hl hpl hX3 (fun e => by have := HLt.out _ e; omega))
 have HW3 := Lib.hid hW3
 clear hB2 hK2 hO2 hW2 hW3 hO3 hX3 HS HO HB
 go_wp2_with fail
 refine HI.out.mono ?_
 rintro e w4 ⟨v', rfl, hO4, hG4, hF4⟩
 have HR := Lib.hid (And.intro hO4 (And.intro (below_grown HW3.out hG4) (from_later HW3.out.size hF4)))
 clear hO4 hG4 hF4 c0 c1 c2 c3 c4
 go_wp2
 go_ret
 exact ⟨_, rfl, by rw [HE.out]; exact HR.out.1, HR.out.2.1, HR.out.2.2⟩
end Go.Proofs.YtckicpnnclbkpaaGreatDoor.kp

namespace Go.Proofs.YtckicpnnclbkpaaGreatDoor.kp
open Go.ChangeShapes Go.WideShapes Go.ChangeAt Go.RowKit
open wd ow rl ok nb
theorem cutL_cells {α : Type} {S : Shape α} {cur : Array Value} {l : List α} {i cap : Nat} (hi : i < l.length) (hcap : l.length ≤ cap) (hs : cur.size = cap * S.n)
  (hA : ∀ q y, q < i → l[q]? = some y → ∀ j u, (S.f y)[j]? = some u → cur[q * S.n + j]? = some u)
  (hC : ∀ q y, i < q → l[q]? = some y → ∀ j u, (S.f y)[j]? = some u → cur[(q - 1) * S.n + j]? = some u) :
  cur.toList.take ((cutL l i).length * S.n) = (cutL l i).flatMap S.f := by
 have hlen := cutL_len hi
 have hle : l.length * S.n ≤ cap * S.n := Nat.mul_le_mul_right _ hcap
 have hz : cur.toList.length = cap * S.n := by simp [hs]
 have hcl : (cutL l i).length * S.n ≤ l.length * S.n := Nat.mul_le_mul_right _ (by omega)
 refine flat_of S (by rw [List.length_take, hz]; omega) fun q y hy j u hu => ?_
 have hj : j < S.n := by have := (List.getElem?_eq_some_iff.1 hu).1; rwa [S.len] at this
 have hql : q < (cutL l i).length := (List.getElem?_eq_some_iff.1 hy).1
 have hm : (q + 1) * S.n ≤ (cutL l i).length * S.n := Nat.mul_le_mul_right _ hql
 rw [List.getElem?_take, if_pos (by rw [Nat.succ_mul] at hm; omega), Array.getElem?_toList]
 unfold cutL at hy
 have hpl : (l.take i).length = i := by rw [List.length_take]; omega
 by_cases h1 : q < i
 ·rw [List.getElem?_append_left (by omega), List.getElem?_take, if_pos h1] at hy
  exact hA q y h1 hy j u hu
 ·rw [List.getElem?_append_right (by omega), hpl, List.getElem?_drop, show i + 1 + (q - i) = q + 1 by omega] at hy
  exact hC (q + 1) y (by omega) hy j u hu
set_option maxRecDepth 100000 in
set_option maxHeartbeats 1600000 in
theorem delN_any (W : World) (B : Nat) (v : Value) (l : List Nt) (i : Nat) (h : OwnAt ntS 105 B W v l) (hl : l.length ≤ 1048576) (hi : i < l.length) :
  Calls Tryz.prog 199 #[v, .int .i64 i, .int .i64 ((i : Int) + 1)] W (MutN B W v (cutL l i)) := by
 obtain ⟨j0, hj, hy0, hy1, hy2⟩ := info_parts infoNote
 obtain ⟨g, c, rfl⟩ : ∃ g c, v = .slice (some ⟨g, 0, none⟩) l.length c := by
  rcases h.2 with ⟨_, hn⟩ | ⟨g, c, cur, e, _⟩
  ·omega
  ·exact ⟨g, c, e⟩
 obtain ⟨_, hBg, hlc, hcm, cur, hR, hcur⟩ := ownAt_row h
 have hcm' := hcm
 unfold maxLen at hcm'
 obtain ⟨m1, hm1⟩ : ∃ m1, m1 + 1 = l.length := ⟨l.length - 1, by omega⟩
 have hsz5 : (ntS).n = 5 := rfl
 have hlen := cutL_len hi
 have hdl : ((l.drop (i + 1)).flatMap (ntS).f).length = (l.length - (i + 1)) * 5 := by rw [flat_len (ntS).len, List.length_drop]; rfl
 have hR1 : Row ntS 105 W.drew g c cur := ⟨hR.blk, hR.size⟩
 obtain ⟨cur1, hR2, hk1, hk2⟩ := hR1.put (i * 5) ((l.drop (i + 1)).flatMap (ntS).f)
 have hG1 : W.grownBy (putAll W.drew g (i * 5) ((l.drop (i + 1)).flatMap (ntS).f)) (some g) := putAll_grown (W0 := W) (W := W.drew) (g := g) (row := some g) ⟨rfl, rfl, rfl, Nat.le_refl _, fun _ _ _ => rfl⟩ (.inl rfl) _ _
 obtain ⟨AX, hAX⟩ : ∃ AX, (if c = i + 1 then (some ⟨g, 0, none⟩ : Option Addr) else some ⟨g, (i + 1) * 5, none⟩) = some AX := by
  by_cases e : c = i + 1
  ·exact ⟨_, if_pos e⟩
  ·exact ⟨_, if_neg e⟩
 obtain ⟨AY, hAY⟩ : ∃ AY, (if c = i then (some ⟨g, 0, none⟩ : Option Addr) else some ⟨g, i * 5, none⟩) = AY := ⟨_, rfl⟩
 obtain ⟨AZ, hAZ⟩ : ∃ AZ, (if c = m1 then (some ⟨g, 0, none⟩ : Option Addr) else some ⟨g, m1 * 5, none⟩) = AZ := ⟨_, rfl⟩
 have hZ : AZ = some ⟨g, m1 * 5, none⟩ := by rw [← hAZ, if_neg (by omega)]
 subst hZ
 have hnews : ∀ j u, ((l.drop (i + 1)).flatMap (ntS).f)[j]? = some u → W.drew.cell? (AX.add j) = some u := fun j u hu => by
  obtain ⟨q, y, r, h1, h2, rfl⟩ := flat_get ntS _ j u hu
  rw [List.getElem?_drop] at h1
  have hq := (List.getElem?_eq_some_iff.1 h1).1
  have hne : ¬ c = i + 1 := by omega
  rw [if_neg hne] at hAX
  injection hAX with hAX
  subst hAX
  rw [Addr.add_lit, show (i + 1) * 5 + (q * (ntS).n + r) = (i + 1 + q) * (ntS).n + r by rw [hsz5]; omega]
  exact (Blk.cell (w := W.drew) hR.blk _).trans (row_at hcur h1 h2)
 have hsp : ∀ j, j < ((l.drop (i + 1)).flatMap (ntS).f).length → (W.drew.cell? ⟨g, 0 + i * 5 + j, none⟩).isSome = true ∧ W.drew.frozen? ⟨g, 0 + i * 5 + j, none⟩ = false := fun j hj' => by
  rw [Nat.zero_add]
  exact hR1.cell (by rw [hdl] at hj'; rw [hsz5]; omega)
 have hset : W.drew.setCells g (0 + i * 5) ((l.drop (i + 1)).flatMap (ntS).f) = putAll W.drew g (i * 5) ((l.drop (i + 1)).flatMap (ntS).f) := by rw [setCells_putAll, Nat.zero_add]
 generalize putAll W.drew g (i * 5) ((l.drop (i + 1)).flatMap (ntS).f) = W1 at hR2 hG1 hset
 have hzl : (Builtin.zeroCells (Value.agg #[.int .i64 0, .int .i64 0, .int .i64 0, .int .i64 0, .string ⟨#[]⟩]).cells 1).toList.length = 5 := by
  rw [Array.length_toList, zeroCells_size]; rfl
 have hz1 : ∀ u ∈ (Builtin.zeroCells (Value.agg #[.int .i64 0, .int .i64 0, .int .i64 0, .int .i64 0, .string ⟨#[]⟩]).cells 1).toList, u.oneCell' = true := by
  have e : (Builtin.zeroCells (Value.agg #[.int .i64 0, .int .i64 0, .int .i64 0, .int .i64 0, .string ⟨#[]⟩]).cells 1).toList = [.int .i64 0, .int .i64 0, .int .i64 0, .int .i64 0, .string ⟨#[]⟩] := by kernel_rfl
  rw [e]
  simp [Value.oneCell']
 have hclr : ∀ ty cc, (Builtin.clear_ #[36] ty #[.slice (some ⟨g, m1 * 5, none⟩) 1 cc]).run Tryz.prog W1 = .ok (.tuple #[]) (putAll W1 g (m1 * 5) (Builtin.zeroCells (Value.agg #[.int .i64 0, .int .i64 0, .int .i64 0, .int .i64 0, .string ⟨#[]⟩]).cells 1).toList) := fun ty cc =>
  run_clear_k W1 _ ty 105 j0 _ g (m1 * 5) 1 cc Tryz.underlying36 hj hy0 (by omega)
   (fun j hj' => (hR2.cell (by rw [hzl] at hj'; rw [hsz5]; omega)).1) (fun j _ => hR2.blk.frozen _) hz1
 obtain ⟨cur2, hR3, hk3, hk4⟩ := hR2.put (m1 * 5) (Builtin.zeroCells (Value.agg #[.int .i64 0, .int .i64 0, .int .i64 0, .int .i64 0, .string ⟨#[]⟩]).cells 1).toList
 have hG2 : W.grownBy (putAll W1 g (m1 * 5) (Builtin.zeroCells (Value.agg #[.int .i64 0, .int .i64 0, .int .i64 0, .int .i64 0, .string ⟨#[]⟩]).cells 1).toList) (some g) := putAll_grown hG1 (.inl rfl) _ _
 generalize putAll W1 g (m1 * 5) (Builtin.zeroCells (Value.agg #[.int .i64 0, .int .i64 0, .int .i64 0, .int .i64 0, .string ⟨#[]⟩]).cells 1).toList = W2 at hclr hR3 hG2
 have HO := Lib.hid (show OwnAt ntS 105 B W2 (.slice (some ⟨g, 0, none⟩) m1 c) (cutL l i) from by
  have := ownAt_mk (l := cutL l i) hR3 hBg (by omega) hcm (cutL_cells hi hlc hR3.size
   (fun q y hq hy j u hu => by
    have hj' : j < 5 := by have := (List.getElem?_eq_some_iff.1 hu).1; rwa [(ntS).len] at this
    rw [hk3 _ (.inl (by rw [hsz5]; omega)), hk1 _ (.inl (by rw [hsz5]; omega))]
    exact row_at hcur hy hu)
   (fun q y hq hy j u hu => by
    have hj' : j < 5 := by have := (List.getElem?_eq_some_iff.1 hu).1; rwa [(ntS).len] at this
    have hql : q < l.length := (List.getElem?_eq_some_iff.1 hy).1
    rw [hk3 _ (.inl (by rw [hsz5]; omega))]
    have hf : ((l.drop (i + 1)).flatMap (ntS).f)[(q - (i + 1)) * (ntS).n + j]? = some u := by
     rw [flat_at (ntS).len (l.drop (i + 1)) (q - (i + 1)) y (by rw [List.getElem?_drop, show i + 1 + (q - (i + 1)) = q by omega]; exact hy) j hj']
     exact hu
    have := hk2 (by rw [hdl, hsz5]; omega) _ _ hf
    rw [show (q - 1) * (ntS).n + j = i * 5 + ((q - (i + 1)) * (ntS).n + j) by rw [hsz5]; omega]
    exact this))
  rw [show (cutL l i).length = m1 by omega] at this
  exact this)
 have HG := Lib.hid hG2
 have hz2 : ¬ ((i : Int) = (i : Int) + 1) := by omega
 have hb0 : (0 : Int) ≤ (i : Int) := by omega
 have hb1 : (0 : Int) ≤ (i : Int) + 1 := by omega
 have hb2 : (i : Int) + 1 ≤ (l.length : Int) := by omega
 have hb3 : (l.length : Int) ≤ (c : Int) := by omega
 have hb4 : (i : Int) ≤ (i : Int) + 1 := by omega
 have hb5 : (i : Int) ≤ (c : Int) := by omega
 have hb6 : (i : Int) + 1 ≤ (c : Int) := by omega
 have hsum : i + (l.length - (i + 1)) = m1 := by omega
 have hlr : (l.length - (i + 1)) = ((l.drop (i + 1)).flatMap (ntS).f).length / 5 := by rw [hdl]; omega
 have HN := Lib.hid hnews
 have HSp := Lib.hid hsp
 have H1 := Lib.hid (flat_ones ntS (l.drop (i + 1)))
 have hrm : i + (l.length - (i + 1)) ≤ c := by omega
 clear h hR hR1 hR2 hR3 hcur hk1 hk2 hk3 hk4 hG1 hG2 hnews hsp hzl hz1 hlr
 go_enter Tryz.func199, Tryz.ntmps199
 go_upto_region 5 with (fail)
 go_region_law (refine step_append_room rfl (.tmp 22) (.tmp 25) 36 rfl 105 j0 5 Tryz.underlying36 hj hy1 g 0 i c ?_ AX (l.length - (i + 1)) (c - (i + 1)) ((l.drop (i + 1)).flatMap (ntS).f) ?_ hdl HN.out H1.out hrm HSp.out ?_; (simp [Act.eval, Act.put]); (simp [Act.eval, Act.put]); rw [hset, hsum])
 have hd1 : l.length - m1 = 1 := by omega
 have hc0 : (0 : Int) ≤ (m1 : Int) := by omega
 have hc1 : (m1 : Int) ≤ (l.length : Int) := by omega
 have hc2 : ¬ (c = m1) := by omega
 clear hsum hrm hset
 go_wp2
 go_ret
 exact ⟨_, rfl, HO.out, HG.out, fun q hq => .inr hq⟩
end Go.Proofs.YtckicpnnclbkpaaGreatDoor.kp

namespace Go.Proofs.YtckicpnnclbkpaaGreatDoor.kp
open Go.ChangeShapes Go.WideShapes Go.ChangeAt Go.RowKit
open wd ow rl ok nb nx
abbrev Imp : Ending := .panicked [{ v := .iface 198 (.agg #[]), recovered := false }]
theorem require_t (w : World) : Calls Tryz.prog 142 #[.bool true] w fun e w' => e = .returned (.tuple #[]) ∧ w = w' := by
 go_enter Tryz.func142, Tryz.ntmps142
 go_wp2
 go_end0
 exact ⟨rfl, rfl⟩
theorem require_f (w : World) : Calls Tryz.prog 142 #[.bool false] w fun e w' => e = Imp ∧ w = w' := by
 go_enter Tryz.func142, Tryz.ntmps142
 go_wp2
 exact ⟨rfl, rfl, rfl⟩
theorem guMark (op : BinOp) (x y : Operand) (xs ys : Array Value) (w : World) : (eqGuard op 108 x y (.agg xs) (.agg ys)).run Tryz.prog w = .ok () w := run_eqGuard_agg w op 108 x y xs ys (by kernel_rfl)
theorem eqMark (a b c a' b' c' : Int) (w : World) : (Op.equalIn 10000 108 (.agg #[.int .i64 a, .int .i64 b, .int .i64 c]) (.agg #[.int .i64 a', .int .i64 b', .int .i64 c'])).run Tryz.prog w = .ok (a == a' && b == b' && c == c') w := by
 have u3 := Tryz.underlying3
 have hS : Tryz.prog.underlying 108 = some (.struct (Tryz.prog.fieldsOf 108)) := by kernel_rfl
 have hp : Tryz.prog.stoodInHeld 108 = false := by kernel_rfl
 rw [show (10000 : Nat) = 9999 + 1 from rfl, run_equalIn_agg w 9999 108 _ _ hS hp]
 simp only [Program.fieldsOf, Tryz.underlying108]
 go_simp
 by_cases h1 : a = a' <;> by_cases h2 : b = b' <;> by_cases h3 : c = c' <;> simp [h1, h2, h3]
set_option maxRecDepth 100000 in
set_option maxHeartbeats 800000 in
theorem remN_pred (b : Nat) (m : Mk) (w : World) (l : List Nt) (hb : Blk w b 108 #[.int .i64 m.f, .int .i64 m.n, .int .i64 m.u]) : PredN 198 b w l (isM m) := by
 intro V y hB _
 have k1 := hb.below hB hb.lt
 have k2 := Blk.new V 105 #[.int .i64 y.f, .int .i64 y.n, .int .i64 y.t, .int .i64 y.u, .string y.s]
 have k3 := k1.alloc (.cells #[.int .i64 y.f, .int .i64 y.n, .int .i64 y.t, .int .i64 y.u, .string y.s] 105)
 have hB0 := (Below.refl V.heap.size V).alloc (Nat.le_refl _) (.cells #[.int .i64 y.f, .int .i64 y.n, .int .i64 y.t, .int .i64 y.u, .string y.s] 105)
 have HE := Lib.hid (show (y.f == m.f && y.n == m.n && y.u == m.u) = isM m y from rfl)
 clear hb hB k1
 unfold note
 go_enter Tryz.func198, Tryz.ntmps198
 go_wp2_with fail
 generalize V.alloc (.cells #[.int .i64 y.f, .int .i64 y.n, .int .i64 y.t, .int .i64 y.u, .string y.s] 105) = W at *
 obtain ⟨c0, c1, c2, c3, c4⟩ := qa.five k2
 obtain ⟨d0, d1, d2⟩ := qa.three k3
 have HB := Lib.hid hB0
 clear k2 k3 hB0
 have hm := mNote
 have HN := Lib.hid (fun W => nmark_any y.f y.n y.t y.u y.s W)
 unfold AggPost mark note at HN
 have hq := eqMark
 have hgu := guMark
 refine qa.region (by kernel_rfl) (by kernel_rfl) ?_
 repeat (go_big_quiet_step (first | (go_at_call 167; exact qa.of_below (HN.out _))))
 refine wpQuiet_nil ?_
 rintro _ ⟨p, rfl⟩
 have HB2 := Lib.hid (HB.out.trans (p.h.mono HB.out.size))
 clear c0 c1 c2 c3 c4 d0 d1 d2 hm hq hgu
 go_wp2
 go_ret
 exact ⟨nb.ret_bool HE.out, HB2.out⟩
def RemPost (B : Nat) (W : World) (v : Value) (l : List Nt) (m : Mk) (e : Ending) (w' : World) : Prop :=
 (∃ i, l.findIdx? (isM m) = some i ∧ MutN B W v (cutL l i) e w') ∨ (l.findIdx? (isM m) = none ∧ e = Imp ∧ Below W.heap.size W w')
set_option maxRecDepth 100000 in
set_option maxHeartbeats 800000 in
theorem removeN_any (W : World) (B : Nat) (v : Value) (l : List Nt) (m : Mk) (h : OwnAt ntS 105 B W v l) (hl : l.length ≤ 1048576) :
  Calls Tryz.prog 173 #[v, mkV m] W (RemPost B W v l m) := by
 have k1 := Blk.new W 108 #[.int .i64 m.f, .int .i64 m.n, .int .i64 m.u]
 have hB0 := (Below.refl W.heap.size W).alloc (Nat.le_refl _) (.cells #[.int .i64 m.f, .int .i64 m.n, .int .i64 m.u] 108)
 have HO := Lib.hid (h.alloc (.cells #[.int .i64 m.f, .int .i64 m.n, .int .i64 m.u] 108))
 have HS := Lib.hid (srch_remN _ v l (HO.out.sees) hl _ _ (remN_pred _ m _ l k1))
 have HB := Lib.hid hB0
 have hmf := mkfn
 obtain ⟨A, c, rfl⟩ := OwnAt.form h
 clear k1 hB0 h
 unfold mkV mark
 cases hf : l.findIdx? (isM m) with
 | none =>
  have ha : l.any (isM m) = false := by rw [List.any_eq_false]; intro y hy; rw [List.findIdx?_eq_none_iff] at hf; simpa using hf y hy
  have HF := Lib.hid hf
  rw [ha] at HS
  clear hf ha
  go_enter Tryz.func173, Tryz.ntmps173
  go_wp2_with fail
  generalize W.alloc (.cells #[.int .i64 m.f, .int .i64 m.n, .int .i64 m.u] 108) = V at HO HS HB ⊢
  refine HS.out.mono ?_
  rintro e w2 ⟨rfl, hB2⟩
  have HB2 := Lib.hid (HB.out.trans (hB2.mono HB.out.size))
  clear hB2
  go_wp2_with fail
  refine (require_f _).mono ?_
  rintro e w3 ⟨rfl, rfl⟩
  go_wp2
  exact ⟨rfl, .inr ⟨HF.out, rfl, HB2.out⟩⟩
 | some i =>
  have hfi := List.findIdx?_eq_some_iff_findIdx_eq.1 hf
  have hi : i < l.length := hfi.1
  have ha : l.any (isM m) = true := by
   rw [List.findIdx?_eq_some_iff_getElem] at hf
   obtain ⟨h1, h2, _⟩ := hf
   exact List.any_eq_true.2 ⟨_, List.getElem_mem h1, h2⟩
  have HF := Lib.hid hf
  rw [ha, hfi.2] at HS
  clear hf ha hfi
  have hw1 : IntKind.i64.wrap ((i : Int) + 1) = (i : Int) + 1 := by rw [IntKind.wrap_i64]; omega
  go_enter Tryz.func173, Tryz.ntmps173
  go_wp2_with fail
  generalize W.alloc (.cells #[.int .i64 m.f, .int .i64 m.n, .int .i64 m.u] 108) = V at HO HS HB ⊢
  refine HS.out.mono ?_
  rintro e w2 ⟨rfl, hB2⟩
  have HB2 := Lib.hid (HB.out.trans (hB2.mono HB.out.size))
  have HI := Lib.hid (delN_any w2 B _ l i (HO.out.later hB2) hl hi)
  clear hB2 HO HS HB
  go_wp2_with fail
  refine (require_t _).mono ?_
  rintro e w3 ⟨rfl, rfl⟩
  go_wp2_with fail
  refine HI.out.mono ?_
  rintro e w4 ⟨v', rfl, hO4, hG4, hF4⟩
  have HR := Lib.hid (And.intro hO4 (And.intro (below_grown HB2.out hG4) (from_later HB2.out.size hF4)))
  clear hO4 hG4 hF4
  go_wp2
  go_ret
  exact .inl ⟨i, HF.out, _, rfl, HR.out.1, HR.out.2.1, HR.out.2.2⟩
end Go.Proofs.YtckicpnnclbkpaaGreatDoor.kp

