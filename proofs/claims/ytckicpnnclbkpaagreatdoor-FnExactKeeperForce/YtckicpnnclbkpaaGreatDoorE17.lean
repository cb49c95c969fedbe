/-
  Merged texts: STime, IDelFM.
-/
import Derived.Test.YtckicpnnclbkpaaGreatDoorE16
namespace Go.Proofs.YtckicpnnclbkpaaGreatDoor.kp
open Go.ChangeShapes Go.WideShapes Go.ChangeAt Go.RowKit
open wd ow rl ok nb
def RetK (w : World) (k : Kp) (a0 b0 c0 : Value) (e : Ending) (w' : World) : Prop := ∃ vh vm vi, e = .returned (kpV k.id k.time k.next vh vm vi) ∧ OutK w w' k a0 b0 c0 vh vm vi
section
variable {w V V' : World} {k : Kp} {a b c : Value}
theorem CB.put1 (h : CB w V k a b c) (t : Int) : CB w (V.setCell ⟨w.heap.size, 1, none⟩ (.int .i64 t)) { k with time := t } a b c := ⟨h.box.put 1 _, h.res.far (p := ⟨w.heap.size, 1, none⟩) (by show w.heap.size + 1 ≠ w.heap.size; omega) _, h.bel.setCell (p := ⟨w.heap.size, 1, none⟩) (Nat.le_refl _) _, by simpa using h.sz⟩
theorem CB.more {α : Type} {S : Shape α} {t : TypeId} {B : Nat} {v : Value} {l : List α} {o : Obj} (h : CB w V k a b c) (hO : OwnAt S t B V v l) (hB : w.heap.size + 2 ≤ B) (hBV : B ≤ V.heap.size) (hg : (V.alloc o).grownBy V' v.ownBlock) : CB w V' k a b c :=
 (h.later ((Below.refl _ V).alloc (Nat.le_refl _) o)).grew (hO.alloc o) hB (by simp; omega) hg
end
theorem filter_on {α : Type} {l : List α} {p : α → Bool} {k : Nat} {x : α} (hx : l[k]? = some x) (hp : p x = true) : (l.take (k + 1)).filter p = (l.take k).filter p ++ [x] := by rw [take_on hx, List.filter_append]; simp [hp]
theorem filter_off {α : Type} {l : List α} {p : α → Bool} {k : Nat} {x : α} (hx : l[k]? = some x) (hp : p x = false) : (l.take (k + 1)).filter p = (l.take k).filter p := by rw [take_on hx, List.filter_append]; simp [hp]
theorem filter_end {α : Type} {l : List α} {p : α → Bool} {k : Nat} (h : l.length ≤ k) : (l.take k).filter p = l.filter p := by rw [List.take_of_length_le h]
theorem filter_short {α : Type} {l : List α} {p : α → Bool} (k : Nat) : ((l.take k).filter p).length ≤ k := Nat.le_trans (List.length_filter_le _ _) (by rw [List.length_take]; omega)
set_option maxRecDepth 100000 in
set_option maxHeartbeats 1600000 in
theorem time_any (w : World) (k : Kp) (a b c : Value) (t : Int) (h : SeesK w k a b c) (hl : k.held.length ≤ 1048576 ∧ k.marks.length ≤ 1048576 ∧ k.inbox.length ≤ 1048576) :
  Calls Tryz.prog 110 #[kpV k.id k.time k.next a b c, .int .i64 t] w (RetK w (timeS k t) a b c) := by
 obtain ⟨hl1, hl2, hl3⟩ := hl
 obtain ⟨i0, hi, hz0, hz1, hz2⟩ := info_parts infoNote
 obtain ⟨j0, hj, hy0, hy1, hy2⟩ := info_parts infoMark
 obtain ⟨Aa, ca, rfl, _⟩ := h.held
 obtain ⟨Ab, cb, rfl, _⟩ := h.marks
 obtain ⟨Ac, cc, rfl, _⟩ := h.inbox
 have HS := Lib.hid h
 have HT := Lib.hid (CB.new w k (.slice Aa k.held.length ca) (.slice Ab k.marks.length cb) (.slice Ac k.inbox.length cc))
 have HE := Lib.hid (show timeS k t = { k with time := t, held := k.held.filter (fun x => decide (t < x.u)), marks := k.marks.filter (fun x => decide (t < x.u)) } from rfl)
 clear h
 go_enter Tryz.func110, Tryz.ntmps110
 go_upto_region 1 with (fail)
 generalize (w.alloc (.cells #[.int .i64 k.id, .int .i64 k.time, .int .i64 k.next, .slice Aa k.held.length ca, .slice Ab k.marks.length cb, .slice Ac k.inbox.length cc] 39)).alloc (.cells #[.int .i64 0, .int .i64 0, .int .i64 0, .slice none 0 0, .slice none 0 0, .slice none 0 0] 39) = V at HT ⊢
 have hs1 := HT.out.sz
 have HT1 := Lib.hid (HT.out.later ((Below.refl _ V).alloc (Nat.le_refl _) (.cells #[] 105)))
 have HO1 := Lib.hid (ownAt_new (S := ntS) (t := 105) (B := w.heap.size + 2) V hs1)
 clear HT
 go_wp2
 go_loopw [5, 6] (fun ov i wr => ∃ (j : Nat) (out : List Nt), j ≤ k.held.length ∧ i = .int .i64 j ∧ Hid (out = (k.held.take j).filter (fun x => decide (t < x.u))) ∧ Hid (CB w wr k (.slice Aa k.held.length ca) (.slice Ab k.marks.length cb) (.slice Ac k.inbox.length cc)) ∧ Hid (OwnAt ntS 105 (w.heap.size + 2) wr ov out)) (fun _ i _ => (k.held.length + 1 : Nat) - (intOf i).toNat)
 case atStart => exact ⟨0, [], by omega, rfl, rfl, HT1, HO1⟩
 case round =>
  obtain ⟨j, out, hj1, rfl, HQ, HT, HO⟩ := hrel
  clear HT1 HO1 hs1
  have hsz := HT.out.sz
  have hlen : out.length ≤ j := by rw [HQ.out]; exact filter_short _
  obtain ⟨_, _, _, b3, b4, b5, _, _, _, g3, g4, g5⟩ := res_cells HT.out.box
  by_cases hjl : j < k.held.length
  ·have hx : k.held[j]? = some k.held[j] := List.getElem?_eq_getElem hjl
   have hc := note_at (HS.out.held.later HT.out.bel) hx
   generalize k.held[j] = y at hx hc
   obtain ⟨g, c', e, hg, _, t0, t1, t2, t3, t4⟩ := hc
   injection e with e1 e2 e3
   subst e1; subst e3
   have hk0 : (0 : Int) ≤ (j : Int) := by omega
   have hk1 : (j : Int) < (k.held.length : Int) := by omega
   by_cases hu : t < y.u
   ·have HQ2 := Lib.hid (show out ++ [y] = (k.held.take (j + 1)).filter (fun x => decide (t < x.u)) by rw [HQ.out]; exact (filter_on hx (decide_eq_true hu)).symm)
    clear hx
    go_wp2_with (at_builtin; refine wpList_append_recs ntS (by decide) rfl _ _ 36 rfl (w.heap.size + 2) 105 i0 _ 48 Tryz.underlying36 hi hz0 hz1 hz2 rfl _ _ _ rfl (HO.out.alloc _) (some ⟨wr.heap.size, 0, none⟩) 1 1 [y] rfl rfl (part_one wr y rfl) ?e3 ?e4 ?e5 ?_)
    case e3 => (show out.length + 1 ≤ maxLen); unfold maxLen; omega
    case e4 => (show (out.length + 1) * 48 ≤ 140737488355328); omega
    case e5 => first | omega | (simp; omega)
    intro v8 w8 hown hgrow
    have HT8 := Lib.hid (HT.out.more HO.out (Nat.le_refl _) hsz hgrow)
    have HO8 := Lib.hid (OwnAt.grew (l := out) (y := y) hown rfl)
    clear hown hgrow b3 b4 b5 g3 g4 g5 t0 t1 t2 t3 t4
    go_wp2
    go_roundw
    case rel => first | exact ⟨j + 1, _, by omega, by go_num, HQ2, HT8, HO8⟩ | ((repeat apply Exists.intro); refine And.intro ?_ rfl; exact ⟨j + 1, _, by omega, by go_num, HQ2, HT8, HO8⟩)
    case measure => simp [intOf]; omega
   ·have HQ2 := Lib.hid (show out = (k.held.take (j + 1)).filter (fun x => decide (t < x.u)) by rw [HQ.out]; exact (filter_off hx (decide_eq_false hu)).symm)
    clear hx
    go_wp2
    go_roundw
    case rel => first | exact ⟨j + 1, _, by omega, by go_num, HQ2, HT, HO⟩ | ((repeat apply Exists.intro); refine And.intro ?_ rfl; exact ⟨j + 1, _, by omega, by go_num, HQ2, HT, HO⟩)
    case measure => simp [intOf]; omega
  ·have HQH := Lib.hid (show out = k.held.filter (fun x => decide (t < x.u)) by rw [HQ.out]; exact filter_end (by omega))
   obtain ⟨Ah, ch, hvh⟩ := OwnAt.form HO.out
   obtain ⟨nh, hnh⟩ : ∃ n, n = out.length := ⟨_, rfl⟩
   rw [← hnh] at hvh
   subst hvh
   clear hnh hlen HQ
   obtain ⟨wr0, rfl⟩ : ∃ x, x = wr := ⟨wr, rfl⟩
   have HT1 := Lib.hid (HT.out.later ((Below.refl _ wr0).alloc (Nat.le_refl _) (.cells #[] 108)))
   have HO1 := Lib.hid (ownAt_new (S := mkS) (t := 108) (B := wr0.heap.size) wr0 (Nat.le_refl _))
   have HH1 := Lib.hid (HO.out.alloc (.cells #[] 108))
   have HLt := Lib.hid (fun g (hg : (Value.slice Ah nh ch).ownBlock = some g) => (OwnAt.ltW HO.out hg).2)
   have hzA : wr0.heap.size ≤ (wr0.alloc (.cells #[] 108)).heap.size := by simp
   clear HT HO
   have hk1 : ¬ (j : Int) < (k.held.length : Int) := by omega
   go_wp2
   clear b3 b4 b5 g3 g4 g5
   go_loopw [7, 8] (fun ov i wr => ∃ (j : Nat) (outm : List Mk), j ≤ k.marks.length ∧ i = .int .i64 j ∧ Hid (outm = (k.marks.take j).filter (fun x => decide (t < x.u))) ∧ Hid (CB w wr k (.slice Aa k.held.length ca) (.slice Ab k.marks.length cb) (.slice Ac k.inbox.length cc)) ∧ Hid (OwnAt mkS 108 wr0.heap.size wr ov outm) ∧ Hid (OwnAt ntS 105 (w.heap.size + 2) wr (.slice Ah nh ch) out) ∧ wr0.heap.size ≤ wr.heap.size) (fun _ i _ => (k.marks.length + 1 : Nat) - (intOf i).toNat)
   case atStart => exact ⟨0, [], by omega, rfl, rfl, HT1, HO1, HH1, hzA⟩
   case round =>
    obtain ⟨j2, outm, hj2, rfl, HQ, HT, HO, HH, hzz⟩ := hrel
    clear HT1 HO1 HH1 hzA
    have hsz2 := HT.out.sz
    have hlen : outm.length ≤ j2 := by rw [HQ.out]; exact filter_short _
    obtain ⟨b0, b1, b2, b3, b4, b5, g0, g1, g2, g3, g4, g5⟩ := res_cells HT.out.box
    by_cases hjl2 : j2 < k.marks.length
    ·have hx : k.marks[j2]? = some k.marks[j2] := List.getElem?_eq_getElem hjl2
     have hc := mark_at (HS.out.marks.later HT.out.bel) hx
     generalize k.marks[j2] = y at hx hc
     obtain ⟨g, c', e, hg, _, t0, t1, t2⟩ := hc
     injection e with e1 e2 e3
     subst e1; subst e3
     have hk0 : (0 : Int) ≤ (j2 : Int) := by omega
     have hk2 : (j2 : Int) < (k.marks.length : Int) := by omega
     by_cases hu : t < y.u
     ·have HQ2 := Lib.hid (show outm ++ [y] = (k.marks.take (j2 + 1)).filter (fun x => decide (t < x.u)) by rw [HQ.out]; exact (filter_on hx (decide_eq_true hu)).symm)
      clear hx
      go_wp2_with (at_builtin; refine wpList_append_recs mkS (by decide) rfl _ _ 37 rfl wr0.heap.size 108 j0 _ 24 Tryz.underlying37 hj hy0 hy1 hy2 rfl _ _ _ rfl (HO.out.alloc _) (some ⟨wr.heap.size, 0, none⟩) 1 1 [y] rfl rfl (part_one wr y rfl) ?e3 ?e4 ?e5 ?_)
      case e3 => (show outm.length + 1 ≤ maxLen); unfold maxLen; omega
      case e4 => (show (outm.length + 1) * 24 ≤ 140737488355328); omega
      case e5 => first | omega | (simp; omega)
      intro v8 w8 hown hgrow
      have HT8 := Lib.hid (HT.out.more HO.out (by omega) hzz hgrow)
      have HO8 := Lib.hid (OwnAt.grew (l := outm) (y := y) hown rfl)
      have HH8 := Lib.hid ((HH.out.alloc _).same (fun g hg => hgrow.block g (OwnAt.ltW (HH.out.alloc _) hg).2 (fun e => by
       have h1 := HLt.out g hg
       have h2 := (OwnAt.ltW HO.out e.symm).1
       omega)))
      have hz8 : wr0.heap.size ≤ w8.heap.size := by have := hgrow.size; simp at this; omega
      clear hown hgrow b0 b1 b2 b3 b4 b5 g0 g1 g2 g3 g4 g5 t0 t1 t2
      go_wp2
      go_roundw
      case rel => first | exact ⟨j2 + 1, _, by omega, by go_num, HQ2, HT8, HO8, HH8, hz8⟩ | ((repeat apply Exists.intro); refine And.intro ?_ rfl; exact ⟨j2 + 1, _, by omega, by go_num, HQ2, HT8, HO8, HH8, hz8⟩)
      case measure => simp [intOf]; omega
     ·have HQ2 := Lib.hid (show outm = (k.marks.take (j2 + 1)).filter (fun x => decide (t < x.u)) by rw [HQ.out]; exact (filter_off hx (decide_eq_false hu)).symm)
      clear hx
      go_wp2
      go_roundw
      case rel => first | exact ⟨j2 + 1, _, by omega, by go_num, HQ2, HT, HO, HH, hzz⟩ | ((repeat apply Exists.intro); refine And.intro ?_ rfl; exact ⟨j2 + 1, _, by omega, by go_num, HQ2, HT, HO, HH, hzz⟩)
      case measure => simp [intOf]; omega
    ·have HQM := Lib.hid (show outm = k.marks.filter (fun x => decide (t < x.u)) by rw [HQ.out]; exact filter_end (by omega))
     obtain ⟨Am, cm, hvm⟩ := OwnAt.form HO.out
     obtain ⟨nm, hnm⟩ : ∃ n, n = outm.length := ⟨_, rfl⟩
     rw [← hnm] at hvm
     subst hvm
     clear hnm hlen HQ
     have hk2 : ¬ (j2 : Int) < (k.marks.length : Int) := by omega
     have hw0 : w.heap.size + 2 ≤ wr0.heap.size := hsz
     have HTn := Lib.hid (((HT.out.put1 t).put3 (.slice Ah nh ch)).put4 (.slice Am nm cm))
     have P1 := OwnAt.set (OwnAt.set (OwnAt.set HH.out (p := ⟨w.heap.size, 1, none⟩) (by show w.heap.size < w.heap.size + 2; omega) (.int .i64 t)) (p := ⟨w.heap.size, 3, none⟩) (by show w.heap.size < w.heap.size + 2; omega) (.slice Ah nh ch)) (p := ⟨w.heap.size, 4, none⟩) (by show w.heap.size < w.heap.size + 2; omega) (.slice Am nm cm)
     have P2 := OwnAt.set (OwnAt.set (OwnAt.set HO.out (p := ⟨w.heap.size, 1, none⟩) (by show w.heap.size < wr0.heap.size; omega) (.int .i64 t)) (p := ⟨w.heap.size, 3, none⟩) (by show w.heap.size < wr0.heap.size; omega) (.slice Ah nh ch)) (p := ⟨w.heap.size, 4, none⟩) (by show w.heap.size < wr0.heap.size; omega) (.slice Am nm cm)
     have HP1 := Lib.hid P1
     have HP2 := Lib.hid P2
     clear P1 P2 HT HO HH
     go_upto_region 16 with (fail)
     clear b0 b1 b2 b3 b4 b5 g0 g1 g2 g3 g4 g5
     generalize ((wr.setCell ⟨w.heap.size, 1, none⟩ (.int .i64 t)).setCell ⟨w.heap.size, 3, none⟩ (.slice Ah nh ch)).setCell ⟨w.heap.size, 4, none⟩ (.slice Am nm cm) = V3 at HTn HP1 HP2 ⊢
     obtain ⟨b0, b1, b2, b3, b4, b5, _, _, _, _, _, _⟩ := res_cells HTn.out.box
     obtain ⟨r0, r1, r2, r3, r4, r5, f0, f1, f2, f3, f4, f5⟩ := res_cells HTn.out.res
     have HC := Lib.hid (put6_blk (V := V3) (a' := .int .i64 k.id) (b' := .int .i64 t) (c' := .int .i64 k.next) (d' := .slice Ah nh ch) (e' := .slice Am nm cm) (f' := .slice Ac k.inbox.length cc) HTn.out.res)
     have HD := Lib.hid (put6_below (V := V3) (B := w.heap.size) (R := w.heap.size + 1) (by omega) HTn.out.bel (.int .i64 k.id) (.int .i64 t) (.int .i64 k.next) (.slice Ah nh ch) (.slice Am nm cm) (.slice Ac k.inbox.length cc))
     have HG := Lib.hid (show SeesK (put6 V3 (w.heap.size + 1) (.int .i64 k.id) (.int .i64 t) (.int .i64 k.next) (.slice Ah nh ch) (.slice Am nm cm) (.slice Ac k.inbox.length cc)) { k with time := t, held := out, marks := outm } (.slice Ah nh ch) (.slice Am nm cm) (.slice Ac k.inbox.length cc) from
      ⟨OwnAt.sees (OwnAt.put6 (W := V3) HP1.out (R := w.heap.size + 1) (by omega) _ _ _ _ _ _), OwnAt.sees (OwnAt.put6 (W := V3) HP2.out (R := w.heap.size + 1) (by omega) _ _ _ _ _ _), HS.out.inbox.later HD.out⟩)
     rw [HQH.out, HQM.out, ← HE.out] at HG
     have HF1 := Lib.hid (From.own (w := w) (v0 := .slice Aa k.held.length ca) HP1.out (by omega))
     have HF2 := Lib.hid (From.own (w := w) (v0 := .slice Ab k.marks.length cb) HP2.out (by omega))
     clear HTn HP1 HP2
     go_wp2
     have x0 := HC.out.cell 0
     have x1 := HC.out.cell 1
     have x2 := HC.out.cell 2
     have x3 := HC.out.cell 3
     have x4 := HC.out.cell 4
     have x5 := HC.out.cell 5
     refine bodyPost_ret (v := kpV k.id t k.next (.slice Ah nh ch) (.slice Am nm cm) (.slice Ac k.inbox.length cc)) (by simp [results, Tryz.results110, go_sem, x0, x1, x2, x3, x4, x5]) rfl ⟨_, _, _, rfl, HG.out, HD.out, HF1.out, HF2.out, From.refl _ _⟩
end Go.Proofs.YtckicpnnclbkpaaGreatDoor.kp

namespace Go.Proofs.YtckicpnnclbkpaaGreatDoor.kp
open Go.ChangeShapes Go.WideShapes Go.ChangeAt Go.RowKit
open wd ow rl ok nb nx
def overM (t : Int) (y : Mk) : Bool := decide (y.u ≤ t)
set_option maxRecDepth 100000 in
set_option maxHeartbeats 800000 in
theorem overM_any (b : Nat) (t : Int) (V : World) (y : Mk) (hb : V.cell? ⟨b, 0, none⟩ = some (.int .i64 t)) (hbl : b < V.heap.size) : Calls Tryz.prog 196 #[mark y.f y.n y.u, .pointer (some ⟨b, 0, none⟩)] V (BoolK V (overM t y)) := by
 have k2 := Blk.new V 108 #[.int .i64 y.f, .int .i64 y.n, .int .i64 y.u]
 have hB0 := (Below.refl V.heap.size V).alloc (Nat.le_refl _) (.cells #[.int .i64 y.f, .int .i64 y.n, .int .i64 y.u] 108)
 have hb' := (hB0.cell (p := ⟨b, 0, none⟩) hbl).trans hb
 have hbl' : b < (V.alloc (.cells #[.int .i64 y.f, .int .i64 y.n, .int .i64 y.u] 108)).heap.size := by simp; omega
 have HE := Lib.hid (show decide (y.u ≤ t) = overM t y from rfl)
 clear hb
 unfold mark
 go_enter Tryz.func196, Tryz.ntmps196
 go_wp2_with fail
 generalize V.alloc (.cells #[.int .i64 y.f, .int .i64 y.n, .int .i64 y.u] 108) = W at *
 obtain ⟨c0, c1, c2⟩ := qa.three k2
 have d0 : ∀ p : qa.After W, p.W.cell? ⟨b, 0, none⟩ = some (.int .i64 t) := fun p => qa.cell hbl' hb' p
 have HB := Lib.hid hB0
 clear k2 hB0 hb' hbl' hbl
 have hm := mMark
 have HN := Lib.hid (fun W => mmark_any y.f y.n y.u W)
 unfold AggPost mark at HN
 have hfl : ∀ (W : World), (Instr.field 108 (.agg #[.int .i64 y.f, .int .i64 y.n, .int .i64 y.u]) 2).run Tryz.prog W = .ok (.int .i64 y.u) W := fun _ => by kernel_rfl
 refine qa.region (by kernel_rfl) (by kernel_rfl) ?_
 repeat (go_big_quiet_step (first | (go_at_call 273; exact qa.of_below (HN.out _))))
 refine wpQuiet_nil ?_
 rintro _ ⟨p, rfl⟩
 have HB2 := Lib.hid (HB.out.trans (p.h.mono HB.out.size))
 clear c0 c1 c2 d0 hm hfl HN
 go_wp2
 go_ret
 exact ⟨nb.ret_bool HE.out, HB2.out⟩
def idxI {α : Type} (l : List α) (p : α → Bool) : Int := match l.findIdx? p with
 | some i => (i : Nat)
 | none => -1
def IdxFPost (w : World) (n : Int) (e : Ending) (w' : World) : Prop := e = .returned (.int .i64 n) ∧ Below w.heap.size w w'
set_option maxRecDepth 100000 in
set_option maxHeartbeats 800000 in
theorem idxFM (w : World) (v : Value) (l : List Mk) (h : SeesMk w v l) (hl : l.length ≤ 1048576) (b : Nat) (t : Int) (hb : w.cell? ⟨b, 0, none⟩ = some (.int .i64 t)) (hbl : b < w.heap.size) :
  Calls Tryz.prog 219 #[v, .func (.func 196) #[] #[.pointer (some ⟨b, 0, none⟩)]] w (IdxFPost w (idxI l (overM t))) := by
 have HS := Lib.hid h
 have HC := Lib.hid (fun V (hV : Below w.heap.size w V) => (And.intro ((hV.cell (p := ⟨b, 0, none⟩) hbl).trans hb) (Nat.lt_of_lt_of_le hbl hV.size)))
 obtain ⟨A, c, rfl, _⟩ := h
 clear hb hbl
 go_enter Tryz.func219, Tryz.ntmps219
 go_wp2
 go_loopw [8] (fun i wr => ∃ k : Nat, k ≤ l.length ∧ i = .int .i64 k ∧ Hid ((l.take k).any (overM t) = false) ∧ Below w.heap.size w wr) (fun i _ => (l.length + 1 : Nat) - (intOf i).toNat)
 case atStart => exact ⟨0, by omega, rfl, rfl, Below.refl _ _⟩
 case round =>
  obtain ⟨k, hk, rfl, HA, hB⟩ := hrel
  by_cases hlt : k < l.length
  ·have hx : l[k]? = some l[k] := List.getElem?_eq_getElem hlt
   have hc := mark_at (HS.out.later hB) hx
   generalize l[k] = y at hx hc
   obtain ⟨g, c', e, hg, _, t0, t1, t2⟩ := hc
   injection e with e1 e2 e3
   subst e1; subst e3
   have hk0 : (0 : Int) ≤ (k : Int) := by omega
   have hk1 : (k : Int) < (l.length : Int) := by omega
   have HX := Lib.hid hx
   have HB := Lib.hid hB
   clear hx hB
   go_wp2_with fail
   have hQ := overM_any b t wr y (HC.out _ HB.out).1 (HC.out _ HB.out).2
   unfold mark at hQ
   refine hQ.mono ?_
   rintro e w2 ⟨rfl, hB2⟩
   have HB2 := Lib.hid (HB.out.trans (hB2.mono HB.out.size))
   clear hB2 t0 t1 t2 hQ
   cases hq : overM t y with
   | true =>
    have HI := Lib.hid (show ((k : Nat) : Int) = idxI l (overM t) by unfold idxI; rw [idx_first HA.out HX.out hq])
    clear hq
    go_wp2
    go_ret
    exact ⟨nb.ret_int HI.out, HB2.out⟩
   | false =>
    have HN := Lib.hid (none_on HA.out HX.out hq)
    clear hq
    go_wp2
    go_roundw
    case rel => exact ⟨k + 1, by omega, by go_num, HN, HB2.out⟩
    case measure => simp [intOf]; omega
  ·have HI := Lib.hid (show (-1 : Int) = idxI l (overM t) by unfold idxI; rw [idx_none HA.out (by omega)])
   have hk1 : ¬ (k : Int) < (l.length : Int) := by omega
   go_wp2
   go_ret
   exact ⟨nb.ret_int HI.out, hB⟩
theorem zeros_oneM (n : Nat) : ∀ u ∈ (Builtin.zeroCells (Value.agg #[.int .i64 0, .int .i64 0, .int .i64 0]).cells n).toList, u.oneCell' = true := by
 intro u hu
 simp [Builtin.zeroCells, Value.cells] at hu
 obtain ⟨a, _, rfl⟩ := hu
 have h3 : a % 3 < 3 := Nat.mod_lt _ (by omega)
 match h : a % 3, h3 with
 | 0, _ => rfl
 | 1, _ => rfl
 | 2, _ => rfl
theorem keep_first {α : Type} {l : List α} {p : α → Bool} {i : Nat} (h : l.findIdx? p = some i) : (l.take (i + 1)).filter (fun y => !p y) = l.take i ∧ i < l.length := by
 rw [List.findIdx?_eq_some_iff_getElem] at h
 obtain ⟨hi, hp, hn⟩ := h
 refine ⟨?_, hi⟩
 rw [take_on (List.getElem?_eq_getElem hi), List.filter_append]
 have h1 : (l.take i).filter (fun y => !p y) = l.take i := by
  rw [List.filter_eq_self]
  intro y hy
  obtain ⟨j, hj, rfl⟩ := List.mem_iff_getElem.1 hy
  rw [List.length_take] at hj
  rw [List.getElem_take]
  simpa using hn j (by omega)
 rw [h1]
 simp [hp]
set_option maxRecDepth 100000 in
set_option maxHeartbeats 1600000 in
theorem delFM (W : World) (B : Nat) (v : Value) (l : List Mk) (h : OwnAt mkS 108 B W v l) (hl : l.length ≤ 1048576) (b : Nat) (t : Int) (hb : W.cell? ⟨b, 0, none⟩ = some (.int .i64 t)) (hbl : b < W.heap.size) (hvb : v.ownBlock ≠ some b) :
  Calls Tryz.prog 195 #[v, .func (.func 196) #[] #[.pointer (some ⟨b, 0, none⟩)]] W (MutM B W v (l.filter (fun y => !overM t y))) := by
 have HI := Lib.hid (idxFM W v l h.sees hl b t hb hbl)
 obtain ⟨A, c, rfl⟩ := OwnAt.form h
 cases hf : l.findIdx? (overM t) with
 | none =>
  have hE : l.filter (fun y => !overM t y) = l := by
   rw [List.filter_eq_self]
   intro y hy
   rw [List.findIdx?_eq_none_iff] at hf
   simpa using hf y hy
  have HI' := HI
  unfold IdxFPost idxI at HI'
  rw [hf] at HI'
  have HO := Lib.hid h
  have HE := Lib.hid hE
  clear hf hE HI h hb hbl hvb
  go_enter Tryz.func195, Tryz.ntmps195
  go_wp2_with fail
  refine HI'.out.mono ?_
  rintro e w2 ⟨rfl, hB2⟩
  have HR := Lib.hid (And.intro (HO.out.later hB2) (below_grown (row := (Value.slice A l.length c).ownBlock) hB2 ⟨rfl, rfl, rfl, Nat.le_refl _, fun _ _ _ => rfl⟩))
  clear hB2 HI'
  go_wp2
  go_ret
  exact ⟨_, rfl, by rw [HE.out]; exact HR.out.1, HR.out.2, From.refl _ _⟩
 | some i =>
  obtain ⟨j0, hj, hy0, hy1, hy2⟩ := info_parts infoMark
  obtain ⟨hkf, hil⟩ := keep_first hf
  have HI' := HI
  unfold IdxFPost idxI at HI'
  rw [hf] at HI'
  clear HI hf
  obtain ⟨g, rfl⟩ : ∃ g, A = some ⟨g, 0, none⟩ := by
   rcases h.2 with ⟨_, hn⟩ | ⟨g, cap, cur, e, _⟩
   ·omega
   ·injection e with e1
    exact ⟨g, e1⟩
  obtain ⟨_, hBg, hlc, hcm, cur, hR, hcur⟩ := ownAt_row h
  have hgl := hR.blk.lt
  have hgb : g ≠ b := fun e => hvb (by rw [← e]; rfl)
  have hcm' := hcm
  unfold maxLen at hcm'
  have hsz3 : (mkS).n = 3 := rfl
  have HR := Lib.hid hR
  have HCur := Lib.hid hcur
  have HCb := Lib.hid (And.intro hb hbl)
  clear h hb hbl hvb hR hcur
  have hi0 : ¬ ((i : Int) = -1) := by omega
  have hi1 : ((i : Int) == -1) = false := by rw [beq_eq_false_iff_ne]; omega
  have hw1 : IntKind.i64.wrap ((i : Int) + 1) = (i : Int) + 1 := by rw [IntKind.wrap_i64]; omega
  go_enter Tryz.func195, Tryz.ntmps195
  go_wp2_with fail
  refine HI'.out.mono ?_
  rintro e w2 ⟨rfl, hB2⟩
  have HR2 := Lib.hid (show Row mkS 108 w2 g c cur from ⟨HR.out.blk.below hB2 hgl, HR.out.size⟩)
  have HG2 := Lib.hid (below_grown (row := some g) hB2 ⟨rfl, rfl, rfl, Nat.le_refl _, fun _ _ _ => rfl⟩)
  have HC2 := Lib.hid (And.intro ((hB2.cell (p := ⟨b, 0, none⟩) HCb.out.2).trans HCb.out.1) (Nat.lt_of_lt_of_le HCb.out.2 hB2.size))
  clear hB2 HI' HCb HR
  go_wp2
  go_loopw [5, 6] (fun kv jv wr => ∃ (k j : Nat) (cu : Array Value), k + 1 ≤ j ∧ j ≤ l.length ∧ kv = .int .i64 k ∧ jv = .int .i64 j ∧ Hid (((l.take j).filter (fun y => !overM t y)).length = k) ∧ Hid (Row mkS 108 wr g c cu) ∧ Hid (∀ q y, ((l.take j).filter (fun y => !overM t y))[q]? = some y → ∀ r u, (mkF y)[r]? = some u → cu[q * 3 + r]? = some u) ∧ Hid (∀ q y, j ≤ q → l[q]? = some y → ∀ r u, (mkF y)[r]? = some u → cu[q * 3 + r]? = some u) ∧ Hid (W.grownBy wr (some g)) ∧ Hid (wr.cell? ⟨b, 0, none⟩ = some (.int .i64 t) ∧ b < wr.heap.size)) (fun _ jv _ => (l.length + 1 : Nat) - (intOf jv).toNat)
  case atStart =>
   refine ⟨i, i + 1, cur, by omega, by omega, rfl, by go_num, ?_, HR2, ?_, ?_, HG2, HC2⟩
   ·show _ = _
    rw [hkf, List.length_take]; omega
   ·show ∀ q y, _ → _
    rw [hkf]
    intro q y hq r u hu
    rw [List.getElem?_take] at hq
    split at hq
    ·exact row_at HCur.out hq hu
    ·cases hq
   ·exact fun q y _ hq r u hu => row_at HCur.out hq hu
  case round =>
   obtain ⟨k, j, cu, hkj, hjl, rfl, rfl, HL, HRo, HK, HT, HG, HC⟩ := hrel
   clear HR2 HG2 HC2 HCur hkf
   by_cases hlt : j < l.length
   ·have hx : l[j]? = some l[j] := List.getElem?_eq_getElem hlt
    generalize l[j] = y at hx
    have t0 : wr.cell? ⟨g, j * 3, none⟩ = some (.int .i64 y.f) := (HRo.out.blk.cell _).trans (HT.out j y (Nat.le_refl _) hx 0 _ rfl)
    have t1 : wr.cell? ⟨g, j * 3 + 1, none⟩ = some (.int .i64 y.n) := (HRo.out.blk.cell _).trans (HT.out j y (Nat.le_refl _) hx 1 _ rfl)
    have t2 : wr.cell? ⟨g, j * 3 + 2, none⟩ = some (.int .i64 y.u) := (HRo.out.blk.cell _).trans (HT.out j y (Nat.le_refl _) hx 2 _ rfl)
    have hk0 : (0 : Int) ≤ (j : Int) := by omega
    have hk1 : (j : Int) < (l.length : Int) := by omega
    have hk2 : (0 : Int) ≤ (k : Int) := by omega
    have hk3 : (k : Int) < (l.length : Int) := by omega
    have hBa := (Below.refl wr.heap.size wr).alloc (Nat.le_refl _) (.cells #[.int .i64 y.f, .int .i64 y.n, .int .i64 y.u] 108)
    have hX := Blk.new wr 108 #[.int .i64 y.f, .int .i64 y.n, .int .i64 y.u]
    have hQ := overM_any b t (wr.alloc (.cells #[.int .i64 y.f, .int .i64 y.n, .int .i64 y.u] 108)) y ((hBa.cell (p := ⟨b, 0, none⟩) HC.out.2).trans HC.out.1) (Nat.lt_of_lt_of_le HC.out.2 hBa.size)
    unfold mark at hQ
    have HX := Lib.hid hx
    have HQ := Lib.hid hQ
    have HBa := Lib.hid hBa
    have HXb := Lib.hid hX
    clear hx hQ hBa hX
    go_wp2_with fail
    refine HQ.out.mono ?_
    rintro e w3 ⟨rfl, hB3⟩
    have hB4 := HBa.out.trans (hB3.mono HBa.out.size)
    have hR3 : Row mkS 108 w3 g c cu := ⟨HRo.out.blk.below hB4 HRo.out.blk.lt, HRo.out.size⟩
    have hX3 := HXb.out.below hB3 HXb.out.lt
    have hC3 := And.intro ((hB4.cell (p := ⟨b, 0, none⟩) HC.out.2).trans HC.out.1) (Nat.lt_of_lt_of_le HC.out.2 hB4.size)
    have hG3 : W.grownBy w3 (some g) := ⟨hB4.os.trans HG.out.os, hB4.tape.trans HG.out.tape, hB4.output.trans HG.out.output, Nat.le_trans HG.out.size hB4.size, fun q hq hne => (hB4.block q (Nat.lt_of_lt_of_le hq HG.out.size)).trans (HG.out.block q hq hne)⟩
    obtain ⟨m0, m1, m2⟩ := mk_cells hX3
    have hgw : g ≠ wr.heap.size := by have := HRo.out.blk.lt; omega
    clear hB3 hB4 HQ HBa HXb t0 t1 t2
    cases hq : overM t y with
    | true =>
     have hfil : (l.take (j + 1)).filter (fun y => !overM t y) = (l.take j).filter (fun y => !overM t y) := filter_off HX.out (by rw [hq]; rfl)
     have HL2 : Hid (((l.take (j + 1)).filter (fun y => !overM t y)).length = k) := by show _ = _; rw [hfil]; exact HL.out
     have HK2 : Hid (∀ q y, ((l.take (j + 1)).filter (fun y => !overM t y))[q]? = some y → ∀ r u, (mkF y)[r]? = some u → cu[q * 3 + r]? = some u) := by show ∀ q y, _ → _; rw [hfil]; exact HK.out
     have HT2 : Hid (∀ q y, j + 1 ≤ q → l[q]? = some y → ∀ r u, (mkF y)[r]? = some u → cu[q * 3 + r]? = some u) := fun q y hq' => HT.out q y (by omega)
     have HR3 := Lib.hid hR3
     have HC3 := Lib.hid hC3
     have HG3 := Lib.hid hG3
     clear hq hfil hR3 hC3 hG3 hX3 HL HK HT HRo HG HC HX
     go_wp2
     go_roundw
     case rel => exact ⟨k, j + 1, cu, by omega, by omega, rfl, by go_num, HL2, HR3, HK2, HT2, HG3, HC3⟩
     case measure => simp [intOf]; omega
    | false =>
     have hfil : (l.take (j + 1)).filter (fun y => !overM t y) = (l.take j).filter (fun y => !overM t y) ++ [y] := filter_on HX.out (by rw [hq]; rfl)
     obtain ⟨cu2, hR4, hp1, hp2⟩ := hR3.put (k * 3) (mkF y)
     have hbig : k * 3 + (mkF y).length ≤ c * (mkS).n := by show k * 3 + 3 ≤ c * 3; omega
     have HL2 : Hid (((l.take (j + 1)).filter (fun y => !overM t y)).length = k + 1) := by show _ = _; rw [hfil, List.length_append, HL.out]; rfl
     have HK2 : Hid (∀ q y, ((l.take (j + 1)).filter (fun y => !overM t y))[q]? = some y → ∀ r u, (mkF y)[r]? = some u → cu2[q * 3 + r]? = some u) := by
      show ∀ q y, _ → _
      rw [hfil]
      intro q z hz r u hu
      have hr : r < 3 := (List.getElem?_eq_some_iff.1 hu).1
      by_cases hqk : q < k
      ·rw [List.getElem?_append_left (by rw [HL.out]; exact hqk)] at hz
       rw [hp1 _ (.inl (by omega))]
       exact HK.out q z hz r u hu
      ·rw [List.getElem?_append_right (by rw [HL.out]; omega), HL.out] at hz
       have hqk' : q = k := by have := (List.getElem?_eq_some_iff.1 hz).1; simp at this; omega
       subst hqk'
       simp at hz
       subst hz
       exact hp2 hbig r u hu
     have HT2 : Hid (∀ q y, j + 1 ≤ q → l[q]? = some y → ∀ r u, (mkF y)[r]? = some u → cu2[q * 3 + r]? = some u) := fun q z hq' hz r u hu => by
      rw [hp1 _ (.inr (by show k * 3 + 3 ≤ _; omega))]
      exact HT.out q z (by omega) hz r u hu
     have e0 := hR3.cell (j := k * 3) (by rw [hsz3]; omega)
     have e1 := hR3.cell (j := k * 3 + 1) (by rw [hsz3]; omega)
     have e2 := hR3.cell (j := k * 3 + 2) (by rw [hsz3]; omega)
     obtain ⟨z0, h0⟩ := Option.isSome_iff_exists.1 e0.1
     obtain ⟨z1, h1⟩ := Option.isSome_iff_exists.1 e1.1
     obtain ⟨z2, h2⟩ := Option.isSome_iff_exists.1 e2.1
     have f0 := e0.2
     have f1 := e1.2
     have f2 := e2.2
     have HR4 := Lib.hid hR4
     have HG4 := Lib.hid (putAll_grown hG3 (.inl rfl) (k * 3) (mkF y))
     have HC4 : Hid ((putAll w3 g (k * 3) (mkF y)).cell? ⟨b, 0, none⟩ = some (.int .i64 t) ∧ b < (putAll w3 g (k * 3) (mkF y)).heap.size) := by
      have hq2 := putAll_grown (W0 := w3) (W := w3) (g := g) (row := some g) ⟨rfl, rfl, rfl, Nat.le_refl _, fun _ _ _ => rfl⟩ (.inl rfl) (k * 3) (mkF y)
      exact ⟨(hq2.cell_far ⟨b, 0, none⟩ hC3.2 (fun e => by injection e with e; exact hgb e.symm)).trans hC3.1, Nat.lt_of_lt_of_le hC3.2 hq2.size⟩
     have hwk : IntKind.i64.wrap ((k : Int) + 1) = (k : Int) + 1 := by rw [IntKind.wrap_i64]; omega
     have hP : putAll w3 g (k * 3) (mkF y) = ((w3.setCell ⟨g, k * 3, none⟩ (.int .i64 y.f)).setCell ⟨g, k * 3 + 1, none⟩ (.int .i64 y.n)).setCell ⟨g, k * 3 + 2, none⟩ (.int .i64 y.u) := rfl
     rw [hP] at HR4 HG4 HC4
     clear hq hfil hR3 hC3 hG3 hX3 HL HK HT HRo HG HC HX hR4 hp1 hp2 hbig e0 e1 e2 hP
     go_wp2
     go_roundw
     case rel => exact ⟨k + 1, j + 1, cu2, by omega, by omega, by go_num, by go_num, HL2, HR4, HK2, HT2, HG4, HC4⟩
     case measure => simp [intOf]; omega
   ·obtain rfl : j = l.length := by omega
    have hfin : (l.take l.length).filter (fun y => !overM t y) = l.filter (fun y => !overM t y) := by rw [List.take_length]
    have hkl : (l.filter (fun y => !overM t y)).length = k := by rw [← hfin]; exact HL.out
    have hK : ∀ q y, (l.filter (fun y => !overM t y))[q]? = some y → ∀ r u, (mkF y)[r]? = some u → cu[q * 3 + r]? = some u := by rw [← hfin]; exact HK.out
    obtain ⟨out, hout⟩ : ∃ out, out = l.filter (fun y => !overM t y) := ⟨_, rfl⟩
    rw [← hout] at hkl hK
    have HOut := Lib.hid hout
    clear hout
    have hzl : (Builtin.zeroCells (Value.agg #[.int .i64 0, .int .i64 0, .int .i64 0]).cells (l.length - k)).toList.length = (l.length - k) * 3 := by
     rw [Array.length_toList, zeroCells_size]; rfl
    have hclr : ∀ ty cc, (Builtin.clear_ #[37] ty #[.slice (some ⟨g, k * 3, none⟩) (l.length - k) cc]).run Tryz.prog wr = .ok (.tuple #[]) (putAll wr g (k * 3) (Builtin.zeroCells (Value.agg #[.int .i64 0, .int .i64 0, .int .i64 0]).cells (l.length - k)).toList) := fun ty cc =>
     run_clear_k wr _ ty 108 j0 _ g (k * 3) (l.length - k) cc Tryz.underlying37 hj hy0 (by omega)
      (fun r hr => (HRo.out.cell (by rw [hzl] at hr; rw [hsz3]; omega)).1) (fun r _ => HRo.out.blk.frozen _) (zeros_oneM _)
    obtain ⟨cu2, hR4, hp1, hp2⟩ := HRo.out.put (k * 3) (Builtin.zeroCells (Value.agg #[.int .i64 0, .int .i64 0, .int .i64 0]).cells (l.length - k)).toList
    have hG4 := putAll_grown HG.out (.inl rfl) (k * 3) (Builtin.zeroCells (Value.agg #[.int .i64 0, .int .i64 0, .int .i64 0]).cells (l.length - k)).toList
    generalize putAll wr g (k * 3) (Builtin.zeroCells (Value.agg #[.int .i64 0, .int .i64 0, .int .i64 0]).cells (l.length - k)).toList = W4 at hclr hR4 hG4
    have HO := Lib.hid (show OwnAt mkS 108 B W4 (.slice (some ⟨g, 0, none⟩) k c) out from by
     have hkc : out.length * (mkS).n ≤ c * (mkS).n := Nat.mul_le_mul_right _ (by omega)
     have hz : cu2.toList.length = c * (mkS).n := by simp [hR4.size]
     have := ownAt_mk (l := out) hR4 hBg (by omega) hcm (flat_of mkS (by rw [List.length_take, hz]; omega) (fun q y hq r u hu => by
      have hr : r < 3 := by have := (List.getElem?_eq_some_iff.1 hu).1; rwa [(mkS).len] at this
      have hql : q < out.length := (List.getElem?_eq_some_iff.1 hq).1
      rw [List.getElem?_take, if_pos (by rw [hsz3]; omega), Array.getElem?_toList, hp1 _ (.inl (by rw [hsz3]; omega))]
      exact hK q y hq r u hu))
     rw [hkl] at this
     exact this)
    have HG := Lib.hid hG4
    have hk0 : ¬ ((l.length : Int) < (l.length : Int)) := by omega
    have hk2 : (0 : Int) ≤ (k : Int) := by omega
    have hk3 : (k : Int) ≤ (l.length : Int) := by omega
    have hk4 : (l.length : Int) ≤ (c : Int) := by omega
    have hk5 : ¬ (c = k) := by omega
    have hk6 : (k : Int) ≤ (c : Int) := by omega
    clear hfin hkl hK hzl hR4 hp1 hp2 hG4 HL HK HT HRo HC
    go_wp2
    go_ret
    exact ⟨_, rfl, by rw [← HOut.out]; exact HO.out, HG.out, fun q hq => .inr hq⟩
theorem overM_not (t : Int) : (fun y : Mk => !overM t y) = fun y => decide (t < y.u) := by
 funext y
 unfold overM
 by_cases h : y.u ≤ t
 ·rw [decide_eq_true h, decide_eq_false (by omega)]; rfl
 ·rw [decide_eq_false h, decide_eq_true (by omega)]; rfl
set_option maxRecDepth 100000 in
theorem dropM_any (W : World) (B : Nat) (v : Value) (l : List Mk) (t : Int) (h : OwnAt mkS 108 B W v l) (hl : l.length ≤ 1048576) :
  Calls Tryz.prog 171 #[v, .int .i64 t] W (MutM B W v (l.filter (fun y => decide (t < y.u)))) := by
 have hB0 := (Below.refl W.heap.size W).alloc (Nat.le_refl _) (.cells #[.int .i64 t] 3)
 have hlt := fun g (hg : v.ownBlock = some g) => (OwnAt.ltW h hg).2
 have HD := Lib.hid (delFM _ B v l (h.alloc (.cells #[.int .i64 t] 3)) hl W.heap.size t ((Blk.new W 3 #[.int .i64 t]).cell 0) (by simp) (fun e => by have := hlt _ e; omega))
 rw [overM_not] at HD
 have HB := Lib.hid hB0
 have hmf := mkfn
 obtain ⟨A, c, rfl⟩ := OwnAt.form h
 clear hB0 hlt h
 go_enter Tryz.func171, Tryz.ntmps171
 go_wp2_with fail
 refine HD.out.mono ?_
 rintro e w4 ⟨v', rfl, hO4, hG4, hF4⟩
 have HR := Lib.hid (And.intro hO4 (And.intro (below_grown HB.out hG4) (from_later HB.out.size hF4)))
 clear hO4 hG4 hF4
 go_wp2
 go_ret
 exact ⟨_, rfl, HR.out.1, HR.out.2.1, HR.out.2.2⟩
end Go.Proofs.YtckicpnnclbkpaaGreatDoor.kp

