/-
  Merged texts: IApply, SRec1, SRec2.
-/
import Derived.Test.YtckicpnnclbkpaaGreatDoorE25
import Derived.Test.YtckicpnnclbkpaaGreatDoorE30
namespace Go.Proofs.YtckicpnnclbkpaaGreatDoor.kp
open Go.ChangeShapes Go.WideShapes Go.ChangeAt Go.RowKit
open wd ow rl ok nb nx dc
def ApP (B : Nat) (W : World) (g : Nat) (k : Kp) (l : List UInt8) (e : Ending) (w' : World) : Prop :=
 (∃ k' a b c, e = .returned (.bool true) ∧ Does k l k' true ∧ MK B w' g k' a b c ∧ Below B W w') ∨ (e = .returned (.bool false) ∧ Does k l k false ∧ Below B W w')
theorem applied_sz {k k' : Kp} {r : Rc} (hk : okK k = true) (hn : ntIn r) (ha : applyS k r = some k') : Sz 14 k' := by
 have hz := sz_ok hk
 cases r with
 | time v => rw [applyS] at ha; split at ha; cases ha; exact (sz_time hz v).up (by omega); cases ha
 | next v => rw [applyS] at ha; split at ha; cases ha; exact (sz_next hz v).up (by omega); cases ha
 | own x =>
  rw [applyS] at ha; split at ha
  ·unfold takeO at ha; split at ha; cases ha; exact (sz_take (sz_next hz (k.next + 1)) (okNt_size hn)).up (by omega); cases ha
  ·cases ha
 | take x =>
  rw [applyS] at ha; split at ha
  ·cases ha
  ·unfold takeO at ha; split at ha; cases ha; exact (sz_take hz (okNt_size hn)).up (by omega); cases ha
 | held x => rw [applyS] at ha; split at ha; cases ha; cases ha; exact (sz_held hz (okNt_size hn)).up (by omega)
 | inbox x => rw [applyS] at ha; split at ha; cases ha; cases ha; exact (sz_inbox hz (okNt_size hn)).up (by omega)
 | lets m =>
  cases hf : k.held.findIdx? (isM m) with
  | none => rw [apply_let_no hf] at ha; cases ha
  | some i => rw [apply_let hf] at ha; cases ha; exact (sz_let hz i m).up (by omega)
 | eat m =>
  cases hf : k.inbox.findIdx? (isM m) with
  | none => rw [apply_eat_no hf] at ha; cases ha
  | some i => rw [apply_eat hf] at ha; cases ha; exact (sz_eat hz i).up (by omega)
 | mark m => rw [applyS] at ha; split at ha; cases ha; cases ha; exact (sz_mark hz m).up (by omega)
set_option maxRecDepth 100000 in
set_option maxHeartbeats 1600000 in
theorem apply_any (B : Nat) (W : World) (g : Nat) (k : Kp) (a b c : Value) (l : List UInt8) (hs : l.length ≤ 1048576) (h : MK B W g k a b c) (hk : okK k = true) (hTab : Tab W) (hErr : Errs W) :
  Calls Tryz.prog 93 #[.pointer (some ⟨g, 0, none⟩), .string (str l)] W (ApP B W g k l) := by
 have hB0 := (Below.refl W.heap.size W).alloc (Nat.le_refl _) (.cells #[.bool false] 4)
 have HR := Lib.hid (Blk.new W 4 #[.bool false])
 have HM := Lib.hid (h.later hB0)
 have HB := Lib.hid (hB0.mono h.bW)
 have HT := Lib.hid (hTab.later hB0)
 have HE := Lib.hid (hErr.later hB0)
 have HRR := Lib.hid (fun V h1 h2 => readRecord_any l hs V h1 h2)
 have HOf := Lib.hid (h.own.off_new (Nat.le_refl W.heap.size))
 have HNg := Lib.hid (show W.heap.size ≠ g from by have := h.box.lt; omega)
 have HgB := Lib.hid (show B ≤ W.heap.size from h.bW)
 have hmf := mkfn
 unfold RrP at HRR
 clear h hB0 hTab hErr hs
 generalize str l = s at HRR ⊢
 go_enter_defers Tryz.func93, Tryz.ntmps93
 go_wp2_with fail
 generalize W.alloc (.cells #[.bool false] 4) = V at HR HM HB HT HE ⊢
 generalize W.heap.size = rb at HR HNg HgB HOf ⊢
 refine (HRR.out V HT.out HE.out).mono ?_
 rintro e w1 ⟨hB1, ⟨r, hr, rfl⟩ | ⟨hr, rfl⟩⟩
 case inr =>
  have HD := Lib.hid (does_none (k := k) hr)
  have z := HR.out.below hB1 HR.out.lt
  have HB2 := Lib.hid (HB.out.trans (hB1.mono HM.out.bW))
  clear HRR
  refine leaves_cons (f := 139) (args := #[.pointer (some ⟨rb, 0, none⟩)]) (by simp) (by simp [go_sem]) ?_
  refine (catch_p ⟨rb, 0, none⟩ false _ (z.cell 0) (z.frozen 0) z.lt).mono ?_
  rintro e u' w'' ⟨rfl, rfl, rfl⟩
  have zU := (z.alloc (.cells #[] 198)).put 0 (.bool false)
  have x0 := zU.cell 0
  have HBU := Lib.hid ((HB2.out.alloc (Nat.le_trans HgB.out (Nat.le_of_lt z.lt)) (.cells #[] 198)).setCell (p := ⟨rb, 0, none⟩) HgB.out (.bool false))
  generalize (w1.alloc (.cells #[] 198)).setCell ⟨rb, 0, none⟩ (.bool false) = U at x0 HBU ⊢
  simp only [List.setIfInBounds_toArray, List.set_cons_zero, List.getElem?_toArray, List.getElem?_cons_zero] at x0
  clear zU z hmf
  simp [Leaves, settle, results, Tryz.results93, go_sem, x0]
  exact .inr ⟨rfl, HD.out, HBU.out⟩
 have hni : ntIn r := hr.1
 have hM1 := HM.out.later hB1
 have hR1 := Lib.hid (HR.out.below hB1 HR.out.lt)
 have hB2 := Lib.hid (HB.out.trans (hB1.mono HM.out.bW))
 have hOf := HOf.out
 have HC := Lib.hid (change_any B w1 g rb k a b c r hM1 hk hni hR1.out.lt HNg.out hOf)
 have HN := Lib.hid (fun (ha : applyS k r = none) => does_not hr ha)
 have HX := Lib.hid (fun k' (ha : applyS k r = some k') (h2 : okK k' = false) => does_bad hr ha h2)
 have HY := Lib.hid (fun k' (ha : applyS k r = some k') (h2 : okK k' = true) => does_yes hk hr ha h2)
 have HZ := Lib.hid (fun k' (ha : applyS k r = some k') => applied_sz hk hni ha)
 clear hM1 hB1 HRR HT HE HM HR HB hr hni hOf
 generalize rcV r = rv at HC ⊢
 unfold ChPost at HC
 go_wp2_with fail
 refine HC.out.mono ?_
 rintro e w2 hq
 have hz2 := hq
 rcases hq with ⟨k', a', b', c', ho, rfl, hM2, hF2, hO2⟩ | ⟨ho, rfl, hF2⟩
 rotate_left 1
 ·have HD := Lib.hid (HN.out ho)
  have z : Blk w2 rb 4 #[.bool false] := hF2.2.trans hR1.out
  have HB2 := Lib.hid (hB2.out.trans hF2.1)
  clear HC HN HX HY HZ hz2 hF2
  refine leaves_cons (f := 139) (args := #[.pointer (some ⟨rb, 0, none⟩)]) (by simp) (by simp [go_sem]) ?_
  refine (catch_p ⟨rb, 0, none⟩ false _ (z.cell 0) (z.frozen 0) z.lt).mono ?_
  rintro e u' w'' ⟨rfl, rfl, rfl⟩
  have zU := (z.alloc (.cells #[] 198)).put 0 (.bool false)
  have x0 := zU.cell 0
  have HBU := Lib.hid ((HB2.out.alloc (Nat.le_trans HgB.out (Nat.le_of_lt z.lt)) (.cells #[] 198)).setCell (p := ⟨rb, 0, none⟩) HgB.out (.bool false))
  generalize (w2.alloc (.cells #[] 198)).setCell ⟨rb, 0, none⟩ (.bool false) = U at x0 HBU ⊢
  simp only [List.setIfInBounds_toArray, List.set_cons_zero, List.getElem?_toArray, List.getElem?_cons_zero] at x0
  clear zU z hmf
  simp [Leaves, settle, results, Tryz.results93, go_sem, x0]
  exact .inr ⟨rfl, HD.out, HBU.out⟩
 clear HC HN hz2
 have z2 : Blk w2 rb 4 #[.bool false] := hF2.2.trans hR1.out
 have HB2 := Lib.hid (hB2.out.trans hF2.1)
 have HM2 := Lib.hid hM2
 have HO2 := Lib.hid hO2
 have hsz := HZ.out k' ho
 have HK := Lib.hid (ikeepOk_any w2 k' a' b' c' hM2.sees (hsz.few (by omega)) hsz.texts)
 unfold BoolK at HK
 obtain ⟨d0, d1, d2, d3, d4, d5⟩ := KBox.cells hM2.box
 have hX2 := HX.out k' ho
 have hY2 := HY.out k' ho
 clear hF2 hM2 hO2 hsz HX HY HZ ho
 cases hok : okK k' with
 | false =>
  have HD := Lib.hid (hX2 hok)
  rw [hok] at HK
  clear hX2 hY2 hok
  go_wp2_with fail
  refine HK.out.mono ?_
  rintro e w3 ⟨rfl, hB3⟩
  have z := z2.below hB3 z2.lt
  have HB4 := Lib.hid (HB2.out.trans (hB3.mono HM2.out.bW))
  clear HB2 d0 d1 d2 d3 d4 d5 hB3 z2
  have HB2 := HB4
  clear HB4
  go_wp2_with fail
  refine (require_f _).mono ?_
  rintro e w4 ⟨rfl, rfl⟩
  refine leaves_cons (f := 139) (args := #[.pointer (some ⟨rb, 0, none⟩)]) (by simp) (by simp [go_sem]) ?_
  refine (catch_p ⟨rb, 0, none⟩ false _ (z.cell 0) (z.frozen 0) z.lt).mono ?_
  rintro e u' w'' ⟨rfl, rfl, rfl⟩
  have zU := (z.alloc (.cells #[] 198)).put 0 (.bool false)
  have x0 := zU.cell 0
  have HBU := Lib.hid ((HB2.out.alloc (Nat.le_trans HgB.out (Nat.le_of_lt z.lt)) (.cells #[] 198)).setCell (p := ⟨rb, 0, none⟩) HgB.out (.bool false))
  generalize (w3.alloc (.cells #[] 198)).setCell ⟨rb, 0, none⟩ (.bool false) = U at x0 HBU ⊢
  simp only [List.setIfInBounds_toArray, List.set_cons_zero, List.getElem?_toArray, List.getElem?_cons_zero] at x0
  clear zU z hmf
  simp [Leaves, settle, results, Tryz.results93, go_sem, x0]
  exact .inr ⟨rfl, HD.out, HBU.out⟩
 | true =>
  have HD := Lib.hid (hY2 hok)
  rw [hok] at HK
  clear hX2 hY2 hok
  go_wp2_with fail
  refine HK.out.mono ?_
  rintro e w3 ⟨rfl, hB3⟩
  have z := z2.below hB3 z2.lt
  have HM3 := Lib.hid (HM2.out.later hB3)
  have HB4 := Lib.hid (HB2.out.trans (hB3.mono HM2.out.bW))
  clear HB2 d0 d1 d2 d3 d4 d5 hB3 z2 HK HM2
  go_wp2_with fail
  refine (require_t _).mono ?_
  rintro e w4 ⟨rfl, rfl⟩
  have x0 := z.cell 0
  have y0 := z.frozen 0
  simp only [List.getElem?_toArray, List.getElem?_cons_zero] at x0
  go_wp2
  have z1 := z.put 0 (.bool true)
  have HM4 := Lib.hid (HM3.out.far (p := ⟨rb, 0, none⟩) HNg.out.symm HO2.out (.bool true))
  have HB5 := Lib.hid (HB4.out.setCell (p := ⟨rb, 0, none⟩) HgB.out (.bool true))
  generalize w3.setCell ⟨rb, 0, none⟩ (.bool true) = V1 at z1 HM4 HB5 ⊢
  have B6 : Below V1.heap.size V1 (V1.alloc (.cells #[] 198)) := (Below.refl _ _).alloc (Nat.le_refl _) _
  have zU := z1.below B6 z1.lt
  have u0 := zU.cell 0
  simp only [List.setIfInBounds_toArray, List.set_cons_zero, List.getElem?_toArray, List.getElem?_cons_zero] at u0
  have HMU := Lib.hid (HM4.out.later B6)
  have HBU := Lib.hid (HB5.out.trans (B6.mono HM4.out.bW))
  clear x0 y0 z z1 zU HM3 HB4 HM4 HB5 B6 hmf
  refine leaves_cons (f := 139) (args := #[.pointer (some ⟨rb, 0, none⟩)]) (by simp) (by simp [go_sem]) ?_
  refine (catch_i ⟨rb, 0, none⟩ _).mono ?_
  rintro e u' w'' ⟨rfl, rfl, rfl⟩
  generalize V1.alloc (.cells #[] 198) = U at u0 HMU HBU ⊢
  simp [Leaves, settle, results, Tryz.results93, go_sem, u0]
  exact .inl ⟨_, _, _, _, rfl, HD.out, HMU.out, HBU.out⟩
end Go.Proofs.YtckicpnnclbkpaaGreatDoor.kp

namespace Go.Proofs.YtckicpnnclbkpaaGreatDoor.kp
open Go.ChangeShapes Go.WideShapes Go.ChangeAt Go.RowKit
open wd ow rl ok nb dc
set_option maxRecDepth 100000 in
set_option maxHeartbeats 4000000 in
theorem rec_time (w : World) (k : Kp) (a b c : Value) (x : ByteArray) (hs : x.size ≤ 1048576) (h : SeesK w k a b c) (ho : okK k = true) (hw : (word x.data.toList).1 = kwTime) :
  Calls Tryz.prog 81 #[kpV k.id k.time k.next a b c, .string x] w (RecPost w k x.data.toList) := by
 have HZ := Lib.hid (sz_ok ho)
 have HS := Lib.hid h
 have HW := Lib.hid (fun W => sword_any x hs W)
 unfold WordPost at HW
 have hrl : (str (word x.data.toList).2).size ≤ 1048576 := by rw [str_size]; have := (word_len x.data.toList).2; rw [← Lib.size_eq] at this; omega
 have HR := Lib.hid (fun v (hr : Reads (word x.data.toList).2 v) => (⟨fun hv => rec_time_no hw hr hv, fun hv => rec_time_yes ho hw hr hv⟩ : (v ≤ k.time → RecP k x.data.toList k false) ∧ (k.time < v → RecP k x.data.toList (timeS k v) true)))
 have HN := Lib.hid (fun W => dec3x_any (str (word x.data.toList).2) (by omega) W)
 rw [data_str] at HN
 generalize (word x.data.toList).2 = rest at HW HR HN hrl
 have hkw : str kwTime = ⟨#[116, 105, 109, 101]⟩ := rfl
 rw [hw, hkw] at HW
 clear hkw
 obtain ⟨Aa, ca, rfl, _⟩ := h.held
 obtain ⟨Ab, cb, rfl, _⟩ := h.marks
 obtain ⟨Ac, cc, rfl, _⟩ := h.inbox
 have HT := Lib.hid (CB.new w k (.slice Aa k.held.length ca) (.slice Ab k.marks.length cb) (.slice Ac k.inbox.length cc))
 have HM := Lib.hid (fun V v (hV : Below w.heap.size w V) => time_any V k _ _ _ v (h.later hV) (HZ.out.few (by omega)))
 unfold RetK at HM
 clear h hw ho hrl
 go_enter Tryz.func81, Tryz.ntmps81
 go_upto_region 1 with (fail)
 generalize (w.alloc (.cells #[.int .i64 k.id, .int .i64 k.time, .int .i64 k.next, .slice Aa k.held.length ca, .slice Ab k.marks.length cb, .slice Ac k.inbox.length cc] 39)).alloc (.cells #[.int .i64 0, .int .i64 0, .int .i64 0, .slice none 0 0, .slice none 0 0, .slice none 0 0] 39) = V at HT ⊢
 go_wp2_with fail
 refine (HW.out _).mono ?_
 rintro e w1 ⟨rfl, hB1⟩
 have HT1 := Lib.hid (HT.out.later hB1)
 clear HT hB1 HW
 go_wp2_with fail
 refine (HN.out _).mono ?_
 rintro e w2 ⟨v, rfl, hrd, hB2⟩
 have HT2 := Lib.hid (HT1.out.later hB2)
 obtain ⟨hR1, hR2⟩ := HR.out v hrd
 clear hB2 HT1 HR hrd HN
 obtain ⟨b0, b1, b2, b3, b4, b5, g0, g1, g2, g3, g4, g5⟩ := res_cells HT2.out.box
 obtain ⟨r0, r1, r2, r3, r4, r5, f0, f1, f2, f3, f4, f5⟩ := res_cells HT2.out.res
 by_cases hv : v ≤ k.time
 ·have HP := Lib.hid (hR1 hv)
  clear hR1 hR2 HM
  have HZZ := Lib.hid (HZ.out.up (show 12 ≤ 14 by omega))
  have HC := Lib.hid (put6_blk (V := w2) (a' := .int .i64 k.id) (b' := .int .i64 k.time) (c' := .int .i64 k.next) (d' := .slice Aa k.held.length ca) (e' := .slice Ab k.marks.length cb) (f' := .slice Ac k.inbox.length cc) HT2.out.res)
  have HD := Lib.hid (put6_below (V := w2) (B := w.heap.size) (R := w.heap.size + 1) (by omega) HT2.out.bel (.int .i64 k.id) (.int .i64 k.time) (.int .i64 k.next) (.slice Aa k.held.length ca) (.slice Ab k.marks.length cb) (.slice Ac k.inbox.length cc))
  have HG := Lib.hid (show SeesK (put6 w2 (w.heap.size + 1) (.int .i64 k.id) (.int .i64 k.time) (.int .i64 k.next) (.slice Aa k.held.length ca) (.slice Ab k.marks.length cb) (.slice Ac k.inbox.length cc)) k (.slice Aa k.held.length ca) (.slice Ab k.marks.length cb) (.slice Ac k.inbox.length cc) from HS.out.later HD.out)
  go_wp2
  have x0 := HC.out.cell 0
  have x1 := HC.out.cell 1
  have x2 := HC.out.cell 2
  have x3 := HC.out.cell 3
  have x4 := HC.out.cell 4
  have x5 := HC.out.cell 5
  refine bodyPost_ret (v := .tuple #[kpV (k).id (k).time (k).next (.slice Aa k.held.length ca) (.slice Ab k.marks.length cb) (.slice Ac k.inbox.length cc), .bool false]) (by simp [results, Tryz.results81, go_sem, x0, x1, x2, x3, x4, x5]) rfl ⟨k, false, HP.out, HZZ.out, _, _, _, rfl, HG.out, HD.out⟩
 ·have hv' : k.time < v := by omega
  have hR := hR2 hv'
  have hZ3 := sz_time HZ.out v
  have hM := HM.out _ v HT2.out.bel
  clear hR1 hR2 HM
  generalize timeS k v = k3 at hR hZ3 hM
  have HP := Lib.hid hR
  have HZZ := Lib.hid (hZ3.up (show 12 ≤ 14 by omega))
  have HM := Lib.hid hM
  clear hR hZ3 hM
  go_wp2_with fail
  refine HM.out.mono ?_
  rintro e w3 ⟨vh, vm, vi, rfl, hO3⟩
  have HT3 := Lib.hid (HT2.out.later hO3.bel)
  have hs2 := HT2.out.sz
  have HG3 := Lib.hid (fun x0 x1 x2 x3 x4 x5 => hO3.put6 HS.out (show w.heap.size ≤ w.heap.size + 1 by omega) (by omega) x0 x1 x2 x3 x4 x5)
  obtain ⟨A3, c3, rfl, _⟩ := id hO3.sees.held
  obtain ⟨A4, c4, rfl, _⟩ := id hO3.sees.marks
  obtain ⟨A5, c5, rfl, _⟩ := id hO3.sees.inbox
  clear hO3 HT2
  clear b0 b1 b2 b3 b4 b5 g0 g1 g2 g3 g4 g5 r0 r1 r2 r3 r4 r5 f0 f1 f2 f3 f4 f5
  obtain ⟨b0, b1, b2, b3, b4, b5, g0, g1, g2, g3, g4, g5⟩ := res_cells HT3.out.box
  obtain ⟨r0, r1, r2, r3, r4, r5, f0, f1, f2, f3, f4, f5⟩ := res_cells HT3.out.res
  clear HM
  have HC := Lib.hid (put6_blk (V := w3) (a' := .int .i64 k3.id) (b' := .int .i64 k3.time) (c' := .int .i64 k3.next) (d' := .slice A3 k3.held.length c3) (e' := .slice A4 k3.marks.length c4) (f' := .slice A5 k3.inbox.length c5) HT3.out.res)
  have HD := Lib.hid (put6_below (V := w3) (B := w.heap.size) (R := w.heap.size + 1) (by omega) HT3.out.bel (.int .i64 k3.id) (.int .i64 k3.time) (.int .i64 k3.next) (.slice A3 k3.held.length c3) (.slice A4 k3.marks.length c4) (.slice A5 k3.inbox.length c5))
  have HG := Lib.hid (show SeesK (put6 w3 (w.heap.size + 1) (.int .i64 k3.id) (.int .i64 k3.time) (.int .i64 k3.next) (.slice A3 k3.held.length c3) (.slice A4 k3.marks.length c4) (.slice A5 k3.inbox.length c5)) k3 (.slice A3 k3.held.length c3) (.slice A4 k3.marks.length c4) (.slice A5 k3.inbox.length c5) from HG3.out _ _ _ _ _ _)
  go_wp2
  have x0 := HC.out.cell 0
  have x1 := HC.out.cell 1
  have x2 := HC.out.cell 2
  have x3 := HC.out.cell 3
  have x4 := HC.out.cell 4
  have x5 := HC.out.cell 5
  refine bodyPost_ret (v := .tuple #[kpV (k3).id (k3).time (k3).next (.slice A3 k3.held.length c3) (.slice A4 k3.marks.length c4) (.slice A5 k3.inbox.length c5), .bool true]) (by simp [results, Tryz.results81, go_sem, x0, x1, x2, x3, x4, x5]) rfl ⟨k3, true, HP.out, HZZ.out, _, _, _, rfl, HG.out, HD.out⟩
set_option maxRecDepth 100000 in
set_option maxHeartbeats 4000000 in
theorem rec_next (w : World) (k : Kp) (a b c : Value) (x : ByteArray) (hs : x.size ≤ 1048576) (h : SeesK w k a b c) (ho : okK k = true) (hw : (word x.data.toList).1 = kwNext) :
  Calls Tryz.prog 81 #[kpV k.id k.time k.next a b c, .string x] w (RecPost w k x.data.toList) := by
 have HZ := Lib.hid (sz_ok ho)
 have HS := Lib.hid h
 have HW := Lib.hid (fun W => sword_any x hs W)
 unfold WordPost at HW
 have hrl : (str (word x.data.toList).2).size ≤ 1048576 := by rw [str_size]; have := (word_len x.data.toList).2; rw [← Lib.size_eq] at this; omega
 have HR := Lib.hid (fun v (hr : Reads (word x.data.toList).2 v) => (⟨fun hv => rec_next_no hw hr hv, fun hv => rec_next_yes ho hw hr hv⟩ : (v ≤ k.next → RecP k x.data.toList k false) ∧ (k.next < v → RecP k x.data.toList { k with next := v } true)))
 have HN := Lib.hid (fun W => dec3x_any (str (word x.data.toList).2) (by omega) W)
 rw [data_str] at HN
 generalize (word x.data.toList).2 = rest at HW HR HN hrl
 have hkw : str kwNext = ⟨#[110, 101, 120, 116]⟩ := rfl
 rw [hw, hkw] at HW
 clear hkw
 obtain ⟨Aa, ca, rfl, _⟩ := h.held
 obtain ⟨Ab, cb, rfl, _⟩ := h.marks
 obtain ⟨Ac, cc, rfl, _⟩ := h.inbox
 have HT := Lib.hid (CB.new w k (.slice Aa k.held.length ca) (.slice Ab k.marks.length cb) (.slice Ac k.inbox.length cc))
 clear h hw ho hrl
 go_enter Tryz.func81, Tryz.ntmps81
 go_upto_region 1 with (fail)
 generalize (w.alloc (.cells #[.int .i64 k.id, .int .i64 k.time, .int .i64 k.next, .slice Aa k.held.length ca, .slice Ab k.marks.length cb, .slice Ac k.inbox.length cc] 39)).alloc (.cells #[.int .i64 0, .int .i64 0, .int .i64 0, .slice none 0 0, .slice none 0 0, .slice none 0 0] 39) = V at HT ⊢
 go_wp2_with fail
 refine (HW.out _).mono ?_
 rintro e w1 ⟨rfl, hB1⟩
 have HT1 := Lib.hid (HT.out.later hB1)
 clear HT hB1 HW
 go_wp2_with fail
 refine (HN.out _).mono ?_
 rintro e w2 ⟨v, rfl, hrd, hB2⟩
 have HT2 := Lib.hid (HT1.out.later hB2)
 obtain ⟨hR1, hR2⟩ := HR.out v hrd
 clear hB2 HT1 HR hrd HN
 obtain ⟨b0, b1, b2, b3, b4, b5, g0, g1, g2, g3, g4, g5⟩ := res_cells HT2.out.box
 obtain ⟨r0, r1, r2, r3, r4, r5, f0, f1, f2, f3, f4, f5⟩ := res_cells HT2.out.res
 by_cases hv : v ≤ k.next
 ·have HP := Lib.hid (hR1 hv)
  clear hR1 hR2
  have HZZ := Lib.hid (HZ.out.up (show 12 ≤ 14 by omega))
  have HC := Lib.hid (put6_blk (V := w2) (a' := .int .i64 k.id) (b' := .int .i64 k.time) (c' := .int .i64 k.next) (d' := .slice Aa k.held.length ca) (e' := .slice Ab k.marks.length cb) (f' := .slice Ac k.inbox.length cc) HT2.out.res)
  have HD := Lib.hid (put6_below (V := w2) (B := w.heap.size) (R := w.heap.size + 1) (by omega) HT2.out.bel (.int .i64 k.id) (.int .i64 k.time) (.int .i64 k.next) (.slice Aa k.held.length ca) (.slice Ab k.marks.length cb) (.slice Ac k.inbox.length cc))
  have HG := Lib.hid (show SeesK (put6 w2 (w.heap.size + 1) (.int .i64 k.id) (.int .i64 k.time) (.int .i64 k.next) (.slice Aa k.held.length ca) (.slice Ab k.marks.length cb) (.slice Ac k.inbox.length cc)) k (.slice Aa k.held.length ca) (.slice Ab k.marks.length cb) (.slice Ac k.inbox.length cc) from HS.out.later HD.out)
  go_wp2
  have x0 := HC.out.cell 0
  have x1 := HC.out.cell 1
  have x2 := HC.out.cell 2
  have x3 := HC.out.cell 3
  have x4 := HC.out.cell 4
  have x5 := HC.out.cell 5
  refine bodyPost_ret (v := .tuple #[kpV (k).id (k).time (k).next (.slice Aa k.held.length ca) (.slice Ab k.marks.length cb) (.slice Ac k.inbox.length cc), .bool false]) (by simp [results, Tryz.results81, go_sem, x0, x1, x2, x3, x4, x5]) rfl ⟨k, false, HP.out, HZZ.out, _, _, _, rfl, HG.out, HD.out⟩
 ·have hv' : k.next < v := by omega
  have HP := Lib.hid (hR2 hv')
  have HZZ := Lib.hid ((sz_next HZ.out v).up (show 12 ≤ 14 by omega))
  have HT3 := Lib.hid (HT2.out.put2 v)
  have HS3 := Lib.hid (fun V (hV : Below w.heap.size w V) => show SeesK V { k with next := v } (.slice Aa k.held.length ca) (.slice Ab k.marks.length cb) (.slice Ac k.inbox.length cc) from ⟨HS.out.held.later hV, HS.out.marks.later hV, HS.out.inbox.later hV⟩)
  clear hR1 hR2
  go_upto_region 24 with (fail)
  generalize w2.setCell ⟨w.heap.size, 2, none⟩ (.int .i64 v) = w3 at HT3 ⊢
  clear b0 b1 b2 b3 b4 b5 g0 g1 g2 g3 g4 g5 r0 r1 r2 r3 r4 r5 f0 f1 f2 f3 f4 f5
  obtain ⟨b0, b1, b2, b3, b4, b5, g0, g1, g2, g3, g4, g5⟩ := res_cells HT3.out.box
  obtain ⟨r0, r1, r2, r3, r4, r5, f0, f1, f2, f3, f4, f5⟩ := res_cells HT3.out.res
  have HC := Lib.hid (put6_blk (V := w3) (a' := .int .i64 k.id) (b' := .int .i64 k.time) (c' := .int .i64 v) (d' := .slice Aa k.held.length ca) (e' := .slice Ab k.marks.length cb) (f' := .slice Ac k.inbox.length cc) HT3.out.res)
  have HD := Lib.hid (put6_below (V := w3) (B := w.heap.size) (R := w.heap.size + 1) (by omega) HT3.out.bel (.int .i64 k.id) (.int .i64 k.time) (.int .i64 v) (.slice Aa k.held.length ca) (.slice Ab k.marks.length cb) (.slice Ac k.inbox.length cc))
  have HG := Lib.hid (show SeesK (put6 w3 (w.heap.size + 1) (.int .i64 k.id) (.int .i64 k.time) (.int .i64 v) (.slice Aa k.held.length ca) (.slice Ab k.marks.length cb) (.slice Ac k.inbox.length cc)) { k with next := v } (.slice Aa k.held.length ca) (.slice Ab k.marks.length cb) (.slice Ac k.inbox.length cc) from HS3.out _ HD.out)
  go_wp2
  have x0 := HC.out.cell 0
  have x1 := HC.out.cell 1
  have x2 := HC.out.cell 2
  have x3 := HC.out.cell 3
  have x4 := HC.out.cell 4
  have x5 := HC.out.cell 5
  refine bodyPost_ret (v := .tuple #[kpV ({ k with next := v }).id ({ k with next := v }).time ({ k with next := v }).next (.slice Aa k.held.length ca) (.slice Ab k.marks.length cb) (.slice Ac k.inbox.length cc), .bool true]) (by simp [results, Tryz.results81, go_sem, x0, x1, x2, x3, x4, x5]) rfl ⟨{ k with next := v }, true, HP.out, HZZ.out, _, _, _, rfl, HG.out, HD.out⟩
end Go.Proofs.YtckicpnnclbkpaaGreatDoor.kp

namespace Go.Proofs.YtckicpnnclbkpaaGreatDoor.kp
open Go.ChangeShapes Go.WideShapes Go.ChangeAt Go.RowKit
open wd ow rl ok nb dc
set_option maxRecDepth 100000 in
set_option maxHeartbeats 4000000 in
theorem rec_own (w : World) (k : Kp) (a b c : Value) (x : ByteArray) (hs : x.size ≤ 1048576) (h : SeesK w k a b c) (ho : okK k = true) (hw : (word x.data.toList).1 = kwOwn) :
  Calls Tryz.prog 81 #[kpV k.id k.time k.next a b c, .string x] w (RecPost w k x.data.toList) := by
 have HZ := Lib.hid (sz_ok ho)
 have HS := Lib.hid h
 have HW := Lib.hid (fun W => sword_any x hs W)
 unfold WordPost at HW
 have hrl : (str (word x.data.toList).2).size ≤ 1048576 := by rw [str_size]; have := (word_len x.data.toList).2; rw [← Lib.size_eq] at this; omega
 have HR := Lib.hid (fun (bb : Bool) (y : Nt) (hr : RD (str (word x.data.toList).2) bb y.f y.n y.t y.u y.s) => (⟨fun hv => rec_own_no hw hr hv, fun hb h1 h2 => rec_own_yes hw (hb ▸ hr) h1 h2⟩ : (bb = false ∨ y.f ≠ k.id ∨ y.n ≠ k.next → RecP k x.data.toList k false) ∧ (bb = true → y.f = k.id → y.n = k.next → RecP k x.data.toList (takeS { k with next := k.next + 1 } y) (takeB { k with next := k.next + 1 } y))))
 obtain ⟨_, _, hnx, _⟩ := okK_parts ho
 have hnx := inB_iff.1 hnx
 have HN := Lib.hid (fun W => sread_any (str (word x.data.toList).2) hrl W)
 generalize (word x.data.toList).2 = rest at HW HR HN hrl
 have hkw : str kwOwn = ⟨#[111, 119, 110]⟩ := rfl
 rw [hw, hkw] at HW
 clear hkw
 obtain ⟨Aa, ca, rfl, _⟩ := h.held
 obtain ⟨Ab, cb, rfl, _⟩ := h.marks
 obtain ⟨Ac, cc, rfl, _⟩ := h.inbox
 have HT := Lib.hid (CB.new w k (.slice Aa k.held.length ca) (.slice Ab k.marks.length cb) (.slice Ac k.inbox.length cc))
 clear h hw ho hrl
 go_enter Tryz.func81, Tryz.ntmps81
 go_upto_region 1 with (fail)
 generalize (w.alloc (.cells #[.int .i64 k.id, .int .i64 k.time, .int .i64 k.next, .slice Aa k.held.length ca, .slice Ab k.marks.length cb, .slice Ac k.inbox.length cc] 39)).alloc (.cells #[.int .i64 0, .int .i64 0, .int .i64 0, .slice none 0 0, .slice none 0 0, .slice none 0 0] 39) = V at HT ⊢
 go_wp2_with fail
 refine (HW.out _).mono ?_
 rintro e w1 ⟨rfl, hB1⟩
 have HT1 := Lib.hid (HT.out.later hB1)
 clear HT hB1 HW
 go_wp2_with fail
 refine (HN.out _).mono ?_
 rintro e w2 ⟨bb, f, n, t, u, s, rfl, hrd, hB2⟩
 obtain ⟨y, hy⟩ : ∃ y : Nt, y = ⟨f, n, t, u, s⟩ := ⟨_, rfl⟩
 have e1 : f = y.f := by rw [hy]
 have e2 : n = y.n := by rw [hy]
 have e3 : t = y.t := by rw [hy]
 have e4 : u = y.u := by rw [hy]
 have e5 : s = y.s := by rw [hy]
 subst e1; subst e2; subst e3; subst e4; subst e5
 clear hy
 have HT2 := Lib.hid (HT1.out.later hB2)
 have hR := HR.out bb y hrd
 have HR2 := Lib.hid hR
 have hNt := HT2.out.sz
 clear hB2 HT1 HR hR HN
 have HTa := Lib.hid (HT2.out.later ((Below.refl w2.heap.size w2).alloc (Nat.le_refl _) (.cells #[.int .i64 y.f, .int .i64 y.n, .int .i64 y.t, .int .i64 y.u, .string y.s] 105)))
 have HNa := Lib.hid (Blk.new w2 105 #[.int .i64 y.f, .int .i64 y.n, .int .i64 y.t, .int .i64 y.u, .string y.s])
 have HRd := Lib.hid hrd
 clear hrd HT2
 unfold note
 go_upto_region 10 with (fail)
 generalize w2.alloc (.cells #[.int .i64 y.f, .int .i64 y.n, .int .i64 y.t, .int .i64 y.u, .string y.s] 105) = W at HTa HNa ⊢
 generalize w2.heap.size = NB at HNa hNt ⊢
 obtain ⟨n0, n1, n2, n3, n4⟩ := nt_cells HNa.out
 obtain ⟨b0, b1, b2, b3, b4, b5, g0, g1, g2, g3, g4, g5⟩ := res_cells HTa.out.box
 obtain ⟨r0, r1, r2, r3, r4, r5, f0, f1, f2, f3, f4, f5⟩ := res_cells HTa.out.res
 cases bb with
 | false =>
  have HP := Lib.hid (HR2.out.1 (.inl rfl))
  clear n0 n1 n2 n3 n4 HNa
  have HZZ := Lib.hid (HZ.out.up (show 12 ≤ 14 by omega))
  have HC := Lib.hid (put6_blk (V := W) (a' := .int .i64 k.id) (b' := .int .i64 k.time) (c' := .int .i64 k.next) (d' := .slice Aa k.held.length ca) (e' := .slice Ab k.marks.length cb) (f' := .slice Ac k.inbox.length cc) HTa.out.res)
  have HD := Lib.hid (put6_below (V := W) (B := w.heap.size) (R := w.heap.size + 1) (by omega) HTa.out.bel (.int .i64 k.id) (.int .i64 k.time) (.int .i64 k.next) (.slice Aa k.held.length ca) (.slice Ab k.marks.length cb) (.slice Ac k.inbox.length cc))
  have HG := Lib.hid (show SeesK (put6 W (w.heap.size + 1) (.int .i64 k.id) (.int .i64 k.time) (.int .i64 k.next) (.slice Aa k.held.length ca) (.slice Ab k.marks.length cb) (.slice Ac k.inbox.length cc)) k (.slice Aa k.held.length ca) (.slice Ab k.marks.length cb) (.slice Ac k.inbox.length cc) from HS.out.later HD.out)
  go_wp2
  have x0 := HC.out.cell 0
  have x1 := HC.out.cell 1
  have x2 := HC.out.cell 2
  have x3 := HC.out.cell 3
  have x4 := HC.out.cell 4
  have x5 := HC.out.cell 5
  refine bodyPost_ret (v := .tuple #[kpV (k).id (k).time (k).next (.slice Aa k.held.length ca) (.slice Ab k.marks.length cb) (.slice Ac k.inbox.length cc), .bool false]) (by simp [results, Tryz.results81, go_sem, x0, x1, x2, x3, x4, x5]) rfl ⟨k, false, HP.out, HZZ.out, _, _, _, rfl, HG.out, HD.out⟩
 | true =>
  by_cases h1 : y.f = k.id
  ·have k1 : (y.f != k.id) = false := by simpa using h1
   by_cases h2 : y.n = k.next
   ·have k2 : (y.n != k.next) = false := by simpa using h2
    have hR := HR2.out.2 rfl h1 h2
    have hys' : y.s.size ≤ 1048576 := okNt_size (rd_true HRd.out).1
    have hys : y.s.size ≤ maxLen := by unfold maxLen; omega
    have hwr : IntKind.i64.wrap (k.next + 1) = k.next + 1 := by rw [IntKind.wrap_i64]; omega
    have HTb := Lib.hid (HTa.out.put2 (k.next + 1))
    have HNb := Lib.hid (HNa.out.far (p := ⟨w.heap.size, 2, none⟩) (by show NB ≠ w.heap.size; omega) (.int .i64 (k.next + 1)))
    clear h1 h2 HR2 HNa HTa
    go_upto_region 13 with (fail)
    generalize W.setCell ⟨w.heap.size, 2, none⟩ (.int .i64 (k.next + 1)) = W2 at HTb HNb ⊢
    clear n0 n1 n2 n3 n4 k1 k2 hwr
    obtain ⟨n0, n1, n2, n3, n4⟩ := nt_cells HNb.out
    clear b0 b1 b2 b3 b4 b5 g0 g1 g2 g3 g4 g5 r0 r1 r2 r3 r4 r5 f0 f1 f2 f3 f4 f5
    obtain ⟨b0, b1, b2, b3, b4, b5, g0, g1, g2, g3, g4, g5⟩ := res_cells HTb.out.box
    obtain ⟨r0, r1, r2, r3, r4, r5, f0, f1, f2, f3, f4, f5⟩ := res_cells HTb.out.res
    have hM : Calls Tryz.prog 112 #[kpV k.id k.time (k.next + 1) (.slice Aa k.held.length ca) (.slice Ab k.marks.length cb) (.slice Ac k.inbox.length cc), note y.f y.n y.t y.u y.s] W2 (ResK W2 (takeS { k with next := k.next + 1 } y) (takeB { k with next := k.next + 1 } y) (.slice Aa k.held.length ca) (.slice Ab k.marks.length cb) (.slice Ac k.inbox.length cc)) := take_any W2 { k with next := k.next + 1 } _ _ _ y ⟨HS.out.held.later HTb.out.bel, HS.out.marks.later HTb.out.bel, HS.out.inbox.later HTb.out.bel⟩ (HZ.out.few (by omega)) hys
    have hZ3 := sz_take (k := { k with next := k.next + 1 }) (x := y) (n := 12) ⟨HZ.out.h, HZ.out.m, HZ.out.i, HZ.out.ht, HZ.out.it⟩ hys'
    generalize takeS { k with next := k.next + 1 } y = k3 at hR hZ3 hM
    generalize takeB { k with next := k.next + 1 } y = bt at hR hM
    have HP := Lib.hid hR
    have HZZ := Lib.hid (hZ3.up (show 12 + 1 ≤ 14 by omega))
    unfold ResK note at hM
    have HM := Lib.hid hM
    clear hR hZ3 hM hys hys'
    go_wp2_with fail
    refine HM.out.mono ?_
    rintro e w3 ⟨vh, vm, vi, rfl, hO3⟩
    have HT3 := Lib.hid (HTb.out.later hO3.bel)
    have hs2 := HTb.out.sz
    have HG3 := Lib.hid (fun x0 x1 x2 x3 x4 x5 => hO3.put6 HS.out (show w.heap.size ≤ w.heap.size + 1 by omega) (by omega) x0 x1 x2 x3 x4 x5)
    obtain ⟨A3, c3, rfl, _⟩ := id hO3.sees.held
    obtain ⟨A4, c4, rfl, _⟩ := id hO3.sees.marks
    obtain ⟨A5, c5, rfl, _⟩ := id hO3.sees.inbox
    clear hO3 HTb
    clear b0 b1 b2 b3 b4 b5 g0 g1 g2 g3 g4 g5 r0 r1 r2 r3 r4 r5 f0 f1 f2 f3 f4 f5
    obtain ⟨b0, b1, b2, b3, b4, b5, g0, g1, g2, g3, g4, g5⟩ := res_cells HT3.out.box
    obtain ⟨r0, r1, r2, r3, r4, r5, f0, f1, f2, f3, f4, f5⟩ := res_cells HT3.out.res
    clear HM HNb n0 n1 n2 n3 n4
    have HC := Lib.hid (put6_blk (V := w3) (a' := .int .i64 k3.id) (b' := .int .i64 k3.time) (c' := .int .i64 k3.next) (d' := .slice A3 k3.held.length c3) (e' := .slice A4 k3.marks.length c4) (f' := .slice A5 k3.inbox.length c5) HT3.out.res)
    have HD := Lib.hid (put6_below (V := w3) (B := w.heap.size) (R := w.heap.size + 1) (by omega) HT3.out.bel (.int .i64 k3.id) (.int .i64 k3.time) (.int .i64 k3.next) (.slice A3 k3.held.length c3) (.slice A4 k3.marks.length c4) (.slice A5 k3.inbox.length c5))
    have HG := Lib.hid (show SeesK (put6 w3 (w.heap.size + 1) (.int .i64 k3.id) (.int .i64 k3.time) (.int .i64 k3.next) (.slice A3 k3.held.length c3) (.slice A4 k3.marks.length c4) (.slice A5 k3.inbox.length c5)) k3 (.slice A3 k3.held.length c3) (.slice A4 k3.marks.length c4) (.slice A5 k3.inbox.length c5) from HG3.out _ _ _ _ _ _)
    go_wp2
    have x0 := HC.out.cell 0
    have x1 := HC.out.cell 1
    have x2 := HC.out.cell 2
    have x3 := HC.out.cell 3
    have x4 := HC.out.cell 4
    have x5 := HC.out.cell 5
    refine bodyPost_ret (v := .tuple #[kpV (k3).id (k3).time (k3).next (.slice A3 k3.held.length c3) (.slice A4 k3.marks.length c4) (.slice A5 k3.inbox.length c5), .bool bt]) (by simp [results, Tryz.results81, go_sem, x0, x1, x2, x3, x4, x5]) rfl ⟨k3, bt, HP.out, HZZ.out, _, _, _, rfl, HG.out, HD.out⟩
   ·have k2 : (y.n != k.next) = true := by simpa using h2
    have HP := Lib.hid (HR2.out.1 (.inr (.inr h2)))
    clear h1 h2 HR2
    have HZZ := Lib.hid (HZ.out.up (show 12 ≤ 14 by omega))
    have HC := Lib.hid (put6_blk (V := W) (a' := .int .i64 k.id) (b' := .int .i64 k.time) (c' := .int .i64 k.next) (d' := .slice Aa k.held.length ca) (e' := .slice Ab k.marks.length cb) (f' := .slice Ac k.inbox.length cc) HTa.out.res)
    have HD := Lib.hid (put6_below (V := W) (B := w.heap.size) (R := w.heap.size + 1) (by omega) HTa.out.bel (.int .i64 k.id) (.int .i64 k.time) (.int .i64 k.next) (.slice Aa k.held.length ca) (.slice Ab k.marks.length cb) (.slice Ac k.inbox.length cc))
    have HG := Lib.hid (show SeesK (put6 W (w.heap.size + 1) (.int .i64 k.id) (.int .i64 k.time) (.int .i64 k.next) (.slice Aa k.held.length ca) (.slice Ab k.marks.length cb) (.slice Ac k.inbox.length cc)) k (.slice Aa k.held.length ca) (.slice Ab k.marks.length cb) (.slice Ac k.inbox.length cc) from HS.out.later HD.out)
    go_wp2
    have x0 := HC.out.cell 0
    have x1 := HC.out.cell 1
    have x2 := HC.out.cell 2
    have x3 := HC.out.cell 3
    have x4 := HC.out.cell 4
    have x5 := HC.out.cell 5
    refine bodyPost_ret (v := .tuple #[kpV (k).id (k).time (k).next (.slice Aa k.held.length ca) (.slice Ab k.marks.length cb) (.slice Ac k.inbox.length cc), .bool false]) (by simp [results, Tryz.results81, go_sem, x0, x1, x2, x3, x4, x5]) rfl ⟨k, false, HP.out, HZZ.out, _, _, _, rfl, HG.out, HD.out⟩
  ·have k1 : (y.f != k.id) = true := by simpa using h1
   have HP := Lib.hid (HR2.out.1 (.inr (.inl h1)))
   clear h1 HR2
   have HZZ := Lib.hid (HZ.out.up (show 12 ≤ 14 by omega))
   have HC := Lib.hid (put6_blk (V := W) (a' := .int .i64 k.id) (b' := .int .i64 k.time) (c' := .int .i64 k.next) (d' := .slice Aa k.held.length ca) (e' := .slice Ab k.marks.length cb) (f' := .slice Ac k.inbox.length cc) HTa.out.res)
   have HD := Lib.hid (put6_below (V := W) (B := w.heap.size) (R := w.heap.size + 1) (by omega) HTa.out.bel (.int .i64 k.id) (.int .i64 k.time) (.int .i64 k.next) (.slice Aa k.held.length ca) (.slice Ab k.marks.length cb) (.slice Ac k.inbox.length cc))
   have HG := Lib.hid (show SeesK (put6 W (w.heap.size + 1) (.int .i64 k.id) (.int .i64 k.time) (.int .i64 k.next) (.slice Aa k.held.length ca) (.slice Ab k.marks.length cb) (.slice Ac k.inbox.length cc)) k (.slice Aa k.held.length ca) (.slice Ab k.marks.length cb) (.slice Ac k.inbox.length cc) from HS.out.later HD.out)
   go_wp2
   have x0 := HC.out.cell 0
   have x1 := HC.out.cell 1
   have x2 := HC.out.cell 2
   have x3 := HC.out.cell 3
   have x4 := HC.out.cell 4
   have x5 := HC.out.cell 5
   refine bodyPost_ret (v := .tuple #[kpV (k).id (k).time (k).next (.slice Aa k.held.length ca) (.slice Ab k.marks.length cb) (.slice Ac k.inbox.length cc), .bool false]) (by simp [results, Tryz.results81, go_sem, x0, x1, x2, x3, x4, x5]) rfl ⟨k, false, HP.out, HZZ.out, _, _, _, rfl, HG.out, HD.out⟩
set_option maxRecDepth 100000 in
set_option maxHeartbeats 4000000 in
theorem rec_take (w : World) (k : Kp) (a b c : Value) (x : ByteArray) (hs : x.size ≤ 1048576) (h : SeesK w k a b c) (ho : okK k = true) (hw : (word x.data.toList).1 = kwTake) :
  Calls Tryz.prog 81 #[kpV k.id k.time k.next a b c, .string x] w (RecPost w k x.data.toList) := by
 have HZ := Lib.hid (sz_ok ho)
 have HS := Lib.hid h
 have HW := Lib.hid (fun W => sword_any x hs W)
 unfold WordPost at HW
 have hrl : (str (word x.data.toList).2).size ≤ 1048576 := by rw [str_size]; have := (word_len x.data.toList).2; rw [← Lib.size_eq] at this; omega
 have HR := Lib.hid (fun (bb : Bool) (y : Nt) (hr : RD (str (word x.data.toList).2) bb y.f y.n y.t y.u y.s) => (⟨fun hv => rec_take_no hw hr hv, fun hb h1 => rec_take_yes hw (hb ▸ hr) h1⟩ : (bb = false ∨ y.f = k.id → RecP k x.data.toList k false) ∧ (bb = true → y.f ≠ k.id → RecP k x.data.toList (takeS k y) (takeB k y))))
 have HN := Lib.hid (fun W => sread_any (str (word x.data.toList).2) hrl W)
 generalize (word x.data.toList).2 = rest at HW HR HN hrl
 have hkw : str kwTake = ⟨#[116, 97, 107, 101]⟩ := rfl
 rw [hw, hkw] at HW
 clear hkw
 obtain ⟨Aa, ca, rfl, _⟩ := h.held
 obtain ⟨Ab, cb, rfl, _⟩ := h.marks
 obtain ⟨Ac, cc, rfl, _⟩ := h.inbox
 have HT := Lib.hid (CB.new w k (.slice Aa k.held.length ca) (.slice Ab k.marks.length cb) (.slice Ac k.inbox.length cc))
 clear h hw ho hrl
 go_enter Tryz.func81, Tryz.ntmps81
 go_upto_region 1 with (fail)
 generalize (w.alloc (.cells #[.int .i64 k.id, .int .i64 k.time, .int .i64 k.next, .slice Aa k.held.length ca, .slice Ab k.marks.length cb, .slice Ac k.inbox.length cc] 39)).alloc (.cells #[.int .i64 0, .int .i64 0, .int .i64 0, .slice none 0 0, .slice none 0 0, .slice none 0 0] 39) = V at HT ⊢
 go_wp2_with fail
 refine (HW.out _).mono ?_
 rintro e w1 ⟨rfl, hB1⟩
 have HT1 := Lib.hid (HT.out.later hB1)
 clear HT hB1 HW
 go_wp2_with fail
 refine (HN.out _).mono ?_
 rintro e w2 ⟨bb, f, n, t, u, s, rfl, hrd, hB2⟩
 obtain ⟨y, hy⟩ : ∃ y : Nt, y = ⟨f, n, t, u, s⟩ := ⟨_, rfl⟩
 have e1 : f = y.f := by rw [hy]
 have e2 : n = y.n := by rw [hy]
 have e3 : t = y.t := by rw [hy]
 have e4 : u = y.u := by rw [hy]
 have e5 : s = y.s := by rw [hy]
 subst e1; subst e2; subst e3; subst e4; subst e5
 clear hy
 have HT2 := Lib.hid (HT1.out.later hB2)
 have hR := HR.out bb y hrd
 have HR2 := Lib.hid hR
 have hNt := HT2.out.sz
 clear hB2 HT1 HR hR HN
 have HTa := Lib.hid (HT2.out.later ((Below.refl w2.heap.size w2).alloc (Nat.le_refl _) (.cells #[.int .i64 y.f, .int .i64 y.n, .int .i64 y.t, .int .i64 y.u, .string y.s] 105)))
 have HNa := Lib.hid (Blk.new w2 105 #[.int .i64 y.f, .int .i64 y.n, .int .i64 y.t, .int .i64 y.u, .string y.s])
 have HRd := Lib.hid hrd
 clear hrd HT2
 unfold note
 go_upto_region 16 with (fail)
 generalize w2.alloc (.cells #[.int .i64 y.f, .int .i64 y.n, .int .i64 y.t, .int .i64 y.u, .string y.s] 105) = W at HTa HNa ⊢
 generalize w2.heap.size = NB at HNa hNt ⊢
 obtain ⟨n0, n1, n2, n3, n4⟩ := nt_cells HNa.out
 obtain ⟨b0, b1, b2, b3, b4, b5, g0, g1, g2, g3, g4, g5⟩ := res_cells HTa.out.box
 obtain ⟨r0, r1, r2, r3, r4, r5, f0, f1, f2, f3, f4, f5⟩ := res_cells HTa.out.res
 cases bb with
 | false =>
  have HP := Lib.hid (HR2.out.1 (.inl rfl))
  clear n0 n1 n2 n3 n4 HNa
  have HZZ := Lib.hid (HZ.out.up (show 12 ≤ 14 by omega))
  have HC := Lib.hid (put6_blk (V := W) (a' := .int .i64 k.id) (b' := .int .i64 k.time) (c' := .int .i64 k.next) (d' := .slice Aa k.held.length ca) (e' := .slice Ab k.marks.length cb) (f' := .slice Ac k.inbox.length cc) HTa.out.res)
  have HD := Lib.hid (put6_below (V := W) (B := w.heap.size) (R := w.heap.size + 1) (by omega) HTa.out.bel (.int .i64 k.id) (.int .i64 k.time) (.int .i64 k.next) (.slice Aa k.held.length ca) (.slice Ab k.marks.length cb) (.slice Ac k.inbox.length cc))
  have HG := Lib.hid (show SeesK (put6 W (w.heap.size + 1) (.int .i64 k.id) (.int .i64 k.time) (.int .i64 k.next) (.slice Aa k.held.length ca) (.slice Ab k.marks.length cb) (.slice Ac k.inbox.length cc)) k (.slice Aa k.held.length ca) (.slice Ab k.marks.length cb) (.slice Ac k.inbox.length cc) from HS.out.later HD.out)
  go_wp2
  have x0 := HC.out.cell 0
  have x1 := HC.out.cell 1
  have x2 := HC.out.cell 2
  have x3 := HC.out.cell 3
  have x4 := HC.out.cell 4
  have x5 := HC.out.cell 5
  refine bodyPost_ret (v := .tuple #[kpV (k).id (k).time (k).next (.slice Aa k.held.length ca) (.slice Ab k.marks.length cb) (.slice Ac k.inbox.length cc), .bool false]) (by simp [results, Tryz.results81, go_sem, x0, x1, x2, x3, x4, x5]) rfl ⟨k, false, HP.out, HZZ.out, _, _, _, rfl, HG.out, HD.out⟩
 | true =>
  by_cases h1 : y.f = k.id
  ·have k1 : (y.f == k.id) = true := by simpa using h1
   have HP := Lib.hid (HR2.out.1 (.inr h1))
   clear h1 HR2
   have HZZ := Lib.hid (HZ.out.up (show 12 ≤ 14 by omega))
   have HC := Lib.hid (put6_blk (V := W) (a' := .int .i64 k.id) (b' := .int .i64 k.time) (c' := .int .i64 k.next) (d' := .slice Aa k.held.length ca) (e' := .slice Ab k.marks.length cb) (f' := .slice Ac k.inbox.length cc) HTa.out.res)
   have HD := Lib.hid (put6_below (V := W) (B := w.heap.size) (R := w.heap.size + 1) (by omega) HTa.out.bel (.int .i64 k.id) (.int .i64 k.time) (.int .i64 k.next) (.slice Aa k.held.length ca) (.slice Ab k.marks.length cb) (.slice Ac k.inbox.length cc))
   have HG := Lib.hid (show SeesK (put6 W (w.heap.size + 1) (.int .i64 k.id) (.int .i64 k.time) (.int .i64 k.next) (.slice Aa k.held.length ca) (.slice Ab k.marks.length cb) (.slice Ac k.inbox.length cc)) k (.slice Aa k.held.length ca) (.slice Ab k.marks.length cb) (.slice Ac k.inbox.length cc) from HS.out.later HD.out)
   go_wp2
   have x0 := HC.out.cell 0
   have x1 := HC.out.cell 1
   have x2 := HC.out.cell 2
   have x3 := HC.out.cell 3
   have x4 := HC.out.cell 4
   have x5 := HC.out.cell 5
   refine bodyPost_ret (v := .tuple #[kpV (k).id (k).time (k).next (.slice Aa k.held.length ca) (.slice Ab k.marks.length cb) (.slice Ac k.inbox.length cc), .bool false]) (by simp [results, Tryz.results81, go_sem, x0, x1, x2, x3, x4, x5]) rfl ⟨k, false, HP.out, HZZ.out, _, _, _, rfl, HG.out, HD.out⟩
  ·have k1 : (y.f == k.id) = false := by simpa using h1
   have hR := HR2.out.2 rfl h1
   have hys' : y.s.size ≤ 1048576 := okNt_size (rd_true HRd.out).1
   have hys : y.s.size ≤ maxLen := by unfold maxLen; omega
   clear h1 HR2
   have hM : Calls Tryz.prog 112 #[kpV k.id k.time k.next (.slice Aa k.held.length ca) (.slice Ab k.marks.length cb) (.slice Ac k.inbox.length cc), note y.f y.n y.t y.u y.s] W (ResK W (takeS k y) (takeB k y) (.slice Aa k.held.length ca) (.slice Ab k.marks.length cb) (.slice Ac k.inbox.length cc)) := take_any W k _ _ _ y ⟨HS.out.held.later HTa.out.bel, HS.out.marks.later HTa.out.bel, HS.out.inbox.later HTa.out.bel⟩ (HZ.out.few (by omega)) hys
   have hZ3 := sz_take (k := k) (x := y) (n := 12) ⟨HZ.out.h, HZ.out.m, HZ.out.i, HZ.out.ht, HZ.out.it⟩ hys'
   generalize takeS k y = k3 at hR hZ3 hM
   generalize takeB k y = bt at hR hM
   have HP := Lib.hid hR
   have HZZ := Lib.hid (hZ3.up (show 12 + 1 ≤ 14 by omega))
   unfold ResK note at hM
   have HM := Lib.hid hM
   clear hR hZ3 hM hys hys'
   go_wp2_with fail
   refine HM.out.mono ?_
   rintro e w3 ⟨vh, vm, vi, rfl, hO3⟩
   have HT3 := Lib.hid (HTa.out.later hO3.bel)
   have hs2 := HTa.out.sz
   have HG3 := Lib.hid (fun x0 x1 x2 x3 x4 x5 => hO3.put6 HS.out (show w.heap.size ≤ w.heap.size + 1 by omega) (by omega) x0 x1 x2 x3 x4 x5)
   obtain ⟨A3, c3, rfl, _⟩ := id hO3.sees.held
   obtain ⟨A4, c4, rfl, _⟩ := id hO3.sees.marks
   obtain ⟨A5, c5, rfl, _⟩ := id hO3.sees.inbox
   clear hO3 HTa
   clear b0 b1 b2 b3 b4 b5 g0 g1 g2 g3 g4 g5 r0 r1 r2 r3 r4 r5 f0 f1 f2 f3 f4 f5
   obtain ⟨b0, b1, b2, b3, b4, b5, g0, g1, g2, g3, g4, g5⟩ := res_cells HT3.out.box
   obtain ⟨r0, r1, r2, r3, r4, r5, f0, f1, f2, f3, f4, f5⟩ := res_cells HT3.out.res
   clear HM HNa n0 n1 n2 n3 n4 k1
   have HC := Lib.hid (put6_blk (V := w3) (a' := .int .i64 k3.id) (b' := .int .i64 k3.time) (c' := .int .i64 k3.next) (d' := .slice A3 k3.held.length c3) (e' := .slice A4 k3.marks.length c4) (f' := .slice A5 k3.inbox.length c5) HT3.out.res)
   have HD := Lib.hid (put6_below (V := w3) (B := w.heap.size) (R := w.heap.size + 1) (by omega) HT3.out.bel (.int .i64 k3.id) (.int .i64 k3.time) (.int .i64 k3.next) (.slice A3 k3.held.length c3) (.slice A4 k3.marks.length c4) (.slice A5 k3.inbox.length c5))
   have HG := Lib.hid (show SeesK (put6 w3 (w.heap.size + 1) (.int .i64 k3.id) (.int .i64 k3.time) (.int .i64 k3.next) (.slice A3 k3.held.length c3) (.slice A4 k3.marks.length c4) (.slice A5 k3.inbox.length c5)) k3 (.slice A3 k3.held.length c3) (.slice A4 k3.marks.length c4) (.slice A5 k3.inbox.length c5) from HG3.out _ _ _ _ _ _)
   go_wp2
   have x0 := HC.out.cell 0
   have x1 := HC.out.cell 1
   have x2 := HC.out.cell 2
   have x3 := HC.out.cell 3
   have x4 := HC.out.cell 4
   have x5 := HC.out.cell 5
   refine bodyPost_ret (v := .tuple #[kpV (k3).id (k3).time (k3).next (.slice A3 k3.held.length c3) (.slice A4 k3.marks.length c4) (.slice A5 k3.inbox.length c5), .bool bt]) (by simp [results, Tryz.results81, go_sem, x0, x1, x2, x3, x4, x5]) rfl ⟨k3, bt, HP.out, HZZ.out, _, _, _, rfl, HG.out, HD.out⟩
end Go.Proofs.YtckicpnnclbkpaaGreatDoor.kp

