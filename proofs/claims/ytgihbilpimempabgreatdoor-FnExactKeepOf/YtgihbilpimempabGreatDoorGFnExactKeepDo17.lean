/-
  Merged texts: SRec1.
-/
import Derived.Test.YtgihbilpimempabGreatDoorGFnExactKeepDo8
import Derived.Test.YtgihbilpimempabGreatDoorGFnExactKeepDo16
import Derived.Deep.RegionHeld3
/-
  Contract of spec.l12Rec: records of time and of the next number.
-/
namespace Go.Proofs.YtgihbilpimempabGreatDoor.kp
open Go.ChangeShapes Go.WideShapes Go.ChangeAt Go.RowKit
open Go.Proofs.YtgihbilpimempabGreatDoor.wd Go.Proofs.YtgihbilpimempabGreatDoor.ow Go.Proofs.YtgihbilpimempabGreatDoor.rl Go.Proofs.YtgihbilpimempabGreatDoor.ok Go.Proofs.YtgihbilpimempabGreatDoor.nb Go.Proofs.YtgihbilpimempabGreatDoor.dc

set_option maxRecDepth 100000 in
set_option maxHeartbeats 4000000 in
theorem rec_time (w : World) (k : Kp) (a b c : Value) (x : ByteArray) (hs : x.size ≤ 1048576) (h : SeesK w k a b c) (ho : okK k = true) (hw : (word x.data.toList).1 = kwTime) :
    Calls Tryz.prog 37 #[kpV k.id k.time k.next a b c, .string x] w (RecPost w k x.data.toList) := by
  have HZ := Lib.hid (sz_ok ho)
  have HS := Lib.hid h
  have HW := Lib.hid (fun W => sword_any x hs W)
  unfold WordPost at HW
  have hrl : (str (word x.data.toList).2).size ≤ 1048576 := by rw [str_size]; have := (word_len x.data.toList).2; rw [← Lib.size_eq] at this; omega
  have HR := Lib.hid (fun v (hr : Reads (word x.data.toList).2 v) => (⟨fun hv => rec_time_no hw hr hv, fun hv => rec_time_yes ho hw hr hv⟩ : (v ≤ k.time → RecP k x.data.toList k false) ∧ (k.time < v → RecP k x.data.toList (timeS k v) true)))
  have HN := Lib.hid (fun W => dec3x_any (str (word x.data.toList).2) (by omega) W)
  rw [data_str] at HN
  generalize (word x.data.toList).2 = rest at HW HR HN hrl
  have hkw : str kwTime = ⟨#[116, 105, 109, 101]⟩ := rfl
  rw [hw, hkw] at HW
  clear hkw
  obtain ⟨Aa, ca, rfl, _⟩ := h.held
  obtain ⟨Ab, cb, rfl, _⟩ := h.marks
  obtain ⟨Ac, cc, rfl, _⟩ := h.inbox
  have HT := Lib.hid (CB.new w k (.slice Aa k.held.length ca) (.slice Ab k.marks.length cb) (.slice Ac k.inbox.length cc))
  have HM := Lib.hid (fun V v (hV : Below w.heap.size w V) => time_any V k _ _ _ v (h.later hV) (HZ.out.few (by omega)))
  unfold RetK at HM
  clear h hw ho hrl
  go_enter Tryz.func37, Tryz.ntmps37
  go_upto_region 1 with (fail)
  generalize (w.alloc (.cells #[.int .i64 k.id, .int .i64 k.time, .int .i64 k.next, .slice Aa k.held.length ca, .slice Ab k.marks.length cb, .slice Ac k.inbox.length cc] 29)).alloc (.cells #[.int .i64 0, .int .i64 0, .int .i64 0, .slice none 0 0, .slice none 0 0, .slice none 0 0] 29) = V at HT ⊢
  go_wp2_with fail
  refine (HW.out _).mono ?_
  rintro e w1 ⟨rfl, hB1⟩
  have HT1 := Lib.hid (HT.out.later hB1)
  clear HT hB1 HW
  go_wp2_with fail
  refine (HN.out _).mono ?_
  rintro e w2 ⟨v, rfl, hrd, hB2⟩
  have HT2 := Lib.hid (HT1.out.later hB2)
  obtain ⟨hR1, hR2⟩ := HR.out v hrd
  clear hB2 HT1 HR hrd HN
  obtain ⟨b0, b1, b2, b3, b4, b5, g0, g1, g2, g3, g4, g5⟩ := res_cells HT2.out.box
  obtain ⟨r0, r1, r2, r3, r4, r5, f0, f1, f2, f3, f4, f5⟩ := res_cells HT2.out.res
  by_cases hv : v ≤ k.time
  · have HP := Lib.hid (hR1 hv)
    clear hR1 hR2 HM
    have HZZ := Lib.hid (HZ.out.up (show 12 ≤ 14 by omega))
    have HC := Lib.hid (put6_blk (V := w2) (a' := .int .i64 k.id) (b' := .int .i64 k.time) (c' := .int .i64 k.next) (d' := .slice Aa k.held.length ca) (e' := .slice Ab k.marks.length cb) (f' := .slice Ac k.inbox.length cc) HT2.out.res)
    have HD := Lib.hid (put6_below (V := w2) (B := w.heap.size) (R := w.heap.size + 1) (by omega) HT2.out.bel (.int .i64 k.id) (.int .i64 k.time) (.int .i64 k.next) (.slice Aa k.held.length ca) (.slice Ab k.marks.length cb) (.slice Ac k.inbox.length cc))
    have HG := Lib.hid (show SeesK (put6 w2 (w.heap.size + 1) (.int .i64 k.id) (.int .i64 k.time) (.int .i64 k.next) (.slice Aa k.held.length ca) (.slice Ab k.marks.length cb) (.slice Ac k.inbox.length cc)) k (.slice Aa k.held.length ca) (.slice Ab k.marks.length cb) (.slice Ac k.inbox.length cc) from HS.out.later HD.out)
    go_wp2
    have x0 := HC.out.cell 0
    have x1 := HC.out.cell 1
    have x2 := HC.out.cell 2
    have x3 := HC.out.cell 3
    have x4 := HC.out.cell 4
    have x5 := HC.out.cell 5
    refine bodyPost_ret (v := .tuple #[kpV (k).id (k).time (k).next (.slice Aa k.held.length ca) (.slice Ab k.marks.length cb) (.slice Ac k.inbox.length cc), .bool false]) (by simp [results, Tryz.results37, go_sem, x0, x1, x2, x3, x4, x5]) rfl ⟨k, false, HP.out, HZZ.out, _, _, _, rfl, HG.out, HD.out⟩

  · have hv' : k.time < v := by omega
    have hR := hR2 hv'
    have hZ3 := sz_time HZ.out v
    have hM := HM.out _ v HT2.out.bel
    clear hR1 hR2 HM
    generalize timeS k v = k3 at hR hZ3 hM
    have HP := Lib.hid hR
    have HZZ := Lib.hid (hZ3.up (show 12 ≤ 14 by omega))
    have HM := Lib.hid hM
    clear hR hZ3 hM
    go_wp2_with fail
    refine HM.out.mono ?_
    rintro e w3 ⟨vh, vm, vi, rfl, hO3⟩
    have HT3 := Lib.hid (HT2.out.later hO3.bel)
    have hs2 := HT2.out.sz
    have HG3 := Lib.hid (fun x0 x1 x2 x3 x4 x5 => hO3.put6 HS.out (show w.heap.size ≤ w.heap.size + 1 by omega) (by omega) x0 x1 x2 x3 x4 x5)
    obtain ⟨A3, c3, rfl, _⟩ := id hO3.sees.held
    obtain ⟨A4, c4, rfl, _⟩ := id hO3.sees.marks
    obtain ⟨A5, c5, rfl, _⟩ := id hO3.sees.inbox
    clear hO3 HT2
    clear b0 b1 b2 b3 b4 b5 g0 g1 g2 g3 g4 g5 r0 r1 r2 r3 r4 r5 f0 f1 f2 f3 f4 f5
    obtain ⟨b0, b1, b2, b3, b4, b5, g0, g1, g2, g3, g4, g5⟩ := res_cells HT3.out.box
    obtain ⟨r0, r1, r2, r3, r4, r5, f0, f1, f2, f3, f4, f5⟩ := res_cells HT3.out.res
    clear HM
    have HC := Lib.hid (put6_blk (V := w3) (a' := .int .i64 k3.id) (b' := .int .i64 k3.time) (c' := .int .i64 k3.next) (d' := .slice A3 k3.held.length c3) (e' := .slice A4 k3.marks.length c4) (f' := .slice A5 k3.inbox.length c5) HT3.out.res)
    have HD := Lib.hid (put6_below (V := w3) (B := w.heap.size) (R := w.heap.size + 1) (by omega) HT3.out.bel (.int .i64 k3.id) (.int .i64 k3.time) (.int .i64 k3.next) (.slice A3 k3.held.length c3) (.slice A4 k3.marks.length c4) (.slice A5 k3.inbox.length c5))
    have HG := Lib.hid (show SeesK (put6 w3 (w.heap.size + 1) (.int .i64 k3.id) (.int .i64 k3.time) (.int .i64 k3.next) (.slice A3 k3.held.length c3) (.slice A4 k3.marks.length c4) (.slice A5 k3.inbox.length c5)) k3 (.slice A3 k3.held.length c3) (.slice A4 k3.marks.length c4) (.slice A5 k3.inbox.length c5) from HG3.out _ _ _ _ _ _)
    go_wp2
    have x0 := HC.out.cell 0
    have x1 := HC.out.cell 1
    have x2 := HC.out.cell 2
    have x3 := HC.out.cell 3
    have x4 := HC.out.cell 4
    have x5 := HC.out.cell 5
    refine bodyPost_ret (v := .tuple #[kpV (k3).id (k3).time (k3).next (.slice A3 k3.held.length c3) (.slice A4 k3.marks.length c4) (.slice A5 k3.inbox.length c5), .bool true]) (by simp [results, Tryz.results37, go_sem, x0, x1, x2, x3, x4, x5]) rfl ⟨k3, true, HP.out, HZZ.out, _, _, _, rfl, HG.out, HD.out⟩

set_option maxRecDepth 100000 in
set_option maxHeartbeats 4000000 in
theorem rec_next (w : World) (k : Kp) (a b c : Value) (x : ByteArray) (hs : x.size ≤ 1048576) (h : SeesK w k a b c) (ho : okK k = true) (hw : (word x.data.toList).1 = kwNext) :
    Calls Tryz.prog 37 #[kpV k.id k.time k.next a b c, .string x] w (RecPost w k x.data.toList) := by
  have HZ := Lib.hid (sz_ok ho)
  have HS := Lib.hid h
  have HW := Lib.hid (fun W => sword_any x hs W)
  unfold WordPost at HW
  have hrl : (str (word x.data.toList).2).size ≤ 1048576 := by rw [str_size]; have := (word_len x.data.toList).2; rw [← Lib.size_eq] at this; omega
  have HR := Lib.hid (fun v (hr : Reads (word x.data.toList).2 v) => (⟨fun hv => rec_next_no hw hr hv, fun hv => rec_next_yes ho hw hr hv⟩ : (v ≤ k.next → RecP k x.data.toList k false) ∧ (k.next < v → RecP k x.data.toList { k with next := v } true)))
  have HN := Lib.hid (fun W => dec3x_any (str (word x.data.toList).2) (by omega) W)
  rw [data_str] at HN
  generalize (word x.data.toList).2 = rest at HW HR HN hrl
  have hkw : str kwNext = ⟨#[110, 101, 120, 116]⟩ := rfl
  rw [hw, hkw] at HW
  clear hkw
  obtain ⟨Aa, ca, rfl, _⟩ := h.held
  obtain ⟨Ab, cb, rfl, _⟩ := h.marks
  obtain ⟨Ac, cc, rfl, _⟩ := h.inbox
  have HT := Lib.hid (CB.new w k (.slice Aa k.held.length ca) (.slice Ab k.marks.length cb) (.slice Ac k.inbox.length cc))
  clear h hw ho hrl
  go_enter Tryz.func37, Tryz.ntmps37
  go_upto_region 1 with (fail)
  generalize (w.alloc (.cells #[.int .i64 k.id, .int .i64 k.time, .int .i64 k.next, .slice Aa k.held.length ca, .slice Ab k.marks.length cb, .slice Ac k.inbox.length cc] 29)).alloc (.cells #[.int .i64 0, .int .i64 0, .int .i64 0, .slice none 0 0, .slice none 0 0, .slice none 0 0] 29) = V at HT ⊢
  go_wp2_with fail
  refine (HW.out _).mono ?_
  rintro e w1 ⟨rfl, hB1⟩
  have HT1 := Lib.hid (HT.out.later hB1)
  clear HT hB1 HW
  go_wp2_with fail
  refine (HN.out _).mono ?_
  rintro e w2 ⟨v, rfl, hrd, hB2⟩
  have HT2 := Lib.hid (HT1.out.later hB2)
  obtain ⟨hR1, hR2⟩ := HR.out v hrd
  clear hB2 HT1 HR hrd HN
  obtain ⟨b0, b1, b2, b3, b4, b5, g0, g1, g2, g3, g4, g5⟩ := res_cells HT2.out.box
  obtain ⟨r0, r1, r2, r3, r4, r5, f0, f1, f2, f3, f4, f5⟩ := res_cells HT2.out.res
  by_cases hv : v ≤ k.next
  · have HP := Lib.hid (hR1 hv)
    clear hR1 hR2
    have HZZ := Lib.hid (HZ.out.up (show 12 ≤ 14 by omega))
    have HC := Lib.hid (put6_blk (V := w2) (a' := .int .i64 k.id) (b' := .int .i64 k.time) (c' := .int .i64 k.next) (d' := .slice Aa k.held.length ca) (e' := .slice Ab k.marks.length cb) (f' := .slice Ac k.inbox.length cc) HT2.out.res)
    have HD := Lib.hid (put6_below (V := w2) (B := w.heap.size) (R := w.heap.size + 1) (by omega) HT2.out.bel (.int .i64 k.id) (.int .i64 k.time) (.int .i64 k.next) (.slice Aa k.held.length ca) (.slice Ab k.marks.length cb) (.slice Ac k.inbox.length cc))
    have HG := Lib.hid (show SeesK (put6 w2 (w.heap.size + 1) (.int .i64 k.id) (.int .i64 k.time) (.int .i64 k.next) (.slice Aa k.held.length ca) (.slice Ab k.marks.length cb) (.slice Ac k.inbox.length cc)) k (.slice Aa k.held.length ca) (.slice Ab k.marks.length cb) (.slice Ac k.inbox.length cc) from HS.out.later HD.out)
    go_wp2
    have x0 := HC.out.cell 0
    have x1 := HC.out.cell 1
    have x2 := HC.out.cell 2
    have x3 := HC.out.cell 3
    have x4 := HC.out.cell 4
    have x5 := HC.out.cell 5
    refine bodyPost_ret (v := .tuple #[kpV (k).id (k).time (k).next (.slice Aa k.held.length ca) (.slice Ab k.marks.length cb) (.slice Ac k.inbox.length cc), .bool false]) (by simp [results, Tryz.results37, go_sem, x0, x1, x2, x3, x4, x5]) rfl ⟨k, false, HP.out, HZZ.out, _, _, _, rfl, HG.out, HD.out⟩

  · have hv' : k.next < v := by omega
    have HP := Lib.hid (hR2 hv')
    have HZZ := Lib.hid ((sz_next HZ.out v).up (show 12 ≤ 14 by omega))
    have HT3 := Lib.hid (HT2.out.put2 v)
    have HS3 := Lib.hid (fun V (hV : Below w.heap.size w V) => show SeesK V { k with next := v } (.slice Aa k.held.length ca) (.slice Ab k.marks.length cb) (.slice Ac k.inbox.length cc) from ⟨HS.out.held.later hV, HS.out.marks.later hV, HS.out.inbox.later hV⟩)
    clear hR1 hR2
    go_upto_region 24 with (fail)
    generalize w2.setCell ⟨w.heap.size, 2, none⟩ (.int .i64 v) = w3 at HT3 ⊢
    clear b0 b1 b2 b3 b4 b5 g0 g1 g2 g3 g4 g5 r0 r1 r2 r3 r4 r5 f0 f1 f2 f3 f4 f5
    obtain ⟨b0, b1, b2, b3, b4, b5, g0, g1, g2, g3, g4, g5⟩ := res_cells HT3.out.box
    obtain ⟨r0, r1, r2, r3, r4, r5, f0, f1, f2, f3, f4, f5⟩ := res_cells HT3.out.res
    have HC := Lib.hid (put6_blk (V := w3) (a' := .int .i64 k.id) (b' := .int .i64 k.time) (c' := .int .i64 v) (d' := .slice Aa k.held.length ca) (e' := .slice Ab k.marks.length cb) (f' := .slice Ac k.inbox.length cc) HT3.out.res)
    have HD := Lib.hid (put6_below (V := w3) (B := w.heap.size) (R := w.heap.size + 1) (by omega) HT3.out.bel (.int .i64 k.id) (.int .i64 k.time) (.int .i64 v) (.slice Aa k.held.length ca) (.slice Ab k.marks.length cb) (.slice Ac k.inbox.length cc))
    have HG := Lib.hid (show SeesK (put6 w3 (w.heap.size + 1) (.int .i64 k.id) (.int .i64 k.time) (.int .i64 v) (.slice Aa k.held.length ca) (.slice Ab k.marks.length cb) (.slice Ac k.inbox.length cc)) { k with next := v } (.slice Aa k.held.length ca) (.slice Ab k.marks.length cb) (.slice Ac k.inbox.length cc) from HS3.out _ HD.out)
    go_wp2
    have x0 := HC.out.cell 0
    have x1 := HC.out.cell 1
    have x2 := HC.out.cell 2
    have x3 := HC.out.cell 3
    have x4 := HC.out.cell 4
    have x5 := HC.out.cell 5
    refine bodyPost_ret (v := .tuple #[kpV ({ k with next := v }).id ({ k with next := v }).time ({ k with next := v }).next (.slice Aa k.held.length ca) (.slice Ab k.marks.length cb) (.slice Ac k.inbox.length cc), .bool true]) (by simp [results, Tryz.results37, go_sem, x0, x1, x2, x3, x4, x5]) rfl ⟨{ k with next := v }, true, HP.out, HZZ.out, _, _, _, rfl, HG.out, HD.out⟩

end Go.Proofs.YtgihbilpimempabGreatDoor.kp

