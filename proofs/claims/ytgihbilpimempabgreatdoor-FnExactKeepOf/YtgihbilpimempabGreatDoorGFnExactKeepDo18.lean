/-
  Merged texts: SRec2.
-/
import Derived.Test.YtgihbilpimempabGreatDoorGFnExactKeepDo8
import Derived.Test.YtgihbilpimempabGreatDoorGFnExactKeepDo16
import Derived.Deep.RegionHeld3
/-
  Contract of spec.l12Rec: own and take records.
-/
namespace Go.Proofs.YtgihbilpimempabGreatDoor.kp
open Go.ChangeShapes Go.WideShapes Go.ChangeAt Go.RowKit
open Go.Proofs.YtgihbilpimempabGreatDoor.wd Go.Proofs.YtgihbilpimempabGreatDoor.ow Go.Proofs.YtgihbilpimempabGreatDoor.rl Go.Proofs.YtgihbilpimempabGreatDoor.ok Go.Proofs.YtgihbilpimempabGreatDoor.nb Go.Proofs.YtgihbilpimempabGreatDoor.dc

set_option maxRecDepth 100000 in
set_option maxHeartbeats 4000000 in
theorem rec_own (w : World) (k : Kp) (a b c : Value) (x : ByteArray) (hs : x.size ≤ 1048576) (h : SeesK w k a b c) (ho : okK k = true) (hw : (word x.data.toList).1 = kwOwn) :
    Calls Tryz.prog 37 #[kpV k.id k.time k.next a b c, .string x] w (RecPost w k x.data.toList) := by
  have HZ := Lib.hid (sz_ok ho)
  have HS := Lib.hid h
  have HW := Lib.hid (fun W => sword_any x hs W)
  unfold WordPost at HW
  have hrl : (str (word x.data.toList).2).size ≤ 1048576 := by rw [str_size]; have := (word_len x.data.toList).2; rw [← Lib.size_eq] at this; omega
  have HR := Lib.hid (fun (bb : Bool) (y : Nt) (hr : RD (str (word x.data.toList).2) bb y.f y.n y.t y.u y.s) => (⟨fun hv => rec_own_no hw hr hv, fun hb h1 h2 => rec_own_yes hw (hb ▸ hr) h1 h2⟩ : (bb = false ∨ y.f ≠ k.id ∨ y.n ≠ k.next → RecP k x.data.toList k false) ∧ (bb = true → y.f = k.id → y.n = k.next → RecP k x.data.toList (takeS { k with next := k.next + 1 } y) (takeB { k with next := k.next + 1 } y))))
  obtain ⟨_, _, hnx, _⟩ := okK_parts ho
  have hnx := inB_iff.1 hnx
  have HN := Lib.hid (fun W => sread_any (str (word x.data.toList).2) hrl W)
  generalize (word x.data.toList).2 = rest at HW HR HN hrl
  have hkw : str kwOwn = ⟨#[111, 119, 110]⟩ := rfl
  rw [hw, hkw] at HW
  clear hkw
  obtain ⟨Aa, ca, rfl, _⟩ := h.held
  obtain ⟨Ab, cb, rfl, _⟩ := h.marks
  obtain ⟨Ac, cc, rfl, _⟩ := h.inbox
  have HT := Lib.hid (CB.new w k (.slice Aa k.held.length ca) (.slice Ab k.marks.length cb) (.slice Ac k.inbox.length cc))
  clear h hw ho hrl
  go_enter Tryz.func37, Tryz.ntmps37
  go_upto_region 1 with (fail)
  generalize (w.alloc (.cells #[.int .i64 k.id, .int .i64 k.time, .int .i64 k.next, .slice Aa k.held.length ca, .slice Ab k.marks.length cb, .slice Ac k.inbox.length cc] 29)).alloc (.cells #[.int .i64 0, .int .i64 0, .int .i64 0, .slice none 0 0, .slice none 0 0, .slice none 0 0] 29) = V at HT ⊢
  go_wp2_with fail
  refine (HW.out _).mono ?_
  rintro e w1 ⟨rfl, hB1⟩
  have HT1 := Lib.hid (HT.out.later hB1)
  clear HT hB1 HW
  go_wp2_with fail
  refine (HN.out _).mono ?_
  rintro e w2 ⟨bb, f, n, t, u, s, rfl, hrd, hB2⟩
  obtain ⟨y, hy⟩ : ∃ y : Nt, y = ⟨f, n, t, u, s⟩ := ⟨_, rfl⟩
  have e1 : f = y.f := by rw [hy]
  have e2 : n = y.n := by rw [hy]
  have e3 : t = y.t := by rw [hy]
  have e4 : u = y.u := by rw [hy]
  have e5 : s = y.s := by rw [hy]
  subst e1; subst e2; subst e3; subst e4; subst e5
  clear hy
  have HT2 := Lib.hid (HT1.out.later hB2)
  have hR := HR.out bb y hrd
  have HR2 := Lib.hid hR
  have hNt := HT2.out.sz
  clear hB2 HT1 HR hR HN
  have HTa := Lib.hid (HT2.out.later ((Below.refl w2.heap.size w2).alloc (Nat.le_refl _) (.cells #[.int .i64 y.f, .int .i64 y.n, .int .i64 y.t, .int .i64 y.u, .string y.s] 74)))
  have HNa := Lib.hid (Blk.new w2 74 #[.int .i64 y.f, .int .i64 y.n, .int .i64 y.t, .int .i64 y.u, .string y.s])
  have HRd := Lib.hid hrd
  clear hrd HT2
  unfold note
  go_upto_region 10 with (fail)
  generalize w2.alloc (.cells #[.int .i64 y.f, .int .i64 y.n, .int .i64 y.t, .int .i64 y.u, .string y.s] 74) = W at HTa HNa ⊢
  generalize w2.heap.size = NB at HNa hNt ⊢
  obtain ⟨n0, n1, n2, n3, n4⟩ := nt_cells HNa.out
  obtain ⟨b0, b1, b2, b3, b4, b5, g0, g1, g2, g3, g4, g5⟩ := res_cells HTa.out.box
  obtain ⟨r0, r1, r2, r3, r4, r5, f0, f1, f2, f3, f4, f5⟩ := res_cells HTa.out.res
  cases bb with
  | false =>
    have HP := Lib.hid (HR2.out.1 (.inl rfl))
    clear n0 n1 n2 n3 n4 HNa
    have HZZ := Lib.hid (HZ.out.up (show 12 ≤ 14 by omega))
    have HC := Lib.hid (put6_blk (V := W) (a' := .int .i64 k.id) (b' := .int .i64 k.time) (c' := .int .i64 k.next) (d' := .slice Aa k.held.length ca) (e' := .slice Ab k.marks.length cb) (f' := .slice Ac k.inbox.length cc) HTa.out.res)
    have HD := Lib.hid (put6_below (V := W) (B := w.heap.size) (R := w.heap.size + 1) (by omega) HTa.out.bel (.int .i64 k.id) (.int .i64 k.time) (.int .i64 k.next) (.slice Aa k.held.length ca) (.slice Ab k.marks.length cb) (.slice Ac k.inbox.length cc))
    have HG := Lib.hid (show SeesK (put6 W (w.heap.size + 1) (.int .i64 k.id) (.int .i64 k.time) (.int .i64 k.next) (.slice Aa k.held.length ca) (.slice Ab k.marks.length cb) (.slice Ac k.inbox.length cc)) k (.slice Aa k.held.length ca) (.slice Ab k.marks.length cb) (.slice Ac k.inbox.length cc) from HS.out.later HD.out)
    go_wp2
    have x0 := HC.out.cell 0
    have x1 := HC.out.cell 1
    have x2 := HC.out.cell 2
    have x3 := HC.out.cell 3
    have x4 := HC.out.cell 4
    have x5 := HC.out.cell 5
    refine bodyPost_ret (v := .tuple #[kpV (k).id (k).time (k).next (.slice Aa k.held.length ca) (.slice Ab k.marks.length cb) (.slice Ac k.inbox.length cc), .bool false]) (by simp [results, Tryz.results37, go_sem, x0, x1, x2, x3, x4, x5]) rfl ⟨k, false, HP.out, HZZ.out, _, _, _, rfl, HG.out, HD.out⟩

  | true =>
    by_cases h1 : y.f = k.id
    · have k1 : (y.f != k.id) = false := by simpa using h1
      by_cases h2 : y.n = k.next
      · have k2 : (y.n != k.next) = false := by simpa using h2
        have hR := HR2.out.2 rfl h1 h2
        have hys' : y.s.size ≤ 1048576 := okNt_size (rd_true HRd.out).1
        have hys : y.s.size ≤ maxLen := by unfold maxLen; omega
        have hwr : IntKind.i64.wrap (k.next + 1) = k.next + 1 := by rw [IntKind.wrap_i64]; omega
        have HTb := Lib.hid (HTa.out.put2 (k.next + 1))
        have HNb := Lib.hid (HNa.out.far (p := ⟨w.heap.size, 2, none⟩) (by show NB ≠ w.heap.size; omega) (.int .i64 (k.next + 1)))
        clear h1 h2 HR2 HNa HTa
        go_upto_region 13 with (fail)
        generalize W.setCell ⟨w.heap.size, 2, none⟩ (.int .i64 (k.next + 1)) = W2 at HTb HNb ⊢
        clear n0 n1 n2 n3 n4 k1 k2 hwr
        obtain ⟨n0, n1, n2, n3, n4⟩ := nt_cells HNb.out
        clear b0 b1 b2 b3 b4 b5 g0 g1 g2 g3 g4 g5 r0 r1 r2 r3 r4 r5 f0 f1 f2 f3 f4 f5
        obtain ⟨b0, b1, b2, b3, b4, b5, g0, g1, g2, g3, g4, g5⟩ := res_cells HTb.out.box
        obtain ⟨r0, r1, r2, r3, r4, r5, f0, f1, f2, f3, f4, f5⟩ := res_cells HTb.out.res
        have hM : Calls Tryz.prog 75 #[kpV k.id k.time (k.next + 1) (.slice Aa k.held.length ca) (.slice Ab k.marks.length cb) (.slice Ac k.inbox.length cc), note y.f y.n y.t y.u y.s] W2 (ResK W2 (takeS { k with next := k.next + 1 } y) (takeB { k with next := k.next + 1 } y) (.slice Aa k.held.length ca) (.slice Ab k.marks.length cb) (.slice Ac k.inbox.length cc)) := take_any W2 { k with next := k.next + 1 } _ _ _ y ⟨HS.out.held.later HTb.out.bel, HS.out.marks.later HTb.out.bel, HS.out.inbox.later HTb.out.bel⟩ (HZ.out.few (by omega)) hys
        have hZ3 := sz_take (k := { k with next := k.next + 1 }) (x := y) (n := 12) ⟨HZ.out.h, HZ.out.m, HZ.out.i, HZ.out.ht, HZ.out.it⟩ hys'
        generalize takeS { k with next := k.next + 1 } y = k3 at hR hZ3 hM
        generalize takeB { k with next := k.next + 1 } y = bt at hR hM
        have HP := Lib.hid hR
        have HZZ := Lib.hid (hZ3.up (show 12 + 1 ≤ 14 by omega))
        unfold ResK note at hM
        have HM := Lib.hid hM
        clear hR hZ3 hM hys hys'
        go_wp2_with fail
        refine HM.out.mono ?_
        rintro e w3 ⟨vh, vm, vi, rfl, hO3⟩
        have HT3 := Lib.hid (HTb.out.later hO3.bel)
        have hs2 := HTb.out.sz
        have HG3 := Lib.hid (fun x0 x1 x2 x3 x4 x5 => hO3.put6 HS.out (show w.heap.size ≤ w.heap.size + 1 by omega) (by omega) x0 x1 x2 x3 x4 x5)
        obtain ⟨A3, c3, rfl, _⟩ := id hO3.sees.held
        obtain ⟨A4, c4, rfl, _⟩ := id hO3.sees.marks
        obtain ⟨A5, c5, rfl, _⟩ := id hO3.sees.inbox
        clear hO3 HTb
        clear b0 b1 b2 b3 b4 b5 g0 g1 g2 g3 g4 g5 r0 r1 r2 r3 r4 r5 f0 f1 f2 f3 f4 f5
        obtain ⟨b0, b1, b2, b3, b4, b5, g0, g1, g2, g3, g4, g5⟩ := res_cells HT3.out.box
        obtain ⟨r0, r1, r2, r3, r4, r5, f0, f1, f2, f3, f4, f5⟩ := res_cells HT3.out.res
        clear HM HNb n0 n1 n2 n3 n4
        have HC := Lib.hid (put6_blk (V := w3) (a' := .int .i64 k3.id) (b' := .int .i64 k3.time) (c' := .int .i64 k3.next) (d' := .slice A3 k3.held.length c3) (e' := .slice A4 k3.marks.length c4) (f' := .slice A5 k3.inbox.length c5) HT3.out.res)
        have HD := Lib.hid (put6_below (V := w3) (B := w.heap.size) (R := w.heap.size + 1) (by omega) HT3.out.bel (.int .i64 k3.id) (.int .i64 k3.time) (.int .i64 k3.next) (.slice A3 k3.held.length c3) (.slice A4 k3.marks.length c4) (.slice A5 k3.inbox.length c5))
        have HG := Lib.hid (show SeesK (put6 w3 (w.heap.size + 1) (.int .i64 k3.id) (.int .i64 k3.time) (.int .i64 k3.next) (.slice A3 k3.held.length c3) (.slice A4 k3.marks.length c4) (.slice A5 k3.inbox.length c5)) k3 (.slice A3 k3.held.length c3) (.slice A4 k3.marks.length c4) (.slice A5 k3.inbox.length c5) from HG3.out _ _ _ _ _ _)
        go_wp2
        have x0 := HC.out.cell 0
        have x1 := HC.out.cell 1
        have x2 := HC.out.cell 2
        have x3 := HC.out.cell 3
        have x4 := HC.out.cell 4
        have x5 := HC.out.cell 5
        refine bodyPost_ret (v := .tuple #[kpV (k3).id (k3).time (k3).next (.slice A3 k3.held.length c3) (.slice A4 k3.marks.length c4) (.slice A5 k3.inbox.length c5), .bool bt]) (by simp [results, Tryz.results37, go_sem, x0, x1, x2, x3, x4, x5]) rfl ⟨k3, bt, HP.out, HZZ.out, _, _, _, rfl, HG.out, HD.out⟩

      · have k2 : (y.n != k.next) = true := by simpa using h2
        have HP := Lib.hid (HR2.out.1 (.inr (.inr h2)))
        clear h1 h2 HR2
        have HZZ := Lib.hid (HZ.out.up (show 12 ≤ 14 by omega))
        have HC := Lib.hid (put6_blk (V := W) (a' := .int .i64 k.id) (b' := .int .i64 k.time) (c' := .int .i64 k.next) (d' := .slice Aa k.held.length ca) (e' := .slice Ab k.marks.length cb) (f' := .slice Ac k.inbox.length cc) HTa.out.res)
        have HD := Lib.hid (put6_below (V := W) (B := w.heap.size) (R := w.heap.size + 1) (by omega) HTa.out.bel (.int .i64 k.id) (.int .i64 k.time) (.int .i64 k.next) (.slice Aa k.held.length ca) (.slice Ab k.marks.length cb) (.slice Ac k.inbox.length cc))
        have HG := Lib.hid (show SeesK (put6 W (w.heap.size + 1) (.int .i64 k.id) (.int .i64 k.time) (.int .i64 k.next) (.slice Aa k.held.length ca) (.slice Ab k.marks.length cb) (.slice Ac k.inbox.length cc)) k (.slice Aa k.held.length ca) (.slice Ab k.marks.length cb) (.slice Ac k.inbox.length cc) from HS.out.later HD.out)
        go_wp2
        have x0 := HC.out.cell 0
        have x1 := HC.out.cell 1
        have x2 := HC.out.cell 2
        have x3 := HC.out.cell 3
        have x4 := HC.out.cell 4
        have x5 := HC.out.cell 5
        refine bodyPost_ret (v := .tuple #[kpV (k).id (k).time (k).next (.slice Aa k.held.length ca) (.slice Ab k.marks.length cb) (.slice Ac k.inbox.length cc), .bool false]) (by simp [results, Tryz.results37, go_sem, x0, x1, x2, x3, x4, x5]) rfl ⟨k, false, HP.out, HZZ.out, _, _, _, rfl, HG.out, HD.out⟩

    · have k1 : (y.f != k.id) = true := by simpa using h1
      have HP := Lib.hid (HR2.out.1 (.inr (.inl h1)))
      clear h1 HR2
      have HZZ := Lib.hid (HZ.out.up (show 12 ≤ 14 by omega))
      have HC := Lib.hid (put6_blk (V := W) (a' := .int .i64 k.id) (b' := .int .i64 k.time) (c' := .int .i64 k.next) (d' := .slice Aa k.held.length ca) (e' := .slice Ab k.marks.length cb) (f' := .slice Ac k.inbox.length cc) HTa.out.res)
      have HD := Lib.hid (put6_below (V := W) (B := w.heap.size) (R := w.heap.size + 1) (by omega) HTa.out.bel (.int .i64 k.id) (.int .i64 k.time) (.int .i64 k.next) (.slice Aa k.held.length ca) (.slice Ab k.marks.length cb) (.slice Ac k.inbox.length cc))
      have HG := Lib.hid (show SeesK (put6 W (w.heap.size + 1) (.int .i64 k.id) (.int .i64 k.time) (.int .i64 k.next) (.slice Aa k.held.length ca) (.slice Ab k.marks.length cb) (.slice Ac k.inbox.length cc)) k (.slice Aa k.held.length ca) (.slice Ab k.marks.length cb) (.slice Ac k.inbox.length cc) from HS.out.later HD.out)
      go_wp2
      have x0 := HC.out.cell 0
      have x1 := HC.out.cell 1
      have x2 := HC.out.cell 2
      have x3 := HC.out.cell 3
      have x4 := HC.out.cell 4
      have x5 := HC.out.cell 5
      refine bodyPost_ret (v := .tuple #[kpV (k).id (k).time (k).next (.slice Aa k.held.length ca) (.slice Ab k.marks.length cb) (.slice Ac k.inbox.length cc), .bool false]) (by simp [results, Tryz.results37, go_sem, x0, x1, x2, x3, x4, x5]) rfl ⟨k, false, HP.out, HZZ.out, _, _, _, rfl, HG.out, HD.out⟩

set_option maxRecDepth 100000 in
set_option maxHeartbeats 4000000 in
theorem rec_take (w : World) (k : Kp) (a b c : Value) (x : ByteArray) (hs : x.size ≤ 1048576) (h : SeesK w k a b c) (ho : okK k = true) (hw : (word x.data.toList).1 = kwTake) :
    Calls Tryz.prog 37 #[kpV k.id k.time k.next a b c, .string x] w (RecPost w k x.data.toList) := by
  have HZ := Lib.hid (sz_ok ho)
  have HS := Lib.hid h
  have HW := Lib.hid (fun W => sword_any x hs W)
  unfold WordPost at HW
  have hrl : (str (word x.data.toList).2).size ≤ 1048576 := by rw [str_size]; have := (word_len x.data.toList).2; rw [← Lib.size_eq] at this; omega
  have HR := Lib.hid (fun (bb : Bool) (y : Nt) (hr : RD (str (word x.data.toList).2) bb y.f y.n y.t y.u y.s) => (⟨fun hv => rec_take_no hw hr hv, fun hb h1 => rec_take_yes hw (hb ▸ hr) h1⟩ : (bb = false ∨ y.f = k.id → RecP k x.data.toList k false) ∧ (bb = true → y.f ≠ k.id → RecP k x.data.toList (takeS k y) (takeB k y))))
  have HN := Lib.hid (fun W => sread_any (str (word x.data.toList).2) hrl W)
  generalize (word x.data.toList).2 = rest at HW HR HN hrl
  have hkw : str kwTake = ⟨#[116, 97, 107, 101]⟩ := rfl
  rw [hw, hkw] at HW
  clear hkw
  obtain ⟨Aa, ca, rfl, _⟩ := h.held
  obtain ⟨Ab, cb, rfl, _⟩ := h.marks
  obtain ⟨Ac, cc, rfl, _⟩ := h.inbox
  have HT := Lib.hid (CB.new w k (.slice Aa k.held.length ca) (.slice Ab k.marks.length cb) (.slice Ac k.inbox.length cc))
  clear h hw ho hrl
  go_enter Tryz.func37, Tryz.ntmps37
  go_upto_region 1 with (fail)
  generalize (w.alloc (.cells #[.int .i64 k.id, .int .i64 k.time, .int .i64 k.next, .slice Aa k.held.length ca, .slice Ab k.marks.length cb, .slice Ac k.inbox.length cc] 29)).alloc (.cells #[.int .i64 0, .int .i64 0, .int .i64 0, .slice none 0 0, .slice none 0 0, .slice none 0 0] 29) = V at HT ⊢
  go_wp2_with fail
  refine (HW.out _).mono ?_
  rintro e w1 ⟨rfl, hB1⟩
  have HT1 := Lib.hid (HT.out.later hB1)
  clear HT hB1 HW
  go_wp2_with fail
  refine (HN.out _).mono ?_
  rintro e w2 ⟨bb, f, n, t, u, s, rfl, hrd, hB2⟩
  obtain ⟨y, hy⟩ : ∃ y : Nt, y = ⟨f, n, t, u, s⟩ := ⟨_, rfl⟩
  have e1 : f = y.f := by rw [hy]
  have e2 : n = y.n := by rw [hy]
  have e3 : t = y.t := by rw [hy]
  have e4 : u = y.u := by rw [hy]
  have e5 : s = y.s := by rw [hy]
  subst e1; subst e2; subst e3; subst e4; subst e5
  clear hy
  have HT2 := Lib.hid (HT1.out.later hB2)
  have hR := HR.out bb y hrd
  have HR2 := Lib.hid hR
  have hNt := HT2.out.sz
  clear hB2 HT1 HR hR HN
  have HTa := Lib.hid (HT2.out.later ((Below.refl w2.heap.size w2).alloc (Nat.le_refl _) (.cells #[.int .i64 y.f, .int .i64 y.n, .int .i64 y.t, .int .i64 y.u, .string y.s] 74)))
  have HNa := Lib.hid (Blk.new w2 74 #[.int .i64 y.f, .int .i64 y.n, .int .i64 y.t, .int .i64 y.u, .string y.s])
  have HRd := Lib.hid hrd
  clear hrd HT2
  unfold note
  go_upto_region 16 with (fail)
  generalize w2.alloc (.cells #[.int .i64 y.f, .int .i64 y.n, .int .i64 y.t, .int .i64 y.u, .string y.s] 74) = W at HTa HNa ⊢
  generalize w2.heap.size = NB at HNa hNt ⊢
  obtain ⟨n0, n1, n2, n3, n4⟩ := nt_cells HNa.out
  obtain ⟨b0, b1, b2, b3, b4, b5, g0, g1, g2, g3, g4, g5⟩ := res_cells HTa.out.box
  obtain ⟨r0, r1, r2, r3, r4, r5, f0, f1, f2, f3, f4, f5⟩ := res_cells HTa.out.res
  cases bb with
  | false =>
    have HP := Lib.hid (HR2.out.1 (.inl rfl))
    clear n0 n1 n2 n3 n4 HNa
    have HZZ := Lib.hid (HZ.out.up (show 12 ≤ 14 by omega))
    have HC := Lib.hid (put6_blk (V := W) (a' := .int .i64 k.id) (b' := .int .i64 k.time) (c' := .int .i64 k.next) (d' := .slice Aa k.held.length ca) (e' := .slice Ab k.marks.length cb) (f' := .slice Ac k.inbox.length cc) HTa.out.res)
    have HD := Lib.hid (put6_below (V := W) (B := w.heap.size) (R := w.heap.size + 1) (by omega) HTa.out.bel (.int .i64 k.id) (.int .i64 k.time) (.int .i64 k.next) (.slice Aa k.held.length ca) (.slice Ab k.marks.length cb) (.slice Ac k.inbox.length cc))
    have HG := Lib.hid (show SeesK (put6 W (w.heap.size + 1) (.int .i64 k.id) (.int .i64 k.time) (.int .i64 k.next) (.slice Aa k.held.length ca) (.slice Ab k.marks.length cb) (.slice Ac k.inbox.length cc)) k (.slice Aa k.held.length ca) (.slice Ab k.marks.length cb) (.slice Ac k.inbox.length cc) from HS.out.later HD.out)
    go_wp2
    have x0 := HC.out.cell 0
    have x1 := HC.out.cell 1
    have x2 := HC.out.cell 2
    have x3 := HC.out.cell 3
    have x4 := HC.out.cell 4
    have x5 := HC.out.cell 5
    refine bodyPost_ret (v := .tuple #[kpV (k).id (k).time (k).next (.slice Aa k.held.length ca) (.slice Ab k.marks.length cb) (.slice Ac k.inbox.length cc), .bool false]) (by simp [results, Tryz.results37, go_sem, x0, x1, x2, x3, x4, x5]) rfl ⟨k, false, HP.out, HZZ.out, _, _, _, rfl, HG.out, HD.out⟩

  | true =>
    by_cases h1 : y.f = k.id
    · have k1 : (y.f == k.id) = true := by simpa using h1
      have HP := Lib.hid (HR2.out.1 (.inr h1))
      clear h1 HR2
      have HZZ := Lib.hid (HZ.out.up (show 12 ≤ 14 by omega))
      have HC := Lib.hid (put6_blk (V := W) (a' := .int .i64 k.id) (b' := .int .i64 k.time) (c' := .int .i64 k.next) (d' := .slice Aa k.held.length ca) (e' := .slice Ab k.marks.length cb) (f' := .slice Ac k.inbox.length cc) HTa.out.res)
      have HD := Lib.hid (put6_below (V := W) (B := w.heap.size) (R := w.heap.size + 1) (by omega) HTa.out.bel (.int .i64 k.id) (.int .i64 k.time) (.int .i64 k.next) (.slice Aa k.held.length ca) (.slice Ab k.marks.length cb) (.slice Ac k.inbox.length cc))
      have HG := Lib.hid (show SeesK (put6 W (w.heap.size + 1) (.int .i64 k.id) (.int .i64 k.time) (.int .i64 k.next) (.slice Aa k.held.length ca) (.slice Ab k.marks.length cb) (.slice Ac k.inbox.length cc)) k (.slice Aa k.held.length ca) (.slice Ab k.marks.length cb) (.slice Ac k.inbox.length cc) from HS.out.later HD.out)
      go_wp2
      have x0 := HC.out.cell 0
      have x1 := HC.out.cell 1
      have x2 := HC.out.cell 2
      have x3 := HC.out.cell 3
      have x4 := HC.out.cell 4
      have x5 := HC.out.cell 5
      refine bodyPost_ret (v := .tuple #[kpV (k).id (k).time (k).next (.slice Aa k.held.length ca) (.slice Ab k.marks.length cb) (.slice Ac k.inbox.length cc), .bool false]) (by simp [results, Tryz.results37, go_sem, x0, x1, x2, x3, x4, x5]) rfl ⟨k, false, HP.out, HZZ.out, _, _, _, rfl, HG.out, HD.out⟩

    · have k1 : (y.f == k.id) = false := by simpa using h1
      have hR := HR2.out.2 rfl h1
      have hys' : y.s.size ≤ 1048576 := okNt_size (rd_true HRd.out).1
      have hys : y.s.size ≤ maxLen := by unfold maxLen; omega
      clear h1 HR2
      have hM : Calls Tryz.prog 75 #[kpV k.id k.time k.next (.slice Aa k.held.length ca) (.slice Ab k.marks.length cb) (.slice Ac k.inbox.length cc), note y.f y.n y.t y.u y.s] W (ResK W (takeS k y) (takeB k y) (.slice Aa k.held.length ca) (.slice Ab k.marks.length cb) (.slice Ac k.inbox.length cc)) := take_any W k _ _ _ y ⟨HS.out.held.later HTa.out.bel, HS.out.marks.later HTa.out.bel, HS.out.inbox.later HTa.out.bel⟩ (HZ.out.few (by omega)) hys
      have hZ3 := sz_take (k := k) (x := y) (n := 12) ⟨HZ.out.h, HZ.out.m, HZ.out.i, HZ.out.ht, HZ.out.it⟩ hys'
      generalize takeS k y = k3 at hR hZ3 hM
      generalize takeB k y = bt at hR hM
      have HP := Lib.hid hR
      have HZZ := Lib.hid (hZ3.up (show 12 + 1 ≤ 14 by omega))
      unfold ResK note at hM
      have HM := Lib.hid hM
      clear hR hZ3 hM hys hys'
      go_wp2_with fail
      refine HM.out.mono ?_
      rintro e w3 ⟨vh, vm, vi, rfl, hO3⟩
      have HT3 := Lib.hid (HTa.out.later hO3.bel)
      have hs2 := HTa.out.sz
      have HG3 := Lib.hid (fun x0 x1 x2 x3 x4 x5 => hO3.put6 HS.out (show w.heap.size ≤ w.heap.size + 1 by omega) (by omega) x0 x1 x2 x3 x4 x5)
      obtain ⟨A3, c3, rfl, _⟩ := id hO3.sees.held
      obtain ⟨A4, c4, rfl, _⟩ := id hO3.sees.marks
      obtain ⟨A5, c5, rfl, _⟩ := id hO3.sees.inbox
      clear hO3 HTa
      clear b0 b1 b2 b3 b4 b5 g0 g1 g2 g3 g4 g5 r0 r1 r2 r3 r4 r5 f0 f1 f2 f3 f4 f5
      obtain ⟨b0, b1, b2, b3, b4, b5, g0, g1, g2, g3, g4, g5⟩ := res_cells HT3.out.box
      obtain ⟨r0, r1, r2, r3, r4, r5, f0, f1, f2, f3, f4, f5⟩ := res_cells HT3.out.res
      clear HM HNa n0 n1 n2 n3 n4 k1
      have HC := Lib.hid (put6_blk (V := w3) (a' := .int .i64 k3.id) (b' := .int .i64 k3.time) (c' := .int .i64 k3.next) (d' := .slice A3 k3.held.length c3) (e' := .slice A4 k3.marks.length c4) (f' := .slice A5 k3.inbox.length c5) HT3.out.res)
      have HD := Lib.hid (put6_below (V := w3) (B := w.heap.size) (R := w.heap.size + 1) (by omega) HT3.out.bel (.int .i64 k3.id) (.int .i64 k3.time) (.int .i64 k3.next) (.slice A3 k3.held.length c3) (.slice A4 k3.marks.length c4) (.slice A5 k3.inbox.length c5))
      have HG := Lib.hid (show SeesK (put6 w3 (w.heap.size + 1) (.int .i64 k3.id) (.int .i64 k3.time) (.int .i64 k3.next) (.slice A3 k3.held.length c3) (.slice A4 k3.marks.length c4) (.slice A5 k3.inbox.length c5)) k3 (.slice A3 k3.held.length c3) (.slice A4 k3.marks.length c4) (.slice A5 k3.inbox.length c5) from HG3.out _ _ _ _ _ _)
      go_wp2
      have x0 := HC.out.cell 0
      have x1 := HC.out.cell 1
      have x2 := HC.out.cell 2
      have x3 := HC.out.cell 3
      have x4 := HC.out.cell 4
      have x5 := HC.out.cell 5
      refine bodyPost_ret (v := .tuple #[kpV (k3).id (k3).time (k3).next (.slice A3 k3.held.length c3) (.slice A4 k3.marks.length c4) (.slice A5 k3.inbox.length c5), .bool bt]) (by simp [results, Tryz.results37, go_sem, x0, x1, x2, x3, x4, x5]) rfl ⟨k3, bt, HP.out, HZZ.out, _, _, _, rfl, HG.out, HD.out⟩

end Go.Proofs.YtgihbilpimempabGreatDoor.kp

