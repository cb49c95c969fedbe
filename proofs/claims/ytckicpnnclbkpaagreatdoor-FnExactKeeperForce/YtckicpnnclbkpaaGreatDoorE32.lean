/-
  Merged texts: SRec3, SLet.
-/
import Derived.Test.YtckicpnnclbkpaaGreatDoorE20
import Derived.Test.YtckicpnnclbkpaaGreatDoorE23
import Derived.Deep.CutRange
namespace Go.Proofs.YtckicpnnclbkpaaGreatDoor.kp
open Go.ChangeShapes Go.WideShapes Go.ChangeAt Go.RowKit
open wd ow rl ok nb dc
set_option maxRecDepth 100000 in
set_option maxHeartbeats 4000000 in
theorem rec_held (w : World) (k : Kp) (a b c : Value) (x : ByteArray) (hs : x.size ≤ 1048576) (h : SeesK w k a b c) (ho : okK k = true) (hw : (word x.data.toList).1 = kwHeld) :
  Calls Tryz.prog 81 #[kpV k.id k.time k.next a b c, .string x] w (RecPost w k x.data.toList) := by
 have HZ := Lib.hid (sz_ok ho)
 have HS := Lib.hid h
 have HW := Lib.hid (fun W => sword_any x hs W)
 unfold WordPost at HW
 have hrl : (str (word x.data.toList).2).size ≤ 1048576 := by rw [str_size]; have := (word_len x.data.toList).2; rw [← Lib.size_eq] at this; omega
 have HR := Lib.hid (fun (bb : Bool) (y : Nt) (hr : RD (str (word x.data.toList).2) bb y.f y.n y.t y.u y.s) => (⟨fun hv => rec_held_no hw hr hv, fun hb h1 h2 => rec_held_yes hw (hb ▸ hr) h1 h2⟩ : (bb = false ∨ hasN k.held y.f y.n = true ∨ hasN k.inbox y.f y.n = true → RecP k x.data.toList k false) ∧ (bb = true → hasN k.held y.f y.n = false → hasN k.inbox y.f y.n = false → RecP k x.data.toList { k with held := putN k.held y } true)))
 have HN := Lib.hid (fun W => sread_any (str (word x.data.toList).2) hrl W)
 generalize (word x.data.toList).2 = rest at HW HR HN hrl
 have hkw : str kwHeld = ⟨#[104, 101, 108, 100]⟩ := rfl
 rw [hw, hkw] at HW
 clear hkw
 obtain ⟨Aa, ca, rfl, _⟩ := h.held
 obtain ⟨Ab, cb, rfl, _⟩ := h.marks
 obtain ⟨Ac, cc, rfl, _⟩ := h.inbox
 have HT := Lib.hid (CB.new w k (.slice Aa k.held.length ca) (.slice Ab k.marks.length cb) (.slice Ac k.inbox.length cc))
 clear h hw ho hrl
 go_enter Tryz.func81, Tryz.ntmps81
 go_upto_region 1 with (fail)
 generalize (w.alloc (.cells #[.int .i64 k.id, .int .i64 k.time, .int .i64 k.next, .slice Aa k.held.length ca, .slice Ab k.marks.length cb, .slice Ac k.inbox.length cc] 39)).alloc (.cells #[.int .i64 0, .int .i64 0, .int .i64 0, .slice none 0 0, .slice none 0 0, .slice none 0 0] 39) = V at HT ⊢
 go_wp2_with fail
 refine (HW.out _).mono ?_
 rintro e w1 ⟨rfl, hB1⟩
 have HT1 := Lib.hid (HT.out.later hB1)
 clear HT hB1 HW
 go_wp2_with fail
 refine (HN.out _).mono ?_
 rintro e w2 ⟨bb, f, n, t, u, s, rfl, hrd, hB2⟩
 obtain ⟨y, hy⟩ : ∃ y : Nt, y = ⟨f, n, t, u, s⟩ := ⟨_, rfl⟩
 have e1 : f = y.f := by rw [hy]
 have e2 : n = y.n := by rw [hy]
 have e3 : t = y.t := by rw [hy]
 have e4 : u = y.u := by rw [hy]
 have e5 : s = y.s := by rw [hy]
 subst e1; subst e2; subst e3; subst e4; subst e5
 clear hy
 have HT2 := Lib.hid (HT1.out.later hB2)
 have hR := HR.out bb y hrd
 have HR2 := Lib.hid hR
 have hNt := HT2.out.sz
 clear hB2 HT1 HR hR HN
 have HTa := Lib.hid (HT2.out.later ((Below.refl w2.heap.size w2).alloc (Nat.le_refl _) (.cells #[.int .i64 y.f, .int .i64 y.n, .int .i64 y.t, .int .i64 y.u, .string y.s] 105)))
 have HNa := Lib.hid (Blk.new w2 105 #[.int .i64 y.f, .int .i64 y.n, .int .i64 y.t, .int .i64 y.u, .string y.s])
 have HRd := Lib.hid hrd
 clear hrd HT2
 unfold note
 go_upto_region 28 with (fail)
 generalize w2.alloc (.cells #[.int .i64 y.f, .int .i64 y.n, .int .i64 y.t, .int .i64 y.u, .string y.s] 105) = W at HTa HNa ⊢
 generalize w2.heap.size = NB at HNa hNt ⊢
 obtain ⟨n0, n1, n2, n3, n4⟩ := nt_cells HNa.out
 obtain ⟨b0, b1, b2, b3, b4, b5, g0, g1, g2, g3, g4, g5⟩ := res_cells HTa.out.box
 obtain ⟨r0, r1, r2, r3, r4, r5, f0, f1, f2, f3, f4, f5⟩ := res_cells HTa.out.res
 cases bb with
 | false =>
  have HP := Lib.hid (HR2.out.1 (.inl rfl))
  clear n0 n1 n2 n3 n4 HNa
  have HZZ := Lib.hid (HZ.out.up (show 12 ≤ 14 by omega))
  have HC := Lib.hid (put6_blk (V := W) (a' := .int .i64 k.id) (b' := .int .i64 k.time) (c' := .int .i64 k.next) (d' := .slice Aa k.held.length ca) (e' := .slice Ab k.marks.length cb) (f' := .slice Ac k.inbox.length cc) HTa.out.res)
  have HD := Lib.hid (put6_below (V := W) (B := w.heap.size) (R := w.heap.size + 1) (by omega) HTa.out.bel (.int .i64 k.id) (.int .i64 k.time) (.int .i64 k.next) (.slice Aa k.held.length ca) (.slice Ab k.marks.length cb) (.slice Ac k.inbox.length cc))
  have HG := Lib.hid (show SeesK (put6 W (w.heap.size + 1) (.int .i64 k.id) (.int .i64 k.time) (.int .i64 k.next) (.slice Aa k.held.length ca) (.slice Ab k.marks.length cb) (.slice Ac k.inbox.length cc)) k (.slice Aa k.held.length ca) (.slice Ab k.marks.length cb) (.slice Ac k.inbox.length cc) from HS.out.later HD.out)
  go_wp2
  have x0 := HC.out.cell 0
  have x1 := HC.out.cell 1
  have x2 := HC.out.cell 2
  have x3 := HC.out.cell 3
  have x4 := HC.out.cell 4
  have x5 := HC.out.cell 5
  refine bodyPost_ret (v := .tuple #[kpV (k).id (k).time (k).next (.slice Aa k.held.length ca) (.slice Ab k.marks.length cb) (.slice Ac k.inbox.length cc), .bool false]) (by simp [results, Tryz.results81, go_sem, x0, x1, x2, x3, x4, x5]) rfl ⟨k, false, HP.out, HZZ.out, _, _, _, rfl, HG.out, HD.out⟩
 | true =>
  have HI1 := Lib.hid (ixN_any W _ k.held y.f y.n (HS.out.held.later HTa.out.bel) (HZ.out.few (by omega)).1)
  have HI2 := Lib.hid (ixN_any W _ k.inbox y.f y.n (HS.out.inbox.later HTa.out.bel) (HZ.out.few (by omega)).2.2)
  unfold IsI at HI1 HI2
  rcases ixN_cases k.held y.f y.n with ⟨hn1, he1⟩ | ⟨hn1, i, x1, he1, _, _, _⟩
  ·rw [he1] at HI1
   rcases ixN_cases k.inbox y.f y.n with ⟨hn2, he2⟩ | ⟨hn2, i, x2, he2, _, _, _⟩
   ·rw [he2] at HI2
    have HP := Lib.hid (HR2.out.2 rfl hn1 hn2)
    have hys' : y.s.size ≤ 1048576 := okNt_size (rd_true HRd.out).1
    have HZZ := Lib.hid ((sz_held HZ.out hys').up (show 12 + 1 ≤ 14 by omega))
    have HPN := Lib.hid (putN_any W _ k.held y (HS.out.held.later HTa.out.bel) (by have := HZ.out.few (show 12 ≤ 1048576 by omega); omega))
    unfold ListN ntV note at HPN
    clear hn1 hn2 he1 he2 HR2 hys'
    go_wp2_with fail
    refine HI1.out.mono ?_
    rintro e w4 ⟨rfl, rfl⟩
    go_wp2_with fail
    refine HI2.out.mono ?_
    rintro e w4 ⟨rfl, rfl⟩
    clear HI1 HI2
    go_wp2_with fail
    refine HPN.out.mono ?_
    rintro e w3 ⟨vm, rfl, hO⟩
    obtain ⟨A2, c2, rfl⟩ := OwnR.form hO
    have hzw := hO.2.size
    have hsz := HTa.out.sz
    have O2 : OwnAt ntS 105 W.heap.size w3 (.slice A2 (putN k.held y).length c2) (putN k.held y) := hO.1
    have HT4 := Lib.hid ((HTa.out.later hO.2).put3 (.slice A2 (putN k.held y).length c2))
    have P2 := Lib.hid (OwnAt.set O2 (p := ⟨w.heap.size, 3, none⟩) (by show w.heap.size < W.heap.size; omega) (.slice A2 (putN k.held y).length c2))
    clear b0 b1 b2 b3 b4 b5 g0 g1 g2 g3 g4 g5 r0 r1 r2 r3 r4 r5 f0 f1 f2 f3 f4 f5
    obtain ⟨b0, b1, b2, b3, b4, b5, _, _, _, g3, g4, g5⟩ := res_cells (HTa.out.later hO.2).box
    clear O2 hO HPN n0 n1 n2 n3 n4 HNa HTa
    obtain ⟨n2, hn2⟩ : ∃ n2, n2 = (putN k.held y).length := ⟨_, rfl⟩
    rw [← hn2] at HT4 P2 ⊢
    clear hn2
    go_upto_region 33 with (fail)
    clear b0 b1 b2 b3 b4 b5 g3 g4 g5
    generalize w3.setCell ⟨w.heap.size, 3, none⟩ (.slice A2 n2 c2) = V3 at HT4 P2 ⊢
    obtain ⟨b0, b1, b2, b3, b4, b5, g0, g1, g2, g3, g4, g5⟩ := res_cells HT4.out.box
    obtain ⟨r0, r1, r2, r3, r4, r5, f0, f1, f2, f3, f4, f5⟩ := res_cells HT4.out.res
    have HC := Lib.hid (put6_blk (V := V3) (a' := .int .i64 k.id) (b' := .int .i64 k.time) (c' := .int .i64 k.next) (d' := .slice A2 n2 c2) (e' := .slice Ab k.marks.length cb) (f' := .slice Ac k.inbox.length cc) HT4.out.res)
    have HD := Lib.hid (put6_below (V := V3) (B := w.heap.size) (R := w.heap.size + 1) (by omega) HT4.out.bel (.int .i64 k.id) (.int .i64 k.time) (.int .i64 k.next) (.slice A2 n2 c2) (.slice Ab k.marks.length cb) (.slice Ac k.inbox.length cc))
    have HG := Lib.hid (show SeesK (put6 V3 (w.heap.size + 1) (.int .i64 k.id) (.int .i64 k.time) (.int .i64 k.next) (.slice A2 n2 c2) (.slice Ab k.marks.length cb) (.slice Ac k.inbox.length cc)) { k with held := putN k.held y } (.slice A2 n2 c2) (.slice Ab k.marks.length cb) (.slice Ac k.inbox.length cc) from ⟨OwnAt.sees (OwnAt.put6 (W := V3) P2.out (R := w.heap.size + 1) (by omega) _ _ _ _ _ _), HS.out.marks.later HD.out, HS.out.inbox.later HD.out⟩)
    go_wp2
    have x0 := HC.out.cell 0
    have x1 := HC.out.cell 1
    have x2 := HC.out.cell 2
    have x3 := HC.out.cell 3
    have x4 := HC.out.cell 4
    have x5 := HC.out.cell 5
    refine bodyPost_ret (v := .tuple #[kpV ({ k with held := putN k.held y }).id ({ k with held := putN k.held y }).time ({ k with held := putN k.held y }).next (.slice A2 n2 c2) (.slice Ab k.marks.length cb) (.slice Ac k.inbox.length cc), .bool true]) (by simp [results, Tryz.results81, go_sem, x0, x1, x2, x3, x4, x5]) rfl ⟨{ k with held := putN k.held y }, true, HP.out, HZZ.out, _, _, _, rfl, HG.out, HD.out⟩
   ·rw [he2] at HI2
    have HP := Lib.hid (HR2.out.1 (.inr (.inr hn2)))
    clear hn1 hn2 he1 he2 HR2
    have hi0 : (0 : Int) ≤ (i : Int) := by omega
    go_wp2_with fail
    refine HI1.out.mono ?_
    rintro e w4 ⟨rfl, rfl⟩
    go_wp2_with fail
    refine HI2.out.mono ?_
    rintro e w4 ⟨rfl, rfl⟩
    clear HI1 HI2 n0 n1 n2 n3 n4
    have HZZ := Lib.hid (HZ.out.up (show 12 ≤ 14 by omega))
    have HC := Lib.hid (put6_blk (V := W) (a' := .int .i64 k.id) (b' := .int .i64 k.time) (c' := .int .i64 k.next) (d' := .slice Aa k.held.length ca) (e' := .slice Ab k.marks.length cb) (f' := .slice Ac k.inbox.length cc) HTa.out.res)
    have HD := Lib.hid (put6_below (V := W) (B := w.heap.size) (R := w.heap.size + 1) (by omega) HTa.out.bel (.int .i64 k.id) (.int .i64 k.time) (.int .i64 k.next) (.slice Aa k.held.length ca) (.slice Ab k.marks.length cb) (.slice Ac k.inbox.length cc))
    have HG := Lib.hid (show SeesK (put6 W (w.heap.size + 1) (.int .i64 k.id) (.int .i64 k.time) (.int .i64 k.next) (.slice Aa k.held.length ca) (.slice Ab k.marks.length cb) (.slice Ac k.inbox.length cc)) k (.slice Aa k.held.length ca) (.slice Ab k.marks.length cb) (.slice Ac k.inbox.length cc) from HS.out.later HD.out)
    go_wp2
    have x0 := HC.out.cell 0
    have x1 := HC.out.cell 1
    have x2 := HC.out.cell 2
    have x3 := HC.out.cell 3
    have x4 := HC.out.cell 4
    have x5 := HC.out.cell 5
    refine bodyPost_ret (v := .tuple #[kpV (k).id (k).time (k).next (.slice Aa k.held.length ca) (.slice Ab k.marks.length cb) (.slice Ac k.inbox.length cc), .bool false]) (by simp [results, Tryz.results81, go_sem, x0, x1, x2, x3, x4, x5]) rfl ⟨k, false, HP.out, HZZ.out, _, _, _, rfl, HG.out, HD.out⟩
  ·rw [he1] at HI1
   have HP := Lib.hid (HR2.out.1 (.inr (.inl hn1)))
   clear hn1 he1 HR2 HI2
   have hi0 : (0 : Int) ≤ (i : Int) := by omega
   go_wp2_with fail
   refine HI1.out.mono ?_
   rintro e w4 ⟨rfl, rfl⟩
   clear HI1 n0 n1 n2 n3 n4
   have HZZ := Lib.hid (HZ.out.up (show 12 ≤ 14 by omega))
   have HC := Lib.hid (put6_blk (V := W) (a' := .int .i64 k.id) (b' := .int .i64 k.time) (c' := .int .i64 k.next) (d' := .slice Aa k.held.length ca) (e' := .slice Ab k.marks.length cb) (f' := .slice Ac k.inbox.length cc) HTa.out.res)
   have HD := Lib.hid (put6_below (V := W) (B := w.heap.size) (R := w.heap.size + 1) (by omega) HTa.out.bel (.int .i64 k.id) (.int .i64 k.time) (.int .i64 k.next) (.slice Aa k.held.length ca) (.slice Ab k.marks.length cb) (.slice Ac k.inbox.length cc))
   have HG := Lib.hid (show SeesK (put6 W (w.heap.size + 1) (.int .i64 k.id) (.int .i64 k.time) (.int .i64 k.next) (.slice Aa k.held.length ca) (.slice Ab k.marks.length cb) (.slice Ac k.inbox.length cc)) k (.slice Aa k.held.length ca) (.slice Ab k.marks.length cb) (.slice Ac k.inbox.length cc) from HS.out.later HD.out)
   go_wp2
   have x0 := HC.out.cell 0
   have x1 := HC.out.cell 1
   have x2 := HC.out.cell 2
   have x3 := HC.out.cell 3
   have x4 := HC.out.cell 4
   have x5 := HC.out.cell 5
   refine bodyPost_ret (v := .tuple #[kpV (k).id (k).time (k).next (.slice Aa k.held.length ca) (.slice Ab k.marks.length cb) (.slice Ac k.inbox.length cc), .bool false]) (by simp [results, Tryz.results81, go_sem, x0, x1, x2, x3, x4, x5]) rfl ⟨k, false, HP.out, HZZ.out, _, _, _, rfl, HG.out, HD.out⟩
set_option maxRecDepth 100000 in
set_option maxHeartbeats 4000000 in
theorem rec_inbox (w : World) (k : Kp) (a b c : Value) (x : ByteArray) (hs : x.size ≤ 1048576) (h : SeesK w k a b c) (ho : okK k = true) (hw : (word x.data.toList).1 = kwInbox) :
  Calls Tryz.prog 81 #[kpV k.id k.time k.next a b c, .string x] w (RecPost w k x.data.toList) := by
 have HZ := Lib.hid (sz_ok ho)
 have HS := Lib.hid h
 have HW := Lib.hid (fun W => sword_any x hs W)
 unfold WordPost at HW
 have hrl : (str (word x.data.toList).2).size ≤ 1048576 := by rw [str_size]; have := (word_len x.data.toList).2; rw [← Lib.size_eq] at this; omega
 have HR := Lib.hid (fun (bb : Bool) (y : Nt) (hr : RD (str (word x.data.toList).2) bb y.f y.n y.t y.u y.s) => (⟨fun hv => rec_inbox_no hw hr hv, fun hb h1 h2 => rec_inbox_yes hw (hb ▸ hr) h1 h2⟩ : (bb = false ∨ hasN k.held y.f y.n = true ∨ hasN k.inbox y.f y.n = true → RecP k x.data.toList k false) ∧ (bb = true → hasN k.held y.f y.n = false → hasN k.inbox y.f y.n = false → RecP k x.data.toList { k with inbox := putN k.inbox y } true)))
 have HN := Lib.hid (fun W => sread_any (str (word x.data.toList).2) hrl W)
 generalize (word x.data.toList).2 = rest at HW HR HN hrl
 have hkw : str kwInbox = ⟨#[105, 110, 98, 111, 120]⟩ := rfl
 rw [hw, hkw] at HW
 clear hkw
 obtain ⟨Aa, ca, rfl, _⟩ := h.held
 obtain ⟨Ab, cb, rfl, _⟩ := h.marks
 obtain ⟨Ac, cc, rfl, _⟩ := h.inbox
 have HT := Lib.hid (CB.new w k (.slice Aa k.held.length ca) (.slice Ab k.marks.length cb) (.slice Ac k.inbox.length cc))
 clear h hw ho hrl
 go_enter Tryz.func81, Tryz.ntmps81
 go_upto_region 1 with (fail)
 generalize (w.alloc (.cells #[.int .i64 k.id, .int .i64 k.time, .int .i64 k.next, .slice Aa k.held.length ca, .slice Ab k.marks.length cb, .slice Ac k.inbox.length cc] 39)).alloc (.cells #[.int .i64 0, .int .i64 0, .int .i64 0, .slice none 0 0, .slice none 0 0, .slice none 0 0] 39) = V at HT ⊢
 go_wp2_with fail
 refine (HW.out _).mono ?_
 rintro e w1 ⟨rfl, hB1⟩
 have HT1 := Lib.hid (HT.out.later hB1)
 clear HT hB1 HW
 go_wp2_with fail
 refine (HN.out _).mono ?_
 rintro e w2 ⟨bb, f, n, t, u, s, rfl, hrd, hB2⟩
 obtain ⟨y, hy⟩ : ∃ y : Nt, y = ⟨f, n, t, u, s⟩ := ⟨_, rfl⟩
 have e1 : f = y.f := by rw [hy]
 have e2 : n = y.n := by rw [hy]
 have e3 : t = y.t := by rw [hy]
 have e4 : u = y.u := by rw [hy]
 have e5 : s = y.s := by rw [hy]
 subst e1; subst e2; subst e3; subst e4; subst e5
 clear hy
 have HT2 := Lib.hid (HT1.out.later hB2)
 have hR := HR.out bb y hrd
 have HR2 := Lib.hid hR
 have hNt := HT2.out.sz
 clear hB2 HT1 HR hR HN
 have HTa := Lib.hid (HT2.out.later ((Below.refl w2.heap.size w2).alloc (Nat.le_refl _) (.cells #[.int .i64 y.f, .int .i64 y.n, .int .i64 y.t, .int .i64 y.u, .string y.s] 105)))
 have HNa := Lib.hid (Blk.new w2 105 #[.int .i64 y.f, .int .i64 y.n, .int .i64 y.t, .int .i64 y.u, .string y.s])
 have HRd := Lib.hid hrd
 clear hrd HT2
 unfold note
 go_upto_region 28 with (fail)
 generalize w2.alloc (.cells #[.int .i64 y.f, .int .i64 y.n, .int .i64 y.t, .int .i64 y.u, .string y.s] 105) = W at HTa HNa ⊢
 generalize w2.heap.size = NB at HNa hNt ⊢
 obtain ⟨n0, n1, n2, n3, n4⟩ := nt_cells HNa.out
 obtain ⟨b0, b1, b2, b3, b4, b5, g0, g1, g2, g3, g4, g5⟩ := res_cells HTa.out.box
 obtain ⟨r0, r1, r2, r3, r4, r5, f0, f1, f2, f3, f4, f5⟩ := res_cells HTa.out.res
 cases bb with
 | false =>
  have HP := Lib.hid (HR2.out.1 (.inl rfl))
  clear n0 n1 n2 n3 n4 HNa
  have HZZ := Lib.hid (HZ.out.up (show 12 ≤ 14 by omega))
  have HC := Lib.hid (put6_blk (V := W) (a' := .int .i64 k.id) (b' := .int .i64 k.time) (c' := .int .i64 k.next) (d' := .slice Aa k.held.length ca) (e' := .slice Ab k.marks.length cb) (f' := .slice Ac k.inbox.length cc) HTa.out.res)
  have HD := Lib.hid (put6_below (V := W) (B := w.heap.size) (R := w.heap.size + 1) (by omega) HTa.out.bel (.int .i64 k.id) (.int .i64 k.time) (.int .i64 k.next) (.slice Aa k.held.length ca) (.slice Ab k.marks.length cb) (.slice Ac k.inbox.length cc))
  have HG := Lib.hid (show SeesK (put6 W (w.heap.size + 1) (.int .i64 k.id) (.int .i64 k.time) (.int .i64 k.next) (.slice Aa k.held.length ca) (.slice Ab k.marks.length cb) (.slice Ac k.inbox.length cc)) k (.slice Aa k.held.length ca) (.slice Ab k.marks.length cb) (.slice Ac k.inbox.length cc) from HS.out.later HD.out)
  go_wp2
  have x0 := HC.out.cell 0
  have x1 := HC.out.cell 1
  have x2 := HC.out.cell 2
  have x3 := HC.out.cell 3
  have x4 := HC.out.cell 4
  have x5 := HC.out.cell 5
  refine bodyPost_ret (v := .tuple #[kpV (k).id (k).time (k).next (.slice Aa k.held.length ca) (.slice Ab k.marks.length cb) (.slice Ac k.inbox.length cc), .bool false]) (by simp [results, Tryz.results81, go_sem, x0, x1, x2, x3, x4, x5]) rfl ⟨k, false, HP.out, HZZ.out, _, _, _, rfl, HG.out, HD.out⟩
 | true =>
  have HI1 := Lib.hid (ixN_any W _ k.held y.f y.n (HS.out.held.later HTa.out.bel) (HZ.out.few (by omega)).1)
  have HI2 := Lib.hid (ixN_any W _ k.inbox y.f y.n (HS.out.inbox.later HTa.out.bel) (HZ.out.few (by omega)).2.2)
  unfold IsI at HI1 HI2
  rcases ixN_cases k.held y.f y.n with ⟨hn1, he1⟩ | ⟨hn1, i, x1, he1, _, _, _⟩
  ·rw [he1] at HI1
   rcases ixN_cases k.inbox y.f y.n with ⟨hn2, he2⟩ | ⟨hn2, i, x2, he2, _, _, _⟩
   ·rw [he2] at HI2
    have HP := Lib.hid (HR2.out.2 rfl hn1 hn2)
    have hys' : y.s.size ≤ 1048576 := okNt_size (rd_true HRd.out).1
    have HZZ := Lib.hid ((sz_inbox HZ.out hys').up (show 12 + 1 ≤ 14 by omega))
    have HPN := Lib.hid (putN_any W _ k.inbox y (HS.out.inbox.later HTa.out.bel) (by have := HZ.out.few (show 12 ≤ 1048576 by omega); omega))
    unfold ListN ntV note at HPN
    clear hn1 hn2 he1 he2 HR2 hys'
    go_wp2_with fail
    refine HI1.out.mono ?_
    rintro e w4 ⟨rfl, rfl⟩
    go_wp2_with fail
    refine HI2.out.mono ?_
    rintro e w4 ⟨rfl, rfl⟩
    clear HI1 HI2
    go_wp2_with fail
    refine HPN.out.mono ?_
    rintro e w3 ⟨vm, rfl, hO⟩
    obtain ⟨A2, c2, rfl⟩ := OwnR.form hO
    have hzw := hO.2.size
    have hsz := HTa.out.sz
    have O2 : OwnAt ntS 105 W.heap.size w3 (.slice A2 (putN k.inbox y).length c2) (putN k.inbox y) := hO.1
    have HT4 := Lib.hid ((HTa.out.later hO.2).put5 (.slice A2 (putN k.inbox y).length c2))
    have P2 := Lib.hid (OwnAt.set O2 (p := ⟨w.heap.size, 5, none⟩) (by show w.heap.size < W.heap.size; omega) (.slice A2 (putN k.inbox y).length c2))
    clear b0 b1 b2 b3 b4 b5 g0 g1 g2 g3 g4 g5 r0 r1 r2 r3 r4 r5 f0 f1 f2 f3 f4 f5
    obtain ⟨b0, b1, b2, b3, b4, b5, _, _, _, g3, g4, g5⟩ := res_cells (HTa.out.later hO.2).box
    clear O2 hO HPN n0 n1 n2 n3 n4 HNa HTa
    obtain ⟨n2, hn2⟩ : ∃ n2, n2 = (putN k.inbox y).length := ⟨_, rfl⟩
    rw [← hn2] at HT4 P2 ⊢
    clear hn2
    go_upto_region 33 with (fail)
    clear b0 b1 b2 b3 b4 b5 g3 g4 g5
    generalize w3.setCell ⟨w.heap.size, 5, none⟩ (.slice A2 n2 c2) = V3 at HT4 P2 ⊢
    obtain ⟨b0, b1, b2, b3, b4, b5, g0, g1, g2, g3, g4, g5⟩ := res_cells HT4.out.box
    obtain ⟨r0, r1, r2, r3, r4, r5, f0, f1, f2, f3, f4, f5⟩ := res_cells HT4.out.res
    have HC := Lib.hid (put6_blk (V := V3) (a' := .int .i64 k.id) (b' := .int .i64 k.time) (c' := .int .i64 k.next) (d' := .slice Aa k.held.length ca) (e' := .slice Ab k.marks.length cb) (f' := .slice A2 n2 c2) HT4.out.res)
    have HD := Lib.hid (put6_below (V := V3) (B := w.heap.size) (R := w.heap.size + 1) (by omega) HT4.out.bel (.int .i64 k.id) (.int .i64 k.time) (.int .i64 k.next) (.slice Aa k.held.length ca) (.slice Ab k.marks.length cb) (.slice A2 n2 c2))
    have HG := Lib.hid (show SeesK (put6 V3 (w.heap.size + 1) (.int .i64 k.id) (.int .i64 k.time) (.int .i64 k.next) (.slice Aa k.held.length ca) (.slice Ab k.marks.length cb) (.slice A2 n2 c2)) { k with inbox := putN k.inbox y } (.slice Aa k.held.length ca) (.slice Ab k.marks.length cb) (.slice A2 n2 c2) from ⟨HS.out.held.later HD.out, HS.out.marks.later HD.out, OwnAt.sees (OwnAt.put6 (W := V3) P2.out (R := w.heap.size + 1) (by omega) _ _ _ _ _ _)⟩)
    go_wp2
    have x0 := HC.out.cell 0
    have x1 := HC.out.cell 1
    have x2 := HC.out.cell 2
    have x3 := HC.out.cell 3
    have x4 := HC.out.cell 4
    have x5 := HC.out.cell 5
    refine bodyPost_ret (v := .tuple #[kpV ({ k with inbox := putN k.inbox y }).id ({ k with inbox := putN k.inbox y }).time ({ k with inbox := putN k.inbox y }).next (.slice Aa k.held.length ca) (.slice Ab k.marks.length cb) (.slice A2 n2 c2), .bool true]) (by simp [results, Tryz.results81, go_sem, x0, x1, x2, x3, x4, x5]) rfl ⟨{ k with inbox := putN k.inbox y }, true, HP.out, HZZ.out, _, _, _, rfl, HG.out, HD.out⟩
   ·rw [he2] at HI2
    have HP := Lib.hid (HR2.out.1 (.inr (.inr hn2)))
    clear hn1 hn2 he1 he2 HR2
    have hi0 : (0 : Int) ≤ (i : Int) := by omega
    go_wp2_with fail
    refine HI1.out.mono ?_
    rintro e w4 ⟨rfl, rfl⟩
    go_wp2_with fail
    refine HI2.out.mono ?_
    rintro e w4 ⟨rfl, rfl⟩
    clear HI1 HI2 n0 n1 n2 n3 n4
    have HZZ := Lib.hid (HZ.out.up (show 12 ≤ 14 by omega))
    have HC := Lib.hid (put6_blk (V := W) (a' := .int .i64 k.id) (b' := .int .i64 k.time) (c' := .int .i64 k.next) (d' := .slice Aa k.held.length ca) (e' := .slice Ab k.marks.length cb) (f' := .slice Ac k.inbox.length cc) HTa.out.res)
    have HD := Lib.hid (put6_below (V := W) (B := w.heap.size) (R := w.heap.size + 1) (by omega) HTa.out.bel (.int .i64 k.id) (.int .i64 k.time) (.int .i64 k.next) (.slice Aa k.held.length ca) (.slice Ab k.marks.length cb) (.slice Ac k.inbox.length cc))
    have HG := Lib.hid (show SeesK (put6 W (w.heap.size + 1) (.int .i64 k.id) (.int .i64 k.time) (.int .i64 k.next) (.slice Aa k.held.length ca) (.slice Ab k.marks.length cb) (.slice Ac k.inbox.length cc)) k (.slice Aa k.held.length ca) (.slice Ab k.marks.length cb) (.slice Ac k.inbox.length cc) from HS.out.later HD.out)
    go_wp2
    have x0 := HC.out.cell 0
    have x1 := HC.out.cell 1
    have x2 := HC.out.cell 2
    have x3 := HC.out.cell 3
    have x4 := HC.out.cell 4
    have x5 := HC.out.cell 5
    refine bodyPost_ret (v := .tuple #[kpV (k).id (k).time (k).next (.slice Aa k.held.length ca) (.slice Ab k.marks.length cb) (.slice Ac k.inbox.length cc), .bool false]) (by simp [results, Tryz.results81, go_sem, x0, x1, x2, x3, x4, x5]) rfl ⟨k, false, HP.out, HZZ.out, _, _, _, rfl, HG.out, HD.out⟩
  ·rw [he1] at HI1
   have HP := Lib.hid (HR2.out.1 (.inr (.inl hn1)))
   clear hn1 he1 HR2 HI2
   have hi0 : (0 : Int) ≤ (i : Int) := by omega
   go_wp2_with fail
   refine HI1.out.mono ?_
   rintro e w4 ⟨rfl, rfl⟩
   clear HI1 n0 n1 n2 n3 n4
   have HZZ := Lib.hid (HZ.out.up (show 12 ≤ 14 by omega))
   have HC := Lib.hid (put6_blk (V := W) (a' := .int .i64 k.id) (b' := .int .i64 k.time) (c' := .int .i64 k.next) (d' := .slice Aa k.held.length ca) (e' := .slice Ab k.marks.length cb) (f' := .slice Ac k.inbox.length cc) HTa.out.res)
   have HD := Lib.hid (put6_below (V := W) (B := w.heap.size) (R := w.heap.size + 1) (by omega) HTa.out.bel (.int .i64 k.id) (.int .i64 k.time) (.int .i64 k.next) (.slice Aa k.held.length ca) (.slice Ab k.marks.length cb) (.slice Ac k.inbox.length cc))
   have HG := Lib.hid (show SeesK (put6 W (w.heap.size + 1) (.int .i64 k.id) (.int .i64 k.time) (.int .i64 k.next) (.slice Aa k.held.length ca) (.slice Ab k.marks.length cb) (.slice Ac k.inbox.length cc)) k (.slice Aa k.held.length ca) (.slice Ab k.marks.length cb) (.slice Ac k.inbox.length cc) from HS.out.later HD.out)
   go_wp2
   have x0 := HC.out.cell 0
   have x1 := HC.out.cell 1
   have x2 := HC.out.cell 2
   have x3 := HC.out.cell 3
   have x4 := HC.out.cell 4
   have x5 := HC.out.cell 5
   refine bodyPost_ret (v := .tuple #[kpV (k).id (k).time (k).next (.slice Aa k.held.length ca) (.slice Ab k.marks.length cb) (.slice Ac k.inbox.length cc), .bool false]) (by simp [results, Tryz.results81, go_sem, x0, x1, x2, x3, x4, x5]) rfl ⟨k, false, HP.out, HZZ.out, _, _, _, rfl, HG.out, HD.out⟩
end Go.Proofs.YtckicpnnclbkpaaGreatDoor.kp

namespace Go.Proofs.YtckicpnnclbkpaaGreatDoor.kp
open Go.ChangeShapes Go.WideShapes Go.ChangeAt Go.RowKit
open wd ow rl ok nb
set_option maxRecDepth 100000 in
set_option maxHeartbeats 4000000 in
theorem let_any (w : World) (k : Kp) (a b c : Value) (f n : Int) (i : Nat) (x : Nt) (h : SeesK w k a b c) (hl : k.held.length ≤ 1048576 ∧ k.marks.length ≤ 1048576 ∧ k.inbox.length ≤ 1048576) (hr : Room a) (hix : ixN k.held f n = (i : Nat)) (hx : k.held[i]? = some x) :
  Calls Tryz.prog 116 #[kpV k.id k.time k.next a b c, .int .i64 f, .int .i64 n] w (ResK w (letS k i ⟨f, n, x.u⟩) true a b c) := by
 obtain ⟨hl1, hl2, hl3⟩ := hl
 obtain ⟨i0, hi, hz0, hz1, hz2⟩ := info_parts infoNote
 obtain ⟨Ab, cb, rfl, _⟩ := h.marks
 obtain ⟨Ac, cc, rfl, _⟩ := h.inbox
 have HS := Lib.hid h
 have hin := h.held
 have hil : i < k.held.length := (List.getElem?_eq_some_iff.1 hx).1
 obtain ⟨Aa, ca, rfl, hcc⟩ := hin
 rcases hcc with ⟨_, _, e⟩ | ⟨g, rfl, hg, hcell⟩
 ·rw [e] at hil; simp at hil
 obtain ⟨_, _, _, e, hr1, hr2⟩ := hr
 injection e with e1 e2 e3
 subst e1; subst e2; subst e3
 have HNt := Lib.hid (fun V (hV : Below w.heap.size w V) => (show V.cell? ⟨g, i * 5, none⟩ = some (.int .i64 x.f) ∧ V.cell? ⟨g, i * 5 + 1, none⟩ = some (.int .i64 x.n) ∧ V.cell? ⟨g, i * 5 + 2, none⟩ = some (.int .i64 x.t) ∧ V.cell? ⟨g, i * 5 + 3, none⟩ = some (.int .i64 x.u) ∧ V.cell? ⟨g, i * 5 + 4, none⟩ = some (.string x.s) from by
  obtain ⟨g', c', e, _, _, t0, t1, t2, t3, t4⟩ := note_at (h.held.later hV) hx
  injection e with e1 e2 e3
  injection e1 with e1
  injection e1 with e1
  subst e1
  exact ⟨t0, t1, t2, t3, t4⟩))
 have HPM := Lib.hid (fun V (hV : Below w.heap.size w V) => putM_any V _ k.marks ⟨f, n, x.u⟩ (h.marks.later hV) hl2)
 unfold ListM mkV mark at HPM
 have HIx := Lib.hid (fun V (hV : Below w.heap.size w V) => ixN_any V _ k.held f n (h.held.later hV) hl1)
 rw [hix] at HIx
 unfold IsI at HIx
 have HT := Lib.hid (CB.new w k (.slice (some ⟨g, 0, none⟩) k.held.length ca) (.slice Ab k.marks.length cb) (.slice Ac k.inbox.length cc))
 have HCell := Lib.hid hcell
 unfold maxLen at hr2
 have hA0 : (0 : Int) ≤ (i : Int) := by omega
 have hA2 : (i : Int) ≤ (ca : Int) := by omega
 have hA3 : IntKind.i64.wrap ((i : Int) + 1) = (i : Int) + 1 := by rw [IntKind.wrap_i64]; omega
 have hA4 : (0 : Int) ≤ (i : Int) + 1 := by omega
 have hA5 : (i : Int) + 1 ≤ (k.held.length : Int) := by omega
 have hA6 : (i : Int) + 1 ≤ (ca : Int) := by omega
 have hA7 : (k.held.length : Int) ≤ (ca : Int) := by omega
 have htl : (k.held.take i).length = i := by rw [List.length_take]; omega
 have hdl : (k.held.drop (i + 1)).length = k.held.length - (i + 1) := by rw [List.length_drop]
 clear h hcell hix hx
 go_enter Tryz.func116, Tryz.ntmps116
 go_upto_region 1 with (fail)
 generalize (w.alloc (.cells #[.int .i64 k.id, .int .i64 k.time, .int .i64 k.next, .slice (some ⟨g, 0, none⟩) k.held.length ca, .slice Ab k.marks.length cb, .slice Ac k.inbox.length cc] 39)).alloc (.cells #[.int .i64 0, .int .i64 0, .int .i64 0, .slice none 0 0, .slice none 0 0, .slice none 0 0] 39) = V at HT ⊢
 obtain ⟨b0, b1, b2, b3, b4, b5, _, _, _, g3, g4, g5⟩ := res_cells HT.out.box
 have hs1 := HT.out.sz
 go_wp2_with fail
 refine (HIx.out _ HT.out.bel).mono ?_
 rintro e w1 ⟨rfl, rfl⟩
 clear HIx
 have hNt := HNt.out _ HT.out.bel
 obtain ⟨t0, t1, t2, t3, t4⟩ := hNt
 have hk1 : (i : Int) < (k.held.length : Int) := by omega
 go_upto_region 5 with (fail)
 have HB0 := Lib.hid ((Below.refl V.heap.size V).alloc (Nat.le_refl _) (.cells #[.int .i64 x.f, .int .i64 x.n, .int .i64 x.t, .int .i64 x.u, .string x.s] 105))
 have HT0 := HT
 have HN0 := Lib.hid (Blk.new V 105 #[.int .i64 x.f, .int .i64 x.n, .int .i64 x.t, .int .i64 x.u, .string x.s])
 have HTa := Lib.hid (HT.out.later HB0.out)
 have hNlt := HN0.out.lt
 have hNB := hs1
 clear HT HT0 HNt t0 t1 t2 t3 t4 b0 b1 b2 b3 b4 b5 g3 g4 g5 hs1 HB0
 generalize V.heap.size = NB at HN0 hNlt hNB ⊢
 generalize V.alloc (.cells #[.int .i64 x.f, .int .i64 x.n, .int .i64 x.t, .int .i64 x.u, .string x.s] 105) = W at HTa HN0 hNlt ⊢
 have HT := HTa
 clear HTa
 obtain ⟨b0, b1, b2, b3, b4, b5, _, _, _, g3, g4, g5⟩ := res_cells HT.out.box
 have hs1 := HT.out.sz
 have hOE : OwnAt ntS 105 W.heap.size (W.alloc (.cells #[] 105)) (.slice (some ⟨W.heap.size, 0, none⟩) 0 0) [] := ownAt_new (S := ntS) (t := 105) (B := W.heap.size) W (Nat.le_refl _)
 have HBA := Lib.hid (HT.out.bel.alloc HT.out.bel.size (.cells #[] 105))
 have HF := Lib.hid (fun Y (hW : Below W.heap.size W Y) => show Y.cell? ⟨w.heap.size, 3, none⟩ = some (.slice (some ⟨g, 0, none⟩) k.held.length ca) from (res_cells (HT.out.box.below hW HT.out.box.lt)).2.2.2.1)
 have HFz := Lib.hid (fun Y (hW : Below W.heap.size W Y) => show Y.frozen? ⟨w.heap.size, 3, none⟩ = false from (HT.out.box.below hW HT.out.box.lt).frozen 3)
 have d5 := HF.out _ ((Below.refl _ W).alloc (Nat.le_refl _) (.cells #[] 105))
 have HPart := Lib.hid (fun Y (hW : Below W.heap.size W Y) => show PartR ntS Y (if ca = i + 1 then some ⟨g, 0, none⟩ else some ⟨g, (i + 1) * 5, none⟩) (ca - (i + 1)) (k.held.drop (i + 1)) from by
  by_cases hce : ca = i + 1
  ·rw [if_pos hce]; exact rpart_none g (List.drop_eq_nil_of_le (by omega))
  ·rw [if_neg hce]; exact rpart_drop hg HCell.out (HT.out.bel.trans (hW.mono HT.out.bel.size)) (i + 1))
 have hlc : i + (k.held.drop (i + 1)).length = (cutL k.held i).length := by unfold cutL; rw [List.length_append, htl]
 by_cases hce : ca = i + 1
 ·have hif : (if ca = i + 1 then (some ⟨g, 0, none⟩ : Option Addr) else some ⟨g, (i + 1) * 5, none⟩) = some ⟨g, 0, none⟩ := if_pos hce
  rw [hif] at HPart
  clear hce
  go_cut [8] from 23 to 35 (fun p wx => p = .int .i64 i ∧ ∃ A10 n10 c10, Hid (CB w wx k (.slice A10 n10 c10) (.slice Ab k.marks.length cb) (.slice Ac k.inbox.length cc)) ∧ Hid (OwnAt ntS 105 W.heap.size wx (.slice A10 n10 c10) (cutL k.held i)) ∧ Hid (Blk wx NB 105 #[.int .i64 x.f, .int .i64 x.n, .int .i64 x.t, .int .i64 x.u, .string x.s]))
  case first =>
   go_region_law (first | (refine step_append_recs ntS (by decide) rfl (.tmp 23) (.tmp 27) 36 rfl W.heap.size 105 i0 _ 48 Tryz.underlying36 hi hz0 hz1 hz2 rfl _ 0 [] (by simp [Act.eval, Act.put]) hOE (some ⟨g, 0, none⟩) i ca (k.held.take i) (by simp [Act.eval, Act.put]) htl.symm ?_ (by unfold maxLen; omega) (by omega) (by simp) ?_; (exact rpart_take hg HCell.out HBA.out i); intro v9 w9 hown9 hgrow9; rw [Nat.zero_add, htl] at hown9; have D9 : Below W.heap.size W w9 := app_below (o := .cells #[] 105) (n := 0) (c := 0) ⟨hgrow9.os, hgrow9.tape, hgrow9.output, hgrow9.size, hgrow9.block⟩; have d9 := HF.out w9 D9; have z9 := D9.size; obtain ⟨A9, c9, e9⟩ := row_form hown9; subst e9) | (refine step_append_recs ntS (by decide) rfl (.tmp 28) (.tmp 33) 36 rfl W.heap.size 105 i0 _ 48 Tryz.underlying36 hi hz0 hz1 hz2 rfl (.slice A9 i c9) i ([] ++ (k.held.take i).flatMap (ntS).f) (by simp [Act.eval, Act.put]) hown9 (some ⟨g, 0, none⟩) (k.held.length - (i + 1)) (ca - (i + 1)) (k.held.drop (i + 1)) (by simp [Act.eval, Act.put]) hdl.symm ?_ (by unfold maxLen; omega) (by omega) z9 ?_; (exact HPart.out _ D9); intro v10 w10 hown10 hgrow10; have D10 : Below W.heap.size W w10 := own_below D9 hown9 ⟨hgrow10.os, hgrow10.tape, hgrow10.output, hgrow10.size, hgrow10.block⟩ z9; have d10 := HF.out w10 D10; have e10' := HFz.out w10 D10; have HO10 := Lib.hid (ownAt_cut hown10 hlc); rw [hlc] at hown10; generalize (cutL k.held i).length = n10 at hown10; obtain ⟨A10, c10, e10⟩ := row_form hown10; subst e10; have HD10 := Lib.hid D10; clear hown9 hgrow9 hown10 hgrow10 d9 D9 D10 z9))
   all_goals
    have HTn := Lib.hid ((HT.out.later HD10.out).put3 (.slice A10 n10 c10))
    have HNn := Lib.hid ((HN0.out.below HD10.out hNlt).far (p := ⟨w.heap.size, 3, none⟩) (by show NB ≠ w.heap.size; omega) (.slice A10 n10 c10))
    have HP := Lib.hid (OwnAt.set HO10.out (p := ⟨w.heap.size, 3, none⟩) (by show w.heap.size < W.heap.size; omega) (.slice A10 n10 c10))
    go_wp2_with fail
    go_meet
    exact ⟨rfl, A10, n10, c10, HTn, HP, HNn⟩
  case rest =>
   obtain ⟨rfl, A10, n10, c10, HTn, HP, HNn⟩ := hcut
   clear b0 b1 b2 b3 b4 b5 g3 g4 g5 d5 hOE HN0
   obtain ⟨b0, b1, b2, b3, b4, b5, _, _, _, g3, g4, g5⟩ := res_cells HTn.out.box
   have m3 : wc.cell? ⟨NB, 3, none⟩ = some (.int .i64 x.u) := HNn.out.cell 3
   have hsn := HTn.out.sz
   go_wp2_with fail
   refine (HPM.out _ HTn.out.bel).mono ?_
   rintro e w3 ⟨vm, rfl, hO⟩
   obtain ⟨A2, c2, rfl⟩ := OwnR.form hO
   have hzw := hO.2.size
   have O2 : OwnAt mkS 108 wc.heap.size w3 (.slice A2 (putM k.marks ⟨f, n, x.u⟩).length c2) ((putM k.marks ⟨f, n, x.u⟩)) := hO.1
   have HT4 := Lib.hid ((HTn.out.later hO.2).put4 (.slice A2 (putM k.marks ⟨f, n, x.u⟩).length c2))
   have P2 := Lib.hid (OwnAt.set O2 (p := ⟨w.heap.size, 4, none⟩) (by show w.heap.size < wc.heap.size; omega) (.slice A2 (putM k.marks ⟨f, n, x.u⟩).length c2))
   have Q1 := Lib.hid (OwnAt.set (OwnAt.later HP.out hO.2) (p := ⟨w.heap.size, 4, none⟩) (by show w.heap.size < W.heap.size; omega) (.slice A2 (putM k.marks ⟨f, n, x.u⟩).length c2))
   clear b0 b1 b2 b3 b4 b5 g3 g4 g5 m3
   obtain ⟨b0, b1, b2, b3, b4, b5, _, _, _, g3, g4, g5⟩ := res_cells (HTn.out.later hO.2).box
   clear O2 hO HTn HP HNn HPM
   obtain ⟨n2, hn2⟩ : ∃ n2, n2 = (putM k.marks ⟨f, n, x.u⟩).length := ⟨_, rfl⟩
   rw [← hn2] at HT4 P2 Q1 ⊢
   clear hn2
   go_upto_region 7 with (fail)
   clear b0 b1 b2 b3 b4 b5 g3 g4 g5
   generalize w3.setCell ⟨w.heap.size, 4, none⟩ (.slice A2 n2 c2) = V3 at HT4 P2 Q1 ⊢
   obtain ⟨b0, b1, b2, b3, b4, b5, _, _, _, _, _, _⟩ := res_cells HT4.out.box
   obtain ⟨r0, r1, r2, r3, r4, r5, f0, f1, f2, f3, f4, f5⟩ := res_cells HT4.out.res
   have HC := Lib.hid (put6_blk (V := V3) (a' := .int .i64 k.id) (b' := .int .i64 k.time) (c' := .int .i64 k.next) (d' := .slice A10 n10 c10) (e' := .slice A2 n2 c2) (f' := .slice Ac k.inbox.length cc) HT4.out.res)
   have HD := Lib.hid (put6_below (V := V3) (B := w.heap.size) (R := w.heap.size + 1) (by omega) HT4.out.bel (.int .i64 k.id) (.int .i64 k.time) (.int .i64 k.next) (.slice A10 n10 c10) (.slice A2 n2 c2) (.slice Ac k.inbox.length cc))
   have HG := Lib.hid (show SeesK (put6 V3 (w.heap.size + 1) (.int .i64 k.id) (.int .i64 k.time) (.int .i64 k.next) (.slice A10 n10 c10) (.slice A2 n2 c2) (.slice Ac k.inbox.length cc)) (letS k i ⟨f, n, x.u⟩) (.slice A10 n10 c10) (.slice A2 n2 c2) (.slice Ac k.inbox.length cc) from
    ⟨OwnAt.sees (OwnAt.put6 (W := V3) Q1.out (R := w.heap.size + 1) (by omega) _ _ _ _ _ _), OwnAt.sees (OwnAt.put6 (W := V3) P2.out (R := w.heap.size + 1) (by omega) _ _ _ _ _ _), HS.out.inbox.later HD.out⟩)
   have HF1 := Lib.hid (From.own (w := w) (v0 := .slice (some ⟨g, 0, none⟩) k.held.length ca) Q1.out (by omega))
   have HF2 := Lib.hid (From.own (w := w) (v0 := .slice Ab k.marks.length cb) P2.out (by omega))
   clear HT4 P2 Q1
   go_wp2
   have x0 := HC.out.cell 0
   have x1 := HC.out.cell 1
   have x2 := HC.out.cell 2
   have x3 := HC.out.cell 3
   have x4 := HC.out.cell 4
   have x5 := HC.out.cell 5
   refine bodyPost_ret (v := .tuple #[kpV k.id k.time k.next (.slice A10 n10 c10) (.slice A2 n2 c2) (.slice Ac k.inbox.length cc), .bool true]) (by simp [results, Tryz.results116, go_sem, x0, x1, x2, x3, x4, x5]) rfl ⟨_, _, _, rfl, HG.out, HD.out, HF1.out, HF2.out, From.refl _ _⟩
 ·rw [if_neg hce] at HPart
  go_cut [8] from 23 to 35 (fun p wx => p = .int .i64 i ∧ ∃ A10 n10 c10, Hid (CB w wx k (.slice A10 n10 c10) (.slice Ab k.marks.length cb) (.slice Ac k.inbox.length cc)) ∧ Hid (OwnAt ntS 105 W.heap.size wx (.slice A10 n10 c10) (cutL k.held i)) ∧ Hid (Blk wx NB 105 #[.int .i64 x.f, .int .i64 x.n, .int .i64 x.t, .int .i64 x.u, .string x.s]))
  case first =>
   go_region_law (first | (refine step_append_recs ntS (by decide) rfl (.tmp 23) (.tmp 27) 36 rfl W.heap.size 105 i0 _ 48 Tryz.underlying36 hi hz0 hz1 hz2 rfl _ 0 [] (by simp [Act.eval, Act.put]) hOE (some ⟨g, 0, none⟩) i ca (k.held.take i) (by simp [Act.eval, Act.put]) htl.symm ?_ (by unfold maxLen; omega) (by omega) (by simp) ?_; (exact rpart_take hg HCell.out HBA.out i); intro v9 w9 hown9 hgrow9; rw [Nat.zero_add, htl] at hown9; have D9 : Below W.heap.size W w9 := app_below (o := .cells #[] 105) (n := 0) (c := 0) ⟨hgrow9.os, hgrow9.tape, hgrow9.output, hgrow9.size, hgrow9.block⟩; have d9 := HF.out w9 D9; have z9 := D9.size; obtain ⟨A9, c9, e9⟩ := row_form hown9; subst e9) | (refine step_append_recs ntS (by decide) rfl (.tmp 28) (.tmp 33) 36 rfl W.heap.size 105 i0 _ 48 Tryz.underlying36 hi hz0 hz1 hz2 rfl (.slice A9 i c9) i ([] ++ (k.held.take i).flatMap (ntS).f) (by simp [Act.eval, Act.put]) hown9 (some ⟨g, (i + 1) * 5, none⟩) (k.held.length - (i + 1)) (ca - (i + 1)) (k.held.drop (i + 1)) (by simp [Act.eval, Act.put]) hdl.symm ?_ (by unfold maxLen; omega) (by omega) z9 ?_; (exact HPart.out _ D9); intro v10 w10 hown10 hgrow10; have D10 : Below W.heap.size W w10 := own_below D9 hown9 ⟨hgrow10.os, hgrow10.tape, hgrow10.output, hgrow10.size, hgrow10.block⟩ z9; have d10 := HF.out w10 D10; have e10' := HFz.out w10 D10; have HO10 := Lib.hid (ownAt_cut hown10 hlc); rw [hlc] at hown10; generalize (cutL k.held i).length = n10 at hown10; obtain ⟨A10, c10, e10⟩ := row_form hown10; subst e10; have HD10 := Lib.hid D10; clear hown9 hgrow9 hown10 hgrow10 d9 D9 D10 z9))
   all_goals
    have HTn := Lib.hid ((HT.out.later HD10.out).put3 (.slice A10 n10 c10))
    have HNn := Lib.hid ((HN0.out.below HD10.out hNlt).far (p := ⟨w.heap.size, 3, none⟩) (by show NB ≠ w.heap.size; omega) (.slice A10 n10 c10))
    have HP := Lib.hid (OwnAt.set HO10.out (p := ⟨w.heap.size, 3, none⟩) (by show w.heap.size < W.heap.size; omega) (.slice A10 n10 c10))
    go_wp2_with fail
    go_meet
    exact ⟨rfl, A10, n10, c10, HTn, HP, HNn⟩
  case rest =>
   obtain ⟨rfl, A10, n10, c10, HTn, HP, HNn⟩ := hcut
   clear b0 b1 b2 b3 b4 b5 g3 g4 g5 d5 hOE HN0
   obtain ⟨b0, b1, b2, b3, b4, b5, _, _, _, g3, g4, g5⟩ := res_cells HTn.out.box
   have m3 : wc.cell? ⟨NB, 3, none⟩ = some (.int .i64 x.u) := HNn.out.cell 3
   have hsn := HTn.out.sz
   go_wp2_with fail
   refine (HPM.out _ HTn.out.bel).mono ?_
   rintro e w3 ⟨vm, rfl, hO⟩
   obtain ⟨A2, c2, rfl⟩ := OwnR.form hO
   have hzw := hO.2.size
   have O2 : OwnAt mkS 108 wc.heap.size w3 (.slice A2 (putM k.marks ⟨f, n, x.u⟩).length c2) ((putM k.marks ⟨f, n, x.u⟩)) := hO.1
   have HT4 := Lib.hid ((HTn.out.later hO.2).put4 (.slice A2 (putM k.marks ⟨f, n, x.u⟩).length c2))
   have P2 := Lib.hid (OwnAt.set O2 (p := ⟨w.heap.size, 4, none⟩) (by show w.heap.size < wc.heap.size; omega) (.slice A2 (putM k.marks ⟨f, n, x.u⟩).length c2))
   have Q1 := Lib.hid (OwnAt.set (OwnAt.later HP.out hO.2) (p := ⟨w.heap.size, 4, none⟩) (by show w.heap.size < W.heap.size; omega) (.slice A2 (putM k.marks ⟨f, n, x.u⟩).length c2))
   clear b0 b1 b2 b3 b4 b5 g3 g4 g5 m3
   obtain ⟨b0, b1, b2, b3, b4, b5, _, _, _, g3, g4, g5⟩ := res_cells (HTn.out.later hO.2).box
   clear O2 hO HTn HP HNn HPM
   obtain ⟨n2, hn2⟩ : ∃ n2, n2 = (putM k.marks ⟨f, n, x.u⟩).length := ⟨_, rfl⟩
   rw [← hn2] at HT4 P2 Q1 ⊢
   clear hn2
   go_upto_region 7 with (fail)
   clear b0 b1 b2 b3 b4 b5 g3 g4 g5
   generalize w3.setCell ⟨w.heap.size, 4, none⟩ (.slice A2 n2 c2) = V3 at HT4 P2 Q1 ⊢
   obtain ⟨b0, b1, b2, b3, b4, b5, _, _, _, _, _, _⟩ := res_cells HT4.out.box
   obtain ⟨r0, r1, r2, r3, r4, r5, f0, f1, f2, f3, f4, f5⟩ := res_cells HT4.out.res
   have HC := Lib.hid (put6_blk (V := V3) (a' := .int .i64 k.id) (b' := .int .i64 k.time) (c' := .int .i64 k.next) (d' := .slice A10 n10 c10) (e' := .slice A2 n2 c2) (f' := .slice Ac k.inbox.length cc) HT4.out.res)
   have HD := Lib.hid (put6_below (V := V3) (B := w.heap.size) (R := w.heap.size + 1) (by omega) HT4.out.bel (.int .i64 k.id) (.int .i64 k.time) (.int .i64 k.next) (.slice A10 n10 c10) (.slice A2 n2 c2) (.slice Ac k.inbox.length cc))
   have HG := Lib.hid (show SeesK (put6 V3 (w.heap.size + 1) (.int .i64 k.id) (.int .i64 k.time) (.int .i64 k.next) (.slice A10 n10 c10) (.slice A2 n2 c2) (.slice Ac k.inbox.length cc)) (letS k i ⟨f, n, x.u⟩) (.slice A10 n10 c10) (.slice A2 n2 c2) (.slice Ac k.inbox.length cc) from
    ⟨OwnAt.sees (OwnAt.put6 (W := V3) Q1.out (R := w.heap.size + 1) (by omega) _ _ _ _ _ _), OwnAt.sees (OwnAt.put6 (W := V3) P2.out (R := w.heap.size + 1) (by omega) _ _ _ _ _ _), HS.out.inbox.later HD.out⟩)
   have HF1 := Lib.hid (From.own (w := w) (v0 := .slice (some ⟨g, 0, none⟩) k.held.length ca) Q1.out (by omega))
   have HF2 := Lib.hid (From.own (w := w) (v0 := .slice Ab k.marks.length cb) P2.out (by omega))
   clear HT4 P2 Q1
   go_wp2
   have x0 := HC.out.cell 0
   have x1 := HC.out.cell 1
   have x2 := HC.out.cell 2
   have x3 := HC.out.cell 3
   have x4 := HC.out.cell 4
   have x5 := HC.out.cell 5
   refine bodyPost_ret (v := .tuple #[kpV k.id k.time k.next (.slice A10 n10 c10) (.slice A2 n2 c2) (.slice Ac k.inbox.length cc), .bool true]) (by simp [results, Tryz.results116, go_sem, x0, x1, x2, x3, x4, x5]) rfl ⟨_, _, _, rfl, HG.out, HD.out, HF1.out, HF2.out, From.refl _ _⟩
end Go.Proofs.YtckicpnnclbkpaaGreatDoor.kp

