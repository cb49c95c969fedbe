/-
  Merged texts: SRec3, DecM, RecCut.
-/
import Derived.Test.YtjmmojjjopjdpaaGreatDoorGFnKeepOf5
import Derived.Test.YtjmmojjjopjdpaaGreatDoorGFnKeepOf12
import Derived.Test.YtjmmojjjopjdpaaGreatDoorGFnKeepOf13
import Derived.Test.YtjmmojjjopjdpaaGreatDoorGFnKeepOf11
import Derived.Test.YtjmmojjjopjdpaaGreatDoorGFnKeepOf10
import Derived.Deep.RegionHeld3
import Derived.Deep.RegionLaw
/-
  Contract of spec.l12Rec: held and inbox records.
-/
namespace Go.Proofs.YtjmmojjjopjdpaaGreatDoor.kp
open Go.ChangeShapes Go.WideShapes Go.ChangeAt Go.RowKit
open Go.Proofs.YtjmmojjjopjdpaaGreatDoor.wd Go.Proofs.YtjmmojjjopjdpaaGreatDoor.ow Go.Proofs.YtjmmojjjopjdpaaGreatDoor.rl Go.Proofs.YtjmmojjjopjdpaaGreatDoor.ok Go.Proofs.YtjmmojjjopjdpaaGreatDoor.nb Go.Proofs.YtjmmojjjopjdpaaGreatDoor.dc

set_option maxRecDepth 100000 in
set_option maxHeartbeats 4000000 in
theorem rec_held (w : World) (k : Kp) (a b c : Value) (x : ByteArray) (hs : x.size ≤ 1048576) (h : SeesK w k a b c) (ho : okK k = true) (hw : (word x.data.toList).1 = kwHeld) :
    Calls Tryz.prog 110 #[kpV k.id k.time k.next a b c, .string x] w (RecPost w k x.data.toList) := by
  have HZ := Lib.hid (sz_ok ho)
  have HS := Lib.hid h
  have HW := Lib.hid (fun W => sword_any x hs W)
  unfold WordPost at HW
  have hrl : (str (word x.data.toList).2).size ≤ 1048576 := by rw [str_size]; have := (word_len x.data.toList).2; rw [← Lib.size_eq] at this; omega
  have HR := Lib.hid (fun (bb : Bool) (y : Nt) (hr : RD (str (word x.data.toList).2) bb y.f y.n y.t y.u y.s) => (⟨fun hv => rec_held_no hw hr hv, fun hb h1 h2 => rec_held_yes hw (hb ▸ hr) h1 h2⟩ : (bb = false ∨ hasN k.held y.f y.n = true ∨ hasN k.inbox y.f y.n = true → RecP k x.data.toList k false) ∧ (bb = true → hasN k.held y.f y.n = false → hasN k.inbox y.f y.n = false → RecP k x.data.toList { k with held := putN k.held y } true)))
  have HN := Lib.hid (fun W => sread_any (str (word x.data.toList).2) hrl W)
  generalize (word x.data.toList).2 = rest at HW HR HN hrl
  have hkw : str kwHeld = ⟨#[104, 101, 108, 100]⟩ := rfl
  rw [hw, hkw] at HW
  clear hkw
  obtain ⟨Aa, ca, rfl, _⟩ := h.held
  obtain ⟨Ab, cb, rfl, _⟩ := h.marks
  obtain ⟨Ac, cc, rfl, _⟩ := h.inbox
  have HT := Lib.hid (CB.new w k (.slice Aa k.held.length ca) (.slice Ab k.marks.length cb) (.slice Ac k.inbox.length cc))
  clear h hw ho hrl
  go_enter Tryz.func110, Tryz.ntmps110
  go_upto_region 1 with (fail)
  generalize (w.alloc (.cells #[.int .i64 k.id, .int .i64 k.time, .int .i64 k.next, .slice Aa k.held.length ca, .slice Ab k.marks.length cb, .slice Ac k.inbox.length cc] 29)).alloc (.cells #[.int .i64 0, .int .i64 0, .int .i64 0, .slice none 0 0, .slice none 0 0, .slice none 0 0] 29) = V at HT ⊢
  go_wp2_with fail
  refine (HW.out _).mono ?_
  rintro e w1 ⟨rfl, hB1⟩
  have HT1 := Lib.hid (HT.out.later hB1)
  clear HT hB1 HW
  go_wp2_with fail
  refine (HN.out _).mono ?_
  rintro e w2 ⟨bb, f, n, t, u, s, rfl, hrd, hB2⟩
  obtain ⟨y, hy⟩ : ∃ y : Nt, y = ⟨f, n, t, u, s⟩ := ⟨_, rfl⟩
  have e1 : f = y.f := by rw [hy]
  have e2 : n = y.n := by rw [hy]
  have e3 : t = y.t := by rw [hy]
  have e4 : u = y.u := by rw [hy]
  have e5 : s = y.s := by rw [hy]
  subst e1; subst e2; subst e3; subst e4; subst e5
  clear hy
  have HT2 := Lib.hid (HT1.out.later hB2)
  have hR := HR.out bb y hrd
  have HR2 := Lib.hid hR
  have hNt := HT2.out.sz
  clear hB2 HT1 HR hR HN
  have HTa := Lib.hid (HT2.out.later ((Below.refl w2.heap.size w2).alloc (Nat.le_refl _) (.cells #[.int .i64 y.f, .int .i64 y.n, .int .i64 y.t, .int .i64 y.u, .string y.s] 131)))
  have HNa := Lib.hid (Blk.new w2 131 #[.int .i64 y.f, .int .i64 y.n, .int .i64 y.t, .int .i64 y.u, .string y.s])
  have HRd := Lib.hid hrd
  clear hrd HT2
  unfold note
  go_upto_region 28 with (fail)
  generalize w2.alloc (.cells #[.int .i64 y.f, .int .i64 y.n, .int .i64 y.t, .int .i64 y.u, .string y.s] 131) = W at HTa HNa ⊢
  generalize w2.heap.size = NB at HNa hNt ⊢
  obtain ⟨n0, n1, n2, n3, n4⟩ := nt_cells HNa.out
  obtain ⟨b0, b1, b2, b3, b4, b5, g0, g1, g2, g3, g4, g5⟩ := res_cells HTa.out.box
  obtain ⟨r0, r1, r2, r3, r4, r5, f0, f1, f2, f3, f4, f5⟩ := res_cells HTa.out.res
  cases bb with
  | false =>
    have HP := Lib.hid (HR2.out.1 (.inl rfl))
    clear n0 n1 n2 n3 n4 HNa
    have HZZ := Lib.hid (HZ.out.up (show 12 ≤ 14 by omega))
    have HC := Lib.hid (put6_blk (V := W) (a' := .int .i64 k.id) (b' := .int .i64 k.time) (c' := .int .i64 k.next) (d' := .slice Aa k.held.length ca) (e' := .slice Ab k.marks.length cb) (f' := .slice Ac k.inbox.length cc) HTa.out.res)
    have HD := Lib.hid (put6_below (V := W) (B := w.heap.size) (R := w.heap.size + 1) (by omega) HTa.out.bel (.int .i64 k.id) (.int .i64 k.time) (.int .i64 k.next) (.slice Aa k.held.length ca) (.slice Ab k.marks.length cb) (.slice Ac k.inbox.length cc))
    have HG := Lib.hid (show SeesK (put6 W (w.heap.size + 1) (.int .i64 k.id) (.int .i64 k.time) (.int .i64 k.next) (.slice Aa k.held.length ca) (.slice Ab k.marks.length cb) (.slice Ac k.inbox.length cc)) k (.slice Aa k.held.length ca) (.slice Ab k.marks.length cb) (.slice Ac k.inbox.length cc) from HS.out.later HD.out)
    go_wp2
    have x0 := HC.out.cell 0
    have x1 := HC.out.cell 1
    have x2 := HC.out.cell 2
    have x3 := HC.out.cell 3
    have x4 := HC.out.cell 4
    have x5 := HC.out.cell 5
    refine bodyPost_ret (v := .tuple #[kpV (k).id (k).time (k).next (.slice Aa k.held.length ca) (.slice Ab k.marks.length cb) (.slice Ac k.inbox.length cc), .bool false]) (by simp [results, Tryz.results110, go_sem, x0, x1, x2, x3, x4, x5]) rfl ⟨k, false, HP.out, HZZ.out, _, _, _, rfl, HG.out, HD.out⟩

  | true =>
    have HI1 := Lib.hid (ixN_any W _ k.held y.f y.n (HS.out.held.later HTa.out.bel) (HZ.out.few (by omega)).1)
    have HI2 := Lib.hid (ixN_any W _ k.inbox y.f y.n (HS.out.inbox.later HTa.out.bel) (HZ.out.few (by omega)).2.2)
    unfold IsI at HI1 HI2
    rcases ixN_cases k.held y.f y.n with ⟨hn1, he1⟩ | ⟨hn1, i, x1, he1, _, _, _⟩
    · rw [he1] at HI1
      rcases ixN_cases k.inbox y.f y.n with ⟨hn2, he2⟩ | ⟨hn2, i, x2, he2, _, _, _⟩
      · rw [he2] at HI2
        have HP := Lib.hid (HR2.out.2 rfl hn1 hn2)
        have hys' : y.s.size ≤ 1048576 := okNt_size (rd_true HRd.out).1
        have HZZ := Lib.hid ((sz_held HZ.out hys').up (show 12 + 1 ≤ 14 by omega))
        have HPN := Lib.hid (putN_any W _ k.held y (HS.out.held.later HTa.out.bel) (by have := HZ.out.few (show 12 ≤ 1048576 by omega); omega))
        unfold ListN ntV note at HPN
        clear hn1 hn2 he1 he2 HR2 hys'
        go_wp2_with fail
        refine HI1.out.mono ?_
        rintro e w4 ⟨rfl, rfl⟩
        go_wp2_with fail
        refine HI2.out.mono ?_
        rintro e w4 ⟨rfl, rfl⟩
        clear HI1 HI2
        go_wp2_with fail
        refine HPN.out.mono ?_
        rintro e w3 ⟨vm, rfl, hO⟩
        obtain ⟨A2, c2, rfl⟩ := OwnR.form hO
        have hzw := hO.2.size
        have hsz := HTa.out.sz
        have O2 : OwnAt ntS 131 W.heap.size w3 (.slice A2 (putN k.held y).length c2) (putN k.held y) := hO.1
        have HT4 := Lib.hid ((HTa.out.later hO.2).put3 (.slice A2 (putN k.held y).length c2))
        have P2 := Lib.hid (OwnAt.set O2 (p := ⟨w.heap.size, 3, none⟩) (by show w.heap.size < W.heap.size; omega) (.slice A2 (putN k.held y).length c2))
        clear b0 b1 b2 b3 b4 b5 g0 g1 g2 g3 g4 g5 r0 r1 r2 r3 r4 r5 f0 f1 f2 f3 f4 f5
        obtain ⟨b0, b1, b2, b3, b4, b5, _, _, _, g3, g4, g5⟩ := res_cells (HTa.out.later hO.2).box
        clear O2 hO HPN n0 n1 n2 n3 n4 HNa HTa
        obtain ⟨n2, hn2⟩ : ∃ n2, n2 = (putN k.held y).length := ⟨_, rfl⟩
        rw [← hn2] at HT4 P2 ⊢
        clear hn2
        go_upto_region 33 with (fail)
        clear b0 b1 b2 b3 b4 b5 g3 g4 g5
        generalize w3.setCell ⟨w.heap.size, 3, none⟩ (.slice A2 n2 c2) = V3 at HT4 P2 ⊢
        obtain ⟨b0, b1, b2, b3, b4, b5, g0, g1, g2, g3, g4, g5⟩ := res_cells HT4.out.box
        obtain ⟨r0, r1, r2, r3, r4, r5, f0, f1, f2, f3, f4, f5⟩ := res_cells HT4.out.res
        have HC := Lib.hid (put6_blk (V := V3) (a' := .int .i64 k.id) (b' := .int .i64 k.time) (c' := .int .i64 k.next) (d' := .slice A2 n2 c2) (e' := .slice Ab k.marks.length cb) (f' := .slice Ac k.inbox.length cc) HT4.out.res)
        have HD := Lib.hid (put6_below (V := V3) (B := w.heap.size) (R := w.heap.size + 1) (by omega) HT4.out.bel (.int .i64 k.id) (.int .i64 k.time) (.int .i64 k.next) (.slice A2 n2 c2) (.slice Ab k.marks.length cb) (.slice Ac k.inbox.length cc))
        have HG := Lib.hid (show SeesK (put6 V3 (w.heap.size + 1) (.int .i64 k.id) (.int .i64 k.time) (.int .i64 k.next) (.slice A2 n2 c2) (.slice Ab k.marks.length cb) (.slice Ac k.inbox.length cc)) { k with held := putN k.held y } (.slice A2 n2 c2) (.slice Ab k.marks.length cb) (.slice Ac k.inbox.length cc) from ⟨OwnAt.sees (OwnAt.put6 (W := V3) P2.out (R := w.heap.size + 1) (by omega) _ _ _ _ _ _), HS.out.marks.later HD.out, HS.out.inbox.later HD.out⟩)
        go_wp2
        have x0 := HC.out.cell 0
        have x1 := HC.out.cell 1
        have x2 := HC.out.cell 2
        have x3 := HC.out.cell 3
        have x4 := HC.out.cell 4
        have x5 := HC.out.cell 5
        refine bodyPost_ret (v := .tuple #[kpV ({ k with held := putN k.held y }).id ({ k with held := putN k.held y }).time ({ k with held := putN k.held y }).next (.slice A2 n2 c2) (.slice Ab k.marks.length cb) (.slice Ac k.inbox.length cc), .bool true]) (by simp [results, Tryz.results110, go_sem, x0, x1, x2, x3, x4, x5]) rfl ⟨{ k with held := putN k.held y }, true, HP.out, HZZ.out, _, _, _, rfl, HG.out, HD.out⟩

      · rw [he2] at HI2
        have HP := Lib.hid (HR2.out.1 (.inr (.inr hn2)))
        clear hn1 hn2 he1 he2 HR2
        have hi0 : (0 : Int) ≤ (i : Int) := by omega
        go_wp2_with fail
        refine HI1.out.mono ?_
        rintro e w4 ⟨rfl, rfl⟩
        go_wp2_with fail
        refine HI2.out.mono ?_
        rintro e w4 ⟨rfl, rfl⟩
        clear HI1 HI2 n0 n1 n2 n3 n4
        have HZZ := Lib.hid (HZ.out.up (show 12 ≤ 14 by omega))
        have HC := Lib.hid (put6_blk (V := W) (a' := .int .i64 k.id) (b' := .int .i64 k.time) (c' := .int .i64 k.next) (d' := .slice Aa k.held.length ca) (e' := .slice Ab k.marks.length cb) (f' := .slice Ac k.inbox.length cc) HTa.out.res)
        have HD := Lib.hid (put6_below (V := W) (B := w.heap.size) (R := w.heap.size + 1) (by omega) HTa.out.bel (.int .i64 k.id) (.int .i64 k.time) (.int .i64 k.next) (.slice Aa k.held.length ca) (.slice Ab k.marks.length cb) (.slice Ac k.inbox.length cc))
        have HG := Lib.hid (show SeesK (put6 W (w.heap.size + 1) (.int .i64 k.id) (.int .i64 k.time) (.int .i64 k.next) (.slice Aa k.held.length ca) (.slice Ab k.marks.length cb) (.slice Ac k.inbox.length cc)) k (.slice Aa k.held.length ca) (.slice Ab k.marks.length cb) (.slice Ac k.inbox.length cc) from HS.out.later HD.out)
        go_wp2
        have x0 := HC.out.cell 0
        have x1 := HC.out.cell 1
        have x2 := HC.out.cell 2
        have x3 := HC.out.cell 3
        have x4 := HC.out.cell 4
        have x5 := HC.out.cell 5
        refine bodyPost_ret (v := .tuple #[kpV (k).id (k).time (k).next (.slice Aa k.held.length ca) (.slice Ab k.marks.length cb) (.slice Ac k.inbox.length cc), .bool false]) (by simp [results, Tryz.results110, go_sem, x0, x1, x2, x3, x4, x5]) rfl ⟨k, false, HP.out, HZZ.out, _, _, _, rfl, HG.out, HD.out⟩

    · rw [he1] at HI1
      have HP := Lib.hid (HR2.out.1 (.inr (.inl hn1)))
      clear hn1 he1 HR2 HI2
      have hi0 : (0 : Int) ≤ (i : Int) := by omega
      go_wp2_with fail
      refine HI1.out.mono ?_
      rintro e w4 ⟨rfl, rfl⟩
      clear HI1 n0 n1 n2 n3 n4
      have HZZ := Lib.hid (HZ.out.up (show 12 ≤ 14 by omega))
      have HC := Lib.hid (put6_blk (V := W) (a' := .int .i64 k.id) (b' := .int .i64 k.time) (c' := .int .i64 k.next) (d' := .slice Aa k.held.length ca) (e' := .slice Ab k.marks.length cb) (f' := .slice Ac k.inbox.length cc) HTa.out.res)
      have HD := Lib.hid (put6_below (V := W) (B := w.heap.size) (R := w.heap.size + 1) (by omega) HTa.out.bel (.int .i64 k.id) (.int .i64 k.time) (.int .i64 k.next) (.slice Aa k.held.length ca) (.slice Ab k.marks.length cb) (.slice Ac k.inbox.length cc))
      have HG := Lib.hid (show SeesK (put6 W (w.heap.size + 1) (.int .i64 k.id) (.int .i64 k.time) (.int .i64 k.next) (.slice Aa k.held.length ca) (.slice Ab k.marks.length cb) (.slice Ac k.inbox.length cc)) k (.slice Aa k.held.length ca) (.slice Ab k.marks.length cb) (.slice Ac k.inbox.length cc) from HS.out.later HD.out)
      go_wp2
      have x0 := HC.out.cell 0
      have x1 := HC.out.cell 1
      have x2 := HC.out.cell 2
      have x3 := HC.out.cell 3
      have x4 := HC.out.cell 4
      have x5 := HC.out.cell 5
      refine bodyPost_ret (v := .tuple #[kpV (k).id (k).time (k).next (.slice Aa k.held.length ca) (.slice Ab k.marks.length cb) (.slice Ac k.inbox.length cc), .bool false]) (by simp [results, Tryz.results110, go_sem, x0, x1, x2, x3, x4, x5]) rfl ⟨k, false, HP.out, HZZ.out, _, _, _, rfl, HG.out, HD.out⟩

set_option maxRecDepth 100000 in
set_option maxHeartbeats 4000000 in
theorem rec_inbox (w : World) (k : Kp) (a b c : Value) (x : ByteArray) (hs : x.size ≤ 1048576) (h : SeesK w k a b c) (ho : okK k = true) (hw : (word x.data.toList).1 = kwInbox) :
    Calls Tryz.prog 110 #[kpV k.id k.time k.next a b c, .string x] w (RecPost w k x.data.toList) := by
  have HZ := Lib.hid (sz_ok ho)
  have HS := Lib.hid h
  have HW := Lib.hid (fun W => sword_any x hs W)
  unfold WordPost at HW
  have hrl : (str (word x.data.toList).2).size ≤ 1048576 := by rw [str_size]; have := (word_len x.data.toList).2; rw [← Lib.size_eq] at this; omega
  have HR := Lib.hid (fun (bb : Bool) (y : Nt) (hr : RD (str (word x.data.toList).2) bb y.f y.n y.t y.u y.s) => (⟨fun hv => rec_inbox_no hw hr hv, fun hb h1 h2 => rec_inbox_yes hw (hb ▸ hr) h1 h2⟩ : (bb = false ∨ hasN k.held y.f y.n = true ∨ hasN k.inbox y.f y.n = true → RecP k x.data.toList k false) ∧ (bb = true → hasN k.held y.f y.n = false → hasN k.inbox y.f y.n = false → RecP k x.data.toList { k with inbox := putN k.inbox y } true)))
  have HN := Lib.hid (fun W => sread_any (str (word x.data.toList).2) hrl W)
  generalize (word x.data.toList).2 = rest at HW HR HN hrl
  have hkw : str kwInbox = ⟨#[105, 110, 98, 111, 120]⟩ := rfl
  rw [hw, hkw] at HW
  clear hkw
  obtain ⟨Aa, ca, rfl, _⟩ := h.held
  obtain ⟨Ab, cb, rfl, _⟩ := h.marks
  obtain ⟨Ac, cc, rfl, _⟩ := h.inbox
  have HT := Lib.hid (CB.new w k (.slice Aa k.held.length ca) (.slice Ab k.marks.length cb) (.slice Ac k.inbox.length cc))
  clear h hw ho hrl
  go_enter Tryz.func110, Tryz.ntmps110
  go_upto_region 1 with (fail)
  generalize (w.alloc (.cells #[.int .i64 k.id, .int .i64 k.time, .int .i64 k.next, .slice Aa k.held.length ca, .slice Ab k.marks.length cb, .slice Ac k.inbox.length cc] 29)).alloc (.cells #[.int .i64 0, .int .i64 0, .int .i64 0, .slice none 0 0, .slice none 0 0, .slice none 0 0] 29) = V at HT ⊢
  go_wp2_with fail
  refine (HW.out _).mono ?_
  rintro e w1 ⟨rfl, hB1⟩
  have HT1 := Lib.hid (HT.out.later hB1)
  clear HT hB1 HW
  go_wp2_with fail
  refine (HN.out _).mono ?_
  rintro e w2 ⟨bb, f, n, t, u, s, rfl, hrd, hB2⟩
  obtain ⟨y, hy⟩ : ∃ y : Nt, y = ⟨f, n, t, u, s⟩ := ⟨_, rfl⟩
  have e1 : f = y.f := by rw [hy]
  have e2 : n = y.n := by rw [hy]
  have e3 : t = y.t := by rw [hy]
  have e4 : u = y.u := by rw [hy]
  have e5 : s = y.s := by rw [hy]
  subst e1; subst e2; subst e3; subst e4; subst e5
  clear hy
  have HT2 := Lib.hid (HT1.out.later hB2)
  have hR := HR.out bb y hrd
  have HR2 := Lib.hid hR
  have hNt := HT2.out.sz
  clear hB2 HT1 HR hR HN
  have HTa := Lib.hid (HT2.out.later ((Below.refl w2.heap.size w2).alloc (Nat.le_refl _) (.cells #[.int .i64 y.f, .int .i64 y.n, .int .i64 y.t, .int .i64 y.u, .string y.s] 131)))
  have HNa := Lib.hid (Blk.new w2 131 #[.int .i64 y.f, .int .i64 y.n, .int .i64 y.t, .int .i64 y.u, .string y.s])
  have HRd := Lib.hid hrd
  clear hrd HT2
  unfold note
  go_upto_region 28 with (fail)
  generalize w2.alloc (.cells #[.int .i64 y.f, .int .i64 y.n, .int .i64 y.t, .int .i64 y.u, .string y.s] 131) = W at HTa HNa ⊢
  generalize w2.heap.size = NB at HNa hNt ⊢
  obtain ⟨n0, n1, n2, n3, n4⟩ := nt_cells HNa.out
  obtain ⟨b0, b1, b2, b3, b4, b5, g0, g1, g2, g3, g4, g5⟩ := res_cells HTa.out.box
  obtain ⟨r0, r1, r2, r3, r4, r5, f0, f1, f2, f3, f4, f5⟩ := res_cells HTa.out.res
  cases bb with
  | false =>
    have HP := Lib.hid (HR2.out.1 (.inl rfl))
    clear n0 n1 n2 n3 n4 HNa
    have HZZ := Lib.hid (HZ.out.up (show 12 ≤ 14 by omega))
    have HC := Lib.hid (put6_blk (V := W) (a' := .int .i64 k.id) (b' := .int .i64 k.time) (c' := .int .i64 k.next) (d' := .slice Aa k.held.length ca) (e' := .slice Ab k.marks.length cb) (f' := .slice Ac k.inbox.length cc) HTa.out.res)
    have HD := Lib.hid (put6_below (V := W) (B := w.heap.size) (R := w.heap.size + 1) (by omega) HTa.out.bel (.int .i64 k.id) (.int .i64 k.time) (.int .i64 k.next) (.slice Aa k.held.length ca) (.slice Ab k.marks.length cb) (.slice Ac k.inbox.length cc))
    have HG := Lib.hid (show SeesK (put6 W (w.heap.size + 1) (.int .i64 k.id) (.int .i64 k.time) (.int .i64 k.next) (.slice Aa k.held.length ca) (.slice Ab k.marks.length cb) (.slice Ac k.inbox.length cc)) k (.slice Aa k.held.length ca) (.slice Ab k.marks.length cb) (.slice Ac k.inbox.length cc) from HS.out.later HD.out)
    go_wp2
    have x0 := HC.out.cell 0
    have x1 := HC.out.cell 1
    have x2 := HC.out.cell 2
    have x3 := HC.out.cell 3
    have x4 := HC.out.cell 4
    have x5 := HC.out.cell 5
    refine bodyPost_ret (v := .tuple #[kpV (k).id (k).time (k).next (.slice Aa k.held.length ca) (.slice Ab k.marks.length cb) (.slice Ac k.inbox.length cc), .bool false]) (by simp [results, Tryz.results110, go_sem, x0, x1, x2, x3, x4, x5]) rfl ⟨k, false, HP.out, HZZ.out, _, _, _, rfl, HG.out, HD.out⟩

  | true =>
    have HI1 := Lib.hid (ixN_any W _ k.held y.f y.n (HS.out.held.later HTa.out.bel) (HZ.out.few (by omega)).1)
    have HI2 := Lib.hid (ixN_any W _ k.inbox y.f y.n (HS.out.inbox.later HTa.out.bel) (HZ.out.few (by omega)).2.2)
    unfold IsI at HI1 HI2
    rcases ixN_cases k.held y.f y.n with ⟨hn1, he1⟩ | ⟨hn1, i, x1, he1, _, _, _⟩
    · rw [he1] at HI1
      rcases ixN_cases k.inbox y.f y.n with ⟨hn2, he2⟩ | ⟨hn2, i, x2, he2, _, _, _⟩
      · rw [he2] at HI2
        have HP := Lib.hid (HR2.out.2 rfl hn1 hn2)
        have hys' : y.s.size ≤ 1048576 := okNt_size (rd_true HRd.out).1
        have HZZ := Lib.hid ((sz_inbox HZ.out hys').up (show 12 + 1 ≤ 14 by omega))
        have HPN := Lib.hid (putN_any W _ k.inbox y (HS.out.inbox.later HTa.out.bel) (by have := HZ.out.few (show 12 ≤ 1048576 by omega); omega))
        unfold ListN ntV note at HPN
        clear hn1 hn2 he1 he2 HR2 hys'
        go_wp2_with fail
        refine HI1.out.mono ?_
        rintro e w4 ⟨rfl, rfl⟩
        go_wp2_with fail
        refine HI2.out.mono ?_
        rintro e w4 ⟨rfl, rfl⟩
        clear HI1 HI2
        go_wp2_with fail
        refine HPN.out.mono ?_
        rintro e w3 ⟨vm, rfl, hO⟩
        obtain ⟨A2, c2, rfl⟩ := OwnR.form hO
        have hzw := hO.2.size
        have hsz := HTa.out.sz
        have O2 : OwnAt ntS 131 W.heap.size w3 (.slice A2 (putN k.inbox y).length c2) (putN k.inbox y) := hO.1
        have HT4 := Lib.hid ((HTa.out.later hO.2).put5 (.slice A2 (putN k.inbox y).length c2))
        have P2 := Lib.hid (OwnAt.set O2 (p := ⟨w.heap.size, 5, none⟩) (by show w.heap.size < W.heap.size; omega) (.slice A2 (putN k.inbox y).length c2))
        clear b0 b1 b2 b3 b4 b5 g0 g1 g2 g3 g4 g5 r0 r1 r2 r3 r4 r5 f0 f1 f2 f3 f4 f5
        obtain ⟨b0, b1, b2, b3, b4, b5, _, _, _, g3, g4, g5⟩ := res_cells (HTa.out.later hO.2).box
        clear O2 hO HPN n0 n1 n2 n3 n4 HNa HTa
        obtain ⟨n2, hn2⟩ : ∃ n2, n2 = (putN k.inbox y).length := ⟨_, rfl⟩
        rw [← hn2] at HT4 P2 ⊢
        clear hn2
        go_upto_region 33 with (fail)
        clear b0 b1 b2 b3 b4 b5 g3 g4 g5
        generalize w3.setCell ⟨w.heap.size, 5, none⟩ (.slice A2 n2 c2) = V3 at HT4 P2 ⊢
        obtain ⟨b0, b1, b2, b3, b4, b5, g0, g1, g2, g3, g4, g5⟩ := res_cells HT4.out.box
        obtain ⟨r0, r1, r2, r3, r4, r5, f0, f1, f2, f3, f4, f5⟩ := res_cells HT4.out.res
        have HC := Lib.hid (put6_blk (V := V3) (a' := .int .i64 k.id) (b' := .int .i64 k.time) (c' := .int .i64 k.next) (d' := .slice Aa k.held.length ca) (e' := .slice Ab k.marks.length cb) (f' := .slice A2 n2 c2) HT4.out.res)
        have HD := Lib.hid (put6_below (V := V3) (B := w.heap.size) (R := w.heap.size + 1) (by omega) HT4.out.bel (.int .i64 k.id) (.int .i64 k.time) (.int .i64 k.next) (.slice Aa k.held.length ca) (.slice Ab k.marks.length cb) (.slice A2 n2 c2))
        have HG := Lib.hid (show SeesK (put6 V3 (w.heap.size + 1) (.int .i64 k.id) (.int .i64 k.time) (.int .i64 k.next) (.slice Aa k.held.length ca) (.slice Ab k.marks.length cb) (.slice A2 n2 c2)) { k with inbox := putN k.inbox y } (.slice Aa k.held.length ca) (.slice Ab k.marks.length cb) (.slice A2 n2 c2) from ⟨HS.out.held.later HD.out, HS.out.marks.later HD.out, OwnAt.sees (OwnAt.put6 (W := V3) P2.out (R := w.heap.size + 1) (by omega) _ _ _ _ _ _)⟩)
        go_wp2
        have x0 := HC.out.cell 0
        have x1 := HC.out.cell 1
        have x2 := HC.out.cell 2
        have x3 := HC.out.cell 3
        have x4 := HC.out.cell 4
        have x5 := HC.out.cell 5
        refine bodyPost_ret (v := .tuple #[kpV ({ k with inbox := putN k.inbox y }).id ({ k with inbox := putN k.inbox y }).time ({ k with inbox := putN k.inbox y }).next (.slice Aa k.held.length ca) (.slice Ab k.marks.length cb) (.slice A2 n2 c2), .bool true]) (by simp [results, Tryz.results110, go_sem, x0, x1, x2, x3, x4, x5]) rfl ⟨{ k with inbox := putN k.inbox y }, true, HP.out, HZZ.out, _, _, _, rfl, HG.out, HD.out⟩

      · rw [he2] at HI2
        have HP := Lib.hid (HR2.out.1 (.inr (.inr hn2)))
        clear hn1 hn2 he1 he2 HR2
        have hi0 : (0 : Int) ≤ (i : Int) := by omega
        go_wp2_with fail
        refine HI1.out.mono ?_
        rintro e w4 ⟨rfl, rfl⟩
        go_wp2_with fail
        refine HI2.out.mono ?_
        rintro e w4 ⟨rfl, rfl⟩
        clear HI1 HI2 n0 n1 n2 n3 n4
        have HZZ := Lib.hid (HZ.out.up (show 12 ≤ 14 by omega))
        have HC := Lib.hid (put6_blk (V := W) (a' := .int .i64 k.id) (b' := .int .i64 k.time) (c' := .int .i64 k.next) (d' := .slice Aa k.held.length ca) (e' := .slice Ab k.marks.length cb) (f' := .slice Ac k.inbox.length cc) HTa.out.res)
        have HD := Lib.hid (put6_below (V := W) (B := w.heap.size) (R := w.heap.size + 1) (by omega) HTa.out.bel (.int .i64 k.id) (.int .i64 k.time) (.int .i64 k.next) (.slice Aa k.held.length ca) (.slice Ab k.marks.length cb) (.slice Ac k.inbox.length cc))
        have HG := Lib.hid (show SeesK (put6 W (w.heap.size + 1) (.int .i64 k.id) (.int .i64 k.time) (.int .i64 k.next) (.slice Aa k.held.length ca) (.slice Ab k.marks.length cb) (.slice Ac k.inbox.length cc)) k (.slice Aa k.held.length ca) (.slice Ab k.marks.length cb) (.slice Ac k.inbox.length cc) from HS.out.later HD.out)
        go_wp2
        have x0 := HC.out.cell 0
        have x1 := HC.out.cell 1
        have x2 := HC.out.cell 2
        have x3 := HC.out.cell 3
        have x4 := HC.out.cell 4
        have x5 := HC.out.cell 5
        refine bodyPost_ret (v := .tuple #[kpV (k).id (k).time (k).next (.slice Aa k.held.length ca) (.slice Ab k.marks.length cb) (.slice Ac k.inbox.length cc), .bool false]) (by simp [results, Tryz.results110, go_sem, x0, x1, x2, x3, x4, x5]) rfl ⟨k, false, HP.out, HZZ.out, _, _, _, rfl, HG.out, HD.out⟩

    · rw [he1] at HI1
      have HP := Lib.hid (HR2.out.1 (.inr (.inl hn1)))
      clear hn1 he1 HR2 HI2
      have hi0 : (0 : Int) ≤ (i : Int) := by omega
      go_wp2_with fail
      refine HI1.out.mono ?_
      rintro e w4 ⟨rfl, rfl⟩
      clear HI1 n0 n1 n2 n3 n4
      have HZZ := Lib.hid (HZ.out.up (show 12 ≤ 14 by omega))
      have HC := Lib.hid (put6_blk (V := W) (a' := .int .i64 k.id) (b' := .int .i64 k.time) (c' := .int .i64 k.next) (d' := .slice Aa k.held.length ca) (e' := .slice Ab k.marks.length cb) (f' := .slice Ac k.inbox.length cc) HTa.out.res)
      have HD := Lib.hid (put6_below (V := W) (B := w.heap.size) (R := w.heap.size + 1) (by omega) HTa.out.bel (.int .i64 k.id) (.int .i64 k.time) (.int .i64 k.next) (.slice Aa k.held.length ca) (.slice Ab k.marks.length cb) (.slice Ac k.inbox.length cc))
      have HG := Lib.hid (show SeesK (put6 W (w.heap.size + 1) (.int .i64 k.id) (.int .i64 k.time) (.int .i64 k.next) (.slice Aa k.held.length ca) (.slice Ab k.marks.length cb) (.slice Ac k.inbox.length cc)) k (.slice Aa k.held.length ca) (.slice Ab k.marks.length cb) (.slice Ac k.inbox.length cc) from HS.out.later HD.out)
      go_wp2
      have x0 := HC.out.cell 0
      have x1 := HC.out.cell 1
      have x2 := HC.out.cell 2
      have x3 := HC.out.cell 3
      have x4 := HC.out.cell 4
      have x5 := HC.out.cell 5
      refine bodyPost_ret (v := .tuple #[kpV (k).id (k).time (k).next (.slice Aa k.held.length ca) (.slice Ab k.marks.length cb) (.slice Ac k.inbox.length cc), .bool false]) (by simp [results, Tryz.results110, go_sem, x0, x1, x2, x3, x4, x5]) rfl ⟨k, false, HP.out, HZZ.out, _, _, _, rfl, HG.out, HD.out⟩

end Go.Proofs.YtjmmojjjopjdpaaGreatDoor.kp

/-
  Contract of spec.l6Dec at numbers that were read (-1, or up to 9999); three numbers in a slice.
-/
namespace Go.Proofs.YtjmmojjjopjdpaaGreatDoor.kp
open Go.ChangeShapes Go.WideShapes Go.ChangeAt Go.RowKit
open Go.Proofs.YtjmmojjjopjdpaaGreatDoor.wd Go.Proofs.YtjmmojjjopjdpaaGreatDoor.ok Go.Proofs.YtjmmojjjopjdpaaGreatDoor.nb Go.Proofs.YtjmmojjjopjdpaaGreatDoor.dc

theorem dec_neg (w : World) : Calls Tryz.prog 105 #[.int .i64 (-1)] w (StrPost w (str (dlm (-1)))) := by
  have H1 := Lib.hid (fun W => dec_any 1 (by omega) (by omega) W)
  have hd : dl 1 = [49] := by rw [dl_one (by omega) (by omega)]; rfl
  rw [hd] at H1
  have hs : str [49] = ⟨#[49]⟩ := rfl
  rw [hs] at H1
  unfold StrPost at H1
  clear hd hs
  go_enter Tryz.func105, Tryz.ntmps105
  go_wp2_with fail
  refine (H1.out _).mono ?_
  rintro e w1 ⟨rfl, hB⟩
  have HB := Lib.hid hB
  clear hB H1
  go_wp2
  go_ret
  exact ⟨rfl, HB.out⟩
def Rng (v : Int) : Prop := v = -1 ∨ 0 ≤ v ∧ v ≤ 9999
theorem reads_rng {l : List UInt8} {v : Int} (h : Reads l v) : Rng v := by
  rcases h with ⟨e, _⟩ | ⟨h1, h2, _⟩
  · exact .inl e
  · exact .inr ⟨h1, h2⟩
theorem decM_any (v : Int) (h : Rng v) (w : World) : Calls Tryz.prog 105 #[.int .i64 v] w (StrPost w (str (dlm v))) := by
  rcases h with rfl | ⟨h1, h2⟩
  · exact dec_neg w
  · rw [dlm_pos h1]
    exact dec_any v h1 h2 w
theorem dlm_len {v : Int} (h : Rng v) : (str (dlm v)).size ≤ 4 := by
  rw [str_size]
  rcases h with rfl | ⟨h1, h2⟩
  · decide
  · rw [dlm_pos h1]; exact (dl_len4 h1 h2).2
theorem three3 {vs : List Int} (h : vs.length = 3) : ∃ a b c, vs = [a, b, c] := by
  match vs, h with
  | [a, b, c], _ => exact ⟨a, b, c, rfl⟩
theorem own_three {w0 w : World} {v : Value} {a b c : Int} (h : ow.Own 3 w0 w v (iv [a, b, c])) :
    ∃ g cap, v = .slice (some ⟨g, 0, none⟩) 3 cap ∧ w0.heap.size ≤ g ∧ g < w.heap.size ∧ w.cell? ⟨g, 0, none⟩ = some (.int .i64 a) ∧ w.cell? ⟨g, 1, none⟩ = some (.int .i64 b) ∧ w.cell? ⟨g, 2, none⟩ = some (.int .i64 c) := by
  obtain ⟨A, cap, rfl, hc⟩ := h.form
  obtain ⟨g, rfl, h1, h2, h3⟩ := hc (by simp [iv])
  exact ⟨g, cap, rfl, h1, h2, h3 0 _ rfl, h3 1 _ rfl, h3 2 _ rfl⟩
theorem m3m_cat (a b c : Int) : (((str (dlm a) ++ str [32]) ++ str (dlm b)) ++ str [32]) ++ str (dlm c) = str (m3m a b c) := by
  rw [str_app, str_app, str_app, str_app]
  unfold m3m
  simp
theorem rd3 {l : List UInt8} {a b c : Int} (h : ReadK l [a, b, c]) : Rng a ∧ Rng b ∧ Rng c := ⟨reads_rng (h 0 a rfl), reads_rng (h 1 b rfl), reads_rng (h 2 c rfl)⟩
end Go.Proofs.YtjmmojjjopjdpaaGreatDoor.kp

/-
  Words: parts of a slice of records, for append; append as a step of a region that draws.
-/
namespace Go.Proofs.YtjmmojjjopjdpaaGreatDoor.kp
open Go.ChangeShapes Go.WideShapes Go.ChangeAt Go.RowKit
open Go.Proofs.YtjmmojjjopjdpaaGreatDoor.wd Go.Proofs.YtjmmojjjopjdpaaGreatDoor.ow Go.Proofs.YtjmmojjjopjdpaaGreatDoor.rl Go.Proofs.YtjmmojjjopjdpaaGreatDoor.ok Go.Proofs.YtjmmojjjopjdpaaGreatDoor.nb

/-- a slice's room is known -/
def Room (v : Value) : Prop := ∃ A n c, v = .slice A n c ∧ n ≤ c ∧ c ≤ maxLen
theorem ownAt_room {α : Type} {S : Shape α} {t : TypeId} {B : Nat} {W : World} {v : Value} {l : List α} (h : OwnAt S t B W v l) : Room v := by
  rcases h.2 with ⟨rfl, hn⟩ | ⟨g, cap, cur, rfl, h1, h2, h3, h4, h5⟩
  · exact ⟨none, 0, 0, rfl, Nat.le_refl _, Nat.zero_le _⟩
  · exact ⟨_, _, cap, rfl, h3, h4⟩

theorem step_append_recs {α : Type} (S : Shape α) (hS : 0 < S.n) {w : World} {ops : Array Oper} {o : Oper} {a : Act} {K : Act → World → Prop} {Q : Exit → Act → World → Prop} {E : Prop} (hgd : o.guard = none) (s x : Operand) (t : TypeId)
    (ho : o.op = .call { callee := .builtin .append, args := #[s, x], argTypes := #[t, t] })
    (base : Nat) (e : TypeId) (i : TypeInfo) (z : Value) (bytes : Nat) (ht : Tryz.prog.underlying t = some (.slice e)) (hi : Tryz.prog.info? e = some i) (hz : i.zero = some z)
    (hsize : i.size = S.n) (hby : i.bytes = bytes) (hzs : z.cells.size = S.n)
    (v : Value) (n : Nat) (xs : List Value) (hs : a.eval s = v) (hown : w.ownsRow base e S.n v n xs)
    (A : Option Addr) (m c : Nat) (l : List α) (hx : a.eval x = .slice A m c) (hm : m = l.length) (hP : PartR S w A c l)
    (h63 : n + l.length ≤ maxLen) (hbytes : (n + l.length) * bytes ≤ 140737488355328) (hbase : base ≤ w.heap.size)
    (h : ∀ v' w', w'.ownsRow base e S.n v' (n + l.length) (xs ++ l.flatMap S.f) → w.grownBy w' v.ownBlock → K (a.put o.dst v') w') :
    if Region.wanted o (yielded ops a.tmps) = true then Oper.wp Tryz.prog o a w K Q else E := by
  have hw : Region.wanted o (yielded ops a.tmps) = true := by simp [Region.wanted, hgd]
  rw [if_pos hw]
  exact wp_append_recs S hS s x t ho base e i z bytes ht hi hz hsize hby hzs v n xs hs hown A m c l hx hm hP h63 hbytes hbase h

section
variable {α : Type} {S : Shape α} {w W : World} {b c : Nat} {l : List α}
theorem rpart_take (hb : b < w.heap.size) (hc : ∀ i x, l[i]? = some x → ∀ j u, (S.f x)[j]? = some u → w.cell? ⟨b, i * S.n + j, none⟩ = some u) (hB : Below w.heap.size w W) (g : Nat) : PartR S W (some ⟨b, 0, none⟩) c (l.take g) := by
  refine .inr ⟨b, 0, rfl, fun j u hu => ?_⟩
  obtain ⟨i, x, k, h1, h2, rfl⟩ := flat_get S _ j u hu
  rw [Nat.zero_add]
  rw [List.getElem?_take] at h1
  split at h1
  · exact (hB.cell (p := ⟨b, i * S.n + k, none⟩) hb).trans (hc i x h1 k u h2)
  · cases h1
theorem rpart_drop (hb : b < w.heap.size) (hc : ∀ i x, l[i]? = some x → ∀ j u, (S.f x)[j]? = some u → w.cell? ⟨b, i * S.n + j, none⟩ = some u) (hB : Below w.heap.size w W) (g : Nat) : PartR S W (some ⟨b, g * S.n, none⟩) c (l.drop g) := by
  refine .inr ⟨b, g * S.n, rfl, fun j u hu => ?_⟩
  obtain ⟨i, x, k, h1, h2, rfl⟩ := flat_get S _ j u hu
  rw [List.getElem?_drop] at h1
  have := hc (g + i) x h1 k u h2
  rw [show g * S.n + (i * S.n + k) = (g + i) * S.n + k by rw [Nat.add_mul]; omega]
  exact (hB.cell (p := ⟨b, (g + i) * S.n + k, none⟩) hb).trans this
theorem rpart_none (b : Nat) {o c : Nat} (h : l = []) : PartR S w (some ⟨b, o, none⟩) c l := .inr ⟨b, o, rfl, fun j u hu => by rw [h] at hu; simp at hu⟩
/-- a list out of which one place was cut -/
theorem ownAt_cut {t : TypeId} {B i : Nat} {v : Value} {n : Nat} (h : W.ownsRow B t S.n v n ([] ++ (l.take i).flatMap S.f ++ (l.drop (i + 1)).flatMap S.f)) (hn : n = (cutL l i).length) : OwnAt S t B W v (cutL l i) := by
  subst hn
  unfold OwnAt cutL
  unfold cutL at h
  rw [List.flatMap_append]
  exact h
end
/-- behind an append to a list that was just made -/
theorem app_below {V W' : World} {o : Obj} {n c : Nat} (hg : (V.alloc o).grownBy W' (Value.slice (some ⟨V.heap.size, 0, none⟩) n c).ownBlock) : Below V.heap.size V W' :=
  ⟨hg.os, hg.tape, hg.output, by have := hg.size; simp at this; omega, fun j hj => (hg.block j (by simp; omega) (fun e => by injection e with e; change j = V.heap.size at e; omega)).trans (((Below.refl V.heap.size V).alloc (Nat.le_refl _) o).block j hj)⟩
/-- behind an append to a list of the call's own, from B on -/
theorem own_below {B : Nat} {V W W' : World} {t : TypeId} {sz : Nat} {v : Value} {n : Nat} {xs : List Value} (hB : Below B V W) (hO : W.ownsRow B t sz v n xs) (hg : W.grownBy W' v.ownBlock) (hBW : B ≤ W.heap.size) : Below B V W' :=
  hB.trans ⟨hg.os, hg.tape, hg.output, hg.size, fun j hj => hg.block j (by omega) (fun e => by have := (hO.lt j e.symm).1; omega)⟩
theorem row_form {B : Nat} {W : World} {t : TypeId} {sz : Nat} {v : Value} {n : Nat} {xs : List Value} (hO : W.ownsRow B t sz v n xs) : ∃ A c, v = .slice A n c := by
  rcases hO.2 with ⟨rfl, hn⟩ | ⟨g, cap, cur, rfl, _⟩
  · exact ⟨none, 0, by rw [hn]⟩
  · exact ⟨_, cap, rfl⟩
end Go.Proofs.YtjmmojjjopjdpaaGreatDoor.kp

