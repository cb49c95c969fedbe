/-
  Merged texts: SDo, StrLists, KeepMark.
-/
import Derived.Test.YtjmmojjjopjdpaaGreatDoorGFnKeepOf18
import Derived.Test.YtjmmojjjopjdpaaGreatDoorGFnKeepOf8
import Derived.Test.YtjmmojjjopjdpaaGreatDoorGFnKeepOf3
import Derived.Test.YtjmmojjjopjdpaaGreatDoorGFnKeepOf9
import Derived.Deep.QuietTactic
import Derived.BigQuiet
import Derived.Deep.RegionHeld3
/-
  Contract of spec.KeepDo.
-/
namespace Go.Proofs.YtjmmojjjopjdpaaGreatDoor.kp
open Go.ChangeShapes Go.WideShapes Go.ChangeAt Go.RowKit
open Go.Proofs.YtjmmojjjopjdpaaGreatDoor.wd Go.Proofs.YtjmmojjjopjdpaaGreatDoor.ow Go.Proofs.YtjmmojjjopjdpaaGreatDoor.rl Go.Proofs.YtjmmojjjopjdpaaGreatDoor.ok Go.Proofs.YtjmmojjjopjdpaaGreatDoor.nb Go.Proofs.YtjmmojjjopjdpaaGreatDoor.dc

theorem OwnK.put6 {w w1 w2 : World} {k : Kp} {a b c : Value} {R : Nat} {x0 x1 x2 x3 x4 x5 : Value} (h : OwnK w1 w2 k a b c) (hw : w.heap.size ≤ w1.heap.size) (hR : R < w1.heap.size) (hB : Below w.heap.size w (put6 w2 R x0 x1 x2 x3 x4 x5)) : OwnK w (put6 w2 R x0 x1 x2 x3 x4 x5) k a b c :=
  ⟨⟨OwnAt.down (OwnAt.put6 h.held.1 hR _ _ _ _ _ _) hw, hB⟩, ⟨OwnAt.down (OwnAt.put6 h.marks.1 hR _ _ _ _ _ _) hw, hB⟩, ⟨OwnAt.down (OwnAt.put6 h.inbox.1 hR _ _ _ _ _ _) hw, hB⟩, h.hm, h.hi, h.mi⟩
/-- what KeepDo gives back -/
def DoPost (w : World) (k : Kp) (l : List UInt8) (e : Ending) (w' : World) : Prop :=
  ∃ (k' : Kp) (b : Bool) (vh vm vi : Value), e = .returned (.tuple #[kpV k'.id k'.time k'.next vh vm vi, .bool b]) ∧ DoK k l k' b ∧ Sz 14 k' ∧ OwnK w w' k' vh vm vi

set_option maxRecDepth 100000 in
set_option maxHeartbeats 4000000 in
theorem keepDo_any (w : World) (k : Kp) (a b c : Value) (x : ByteArray) (hs : x.size ≤ 1048576) (h : SeesK w k a b c) (hl : k.held.length ≤ 1048576 ∧ k.marks.length ≤ 1048576 ∧ k.inbox.length ≤ 1048576) (hz : (∀ x ∈ k.held, x.s.size ≤ maxLen) ∧ ∀ x ∈ k.inbox, x.s.size ≤ maxLen) :
    Calls Tryz.prog 48 #[kpV k.id k.time k.next a b c, .string x] w (DoPost w k x.data.toList) := by
  have HS := Lib.hid h
  have HO := Lib.hid (fun V (hV : Below w.heap.size w V) => keepOk_any V k a b c (h.later hV) hl hz)
  have HK := Lib.hid (fun V (hV : Below w.heap.size w V) => copyK_any V k a b c (h.later hV) hl)
  unfold BoolK at HO
  unfold KeepPost at HK
  obtain ⟨Aa, ca, rfl, _⟩ := h.held
  obtain ⟨Ab, cb, rfl, _⟩ := h.marks
  obtain ⟨Ac, cc, rfl, _⟩ := h.inbox
  have HT := Lib.hid (CB.new w k (.slice Aa k.held.length ca) (.slice Ab k.marks.length cb) (.slice Ac k.inbox.length cc))
  clear h
  cases hok : okK k with
  | false =>
    have hP : DoK k x.data.toList zeroK false := .inl ⟨hok, rfl, rfl⟩
    have HP := Lib.hid hP
    clear hP
    rw [hok] at HO
    clear hok HK
    go_enter Tryz.func48, Tryz.ntmps48
    go_upto_region 1 with (fail)
    generalize (w.alloc (.cells #[.int .i64 k.id, .int .i64 k.time, .int .i64 k.next, .slice Aa k.held.length ca, .slice Ab k.marks.length cb, .slice Ac k.inbox.length cc] 29)).alloc (.cells #[.int .i64 0, .int .i64 0, .int .i64 0, .slice none 0 0, .slice none 0 0, .slice none 0 0] 29) = V at HT ⊢
    obtain ⟨b0, b1, b2, b3, b4, b5, g0, g1, g2, g3, g4, g5⟩ := res_cells HT.out.box
    obtain ⟨r0, r1, r2, r3, r4, r5, f0, f1, f2, f3, f4, f5⟩ := res_cells HT.out.res
    go_wp2_with fail
    refine (HO.out _ HT.out.bel).mono ?_
    rintro e w1 ⟨rfl, hB1⟩
    have HT1 := Lib.hid (HT.out.later hB1)
    clear HT hB1 HO
    clear b0 b1 b2 b3 b4 b5 g0 g1 g2 g3 g4 g5 r0 r1 r2 r3 r4 r5 f0 f1 f2 f3 f4 f5
    obtain ⟨b0, b1, b2, b3, b4, b5, g0, g1, g2, g3, g4, g5⟩ := res_cells HT1.out.box
    obtain ⟨r0, r1, r2, r3, r4, r5, f0, f1, f2, f3, f4, f5⟩ := res_cells HT1.out.res
    have HC := Lib.hid (put6_blk (V := w1) (a' := .int .i64 0) (b' := .int .i64 0) (c' := .int .i64 0) (d' := .slice none 0 0) (e' := .slice none 0 0) (f' := .slice none 0 0) HT1.out.res)
    have HD := Lib.hid (put6_below (V := w1) (B := w.heap.size) (R := w.heap.size + 1) (by omega) HT1.out.bel (.int .i64 0) (.int .i64 0) (.int .i64 0) (.slice none 0 0) (.slice none 0 0) (.slice none 0 0))
    go_wp2
    have x0 := HC.out.cell 0
    have x1 := HC.out.cell 1
    have x2 := HC.out.cell 2
    have x3 := HC.out.cell 3
    have x4 := HC.out.cell 4
    have x5 := HC.out.cell 5
    refine bodyPost_ret (v := .tuple #[kpV 0 0 0 (.slice none 0 0) (.slice none 0 0) (.slice none 0 0), .bool false]) (by simp [results, Tryz.results48, go_sem, x0, x1, x2, x3, x4, x5]) rfl ⟨zeroK, false, _, _, _, rfl, HP.out, ⟨Nat.zero_le _, Nat.zero_le _, Nat.zero_le _, (fun _ h => by cases h), (fun _ h => by cases h)⟩, nil_own HD.out rfl rfl rfl⟩
  | true =>
    have HZ := Lib.hid (sz_ok hok)
    have HR := Lib.hid (fun V va vb vc (hS : SeesK V k va vb vc) (hr : Room va ∧ Room vc) => rec_any V k va vb vc x hs hS hok hr)
    unfold RecPost at HR
    have hD1 : ∀ k' b, Does k x.data.toList k' b → DoK k x.data.toList k' b := fun k' b h => .inr ⟨hok, h⟩
    have HD1 := Lib.hid hD1
    clear hD1
    rw [hok] at HO
    clear hok hl hz
    go_enter Tryz.func48, Tryz.ntmps48
    go_upto_region 1 with (fail)
    generalize (w.alloc (.cells #[.int .i64 k.id, .int .i64 k.time, .int .i64 k.next, .slice Aa k.held.length ca, .slice Ab k.marks.length cb, .slice Ac k.inbox.length cc] 29)).alloc (.cells #[.int .i64 0, .int .i64 0, .int .i64 0, .slice none 0 0, .slice none 0 0, .slice none 0 0] 29) = V at HT ⊢
    obtain ⟨b0, b1, b2, b3, b4, b5, g0, g1, g2, g3, g4, g5⟩ := res_cells HT.out.box
    obtain ⟨r0, r1, r2, r3, r4, r5, f0, f1, f2, f3, f4, f5⟩ := res_cells HT.out.res
    go_wp2_with fail
    refine (HO.out _ HT.out.bel).mono ?_
    rintro e w1 ⟨rfl, hB1⟩
    have HT1 := Lib.hid (HT.out.later hB1)
    clear HT hB1 HO
    clear b0 b1 b2 b3 b4 b5 g0 g1 g2 g3 g4 g5 r0 r1 r2 r3 r4 r5 f0 f1 f2 f3 f4 f5
    obtain ⟨b0, b1, b2, b3, b4, b5, g0, g1, g2, g3, g4, g5⟩ := res_cells HT1.out.box
    obtain ⟨r0, r1, r2, r3, r4, r5, f0, f1, f2, f3, f4, f5⟩ := res_cells HT1.out.res
    go_wp2_with fail
    refine (HK.out _ HT1.out.bel).mono ?_
    rintro e w2 ⟨vh, vm, vi, rfl, hO2⟩
    have HT2 := Lib.hid (HT1.out.later hO2.bel)
    have HS2 := Lib.hid hO2.sees
    have HRo := Lib.hid (And.intro (ownAt_room hO2.held.1) (ownAt_room hO2.inbox.1))
    obtain ⟨A2, c2, rfl⟩ := OwnR.form hO2.held
    obtain ⟨B2, d2, rfl⟩ := OwnR.form hO2.marks
    obtain ⟨C2, e2, rfl⟩ := OwnR.form hO2.inbox
    clear hO2 HT1
    clear b0 b1 b2 b3 b4 b5 g0 g1 g2 g3 g4 g5 r0 r1 r2 r3 r4 r5 f0 f1 f2 f3 f4 f5
    obtain ⟨b0, b1, b2, b3, b4, b5, g0, g1, g2, g3, g4, g5⟩ := res_cells HT2.out.box
    obtain ⟨r0, r1, r2, r3, r4, r5, f0, f1, f2, f3, f4, f5⟩ := res_cells HT2.out.res
    go_wp2_with fail
    refine (HR.out _ _ _ _ HS2.out HRo.out).mono ?_
    rintro e w3 ⟨k', bb, hrp, hz', vh, vm, vi, rfl, hS3, hB3⟩
    have HT3 := Lib.hid (HT2.out.later hB3)
    have HRP := Lib.hid hrp
    have HZ3 := Lib.hid hz'
    have HS3 := Lib.hid hS3
    obtain ⟨A3, c3, rfl, _⟩ := hS3.held
    obtain ⟨B3, d3, rfl, _⟩ := hS3.marks
    obtain ⟨C3, e3, rfl, _⟩ := hS3.inbox
    clear hrp hz' hS3 hB3 HT2 HR HS2 HRo
    have B4 := (Below.refl w3.heap.size w3).alloc (Nat.le_refl _) (.cells #[.int .i64 k'.id, .int .i64 k'.time, .int .i64 k'.next, (.slice A3 k'.held.length c3), (.slice B3 k'.marks.length d3), (.slice C3 k'.inbox.length e3)] 29)
    have HT4 := Lib.hid (HT3.out.later B4)
    have HX4 := Lib.hid (Blk.new w3 29 #[.int .i64 k'.id, .int .i64 k'.time, .int .i64 k'.next, (.slice A3 k'.held.length c3), (.slice B3 k'.marks.length d3), (.slice C3 k'.inbox.length e3)])
    have HS4 := Lib.hid (HS3.out.later B4)
    clear B4 HT3 HS3
    clear b0 b1 b2 b3 b4 b5 g0 g1 g2 g3 g4 g5 r0 r1 r2 r3 r4 r5 f0 f1 f2 f3 f4 f5
    go_upto_region 4 with (fail)
    generalize w3.alloc (.cells #[.int .i64 k'.id, .int .i64 k'.time, .int .i64 k'.next, (.slice A3 k'.held.length c3), (.slice B3 k'.marks.length d3), (.slice C3 k'.inbox.length e3)] 29) = W at HT4 HX4 HS4 ⊢
    generalize w3.heap.size = XB at HX4 ⊢
    obtain ⟨b0, b1, b2, b3, b4, b5, g0, g1, g2, g3, g4, g5⟩ := res_cells HT4.out.box
    obtain ⟨r0, r1, r2, r3, r4, r5, f0, f1, f2, f3, f4, f5⟩ := res_cells HT4.out.res
    cases bb with
    | false =>
      have HP := Lib.hid (HD1.out _ _ (recP_f HRP.out))
      clear HRP HD1
      have HZZ := Lib.hid (HZ.out.up (show 12 ≤ 14 by omega))
      go_wp2_with fail
      refine (HK.out _ HT4.out.bel).mono ?_
      rintro e w9 ⟨vh, vm, vi, rfl, hO⟩
      obtain ⟨A9, c9, rfl⟩ := OwnR.form hO.held
      obtain ⟨B9, d9, rfl⟩ := OwnR.form hO.marks
      obtain ⟨C9, e9, rfl⟩ := OwnR.form hO.inbox
      have HT9 := Lib.hid (HT4.out.later hO.bel)
      have hsz := HT4.out.sz
      have HC := Lib.hid (put6_blk (V := w9) (a' := .int .i64 k.id) (b' := .int .i64 k.time) (c' := .int .i64 k.next) (d' := .slice A9 k.held.length c9) (e' := .slice B9 k.marks.length d9) (f' := .slice C9 k.inbox.length e9) HT9.out.res)
      have HD := Lib.hid (put6_below (V := w9) (B := w.heap.size) (R := w.heap.size + 1) (by omega) HT9.out.bel (.int .i64 k.id) (.int .i64 k.time) (.int .i64 k.next) (.slice A9 k.held.length c9) (.slice B9 k.marks.length d9) (.slice C9 k.inbox.length e9))
      have HG := Lib.hid (OwnK.put6 hO (by omega) (by omega) HD.out)
      clear hO HT4
      clear b0 b1 b2 b3 b4 b5 g0 g1 g2 g3 g4 g5 r0 r1 r2 r3 r4 r5 f0 f1 f2 f3 f4 f5
      obtain ⟨b0, b1, b2, b3, b4, b5, g0, g1, g2, g3, g4, g5⟩ := res_cells HT9.out.box
      obtain ⟨r0, r1, r2, r3, r4, r5, f0, f1, f2, f3, f4, f5⟩ := res_cells HT9.out.res
      go_wp2
      have x0 := HC.out.cell 0
      have x1 := HC.out.cell 1
      have x2 := HC.out.cell 2
      have x3 := HC.out.cell 3
      have x4 := HC.out.cell 4
      have x5 := HC.out.cell 5
      refine bodyPost_ret (v := .tuple #[kpV k.id k.time k.next (.slice A9 k.held.length c9) (.slice B9 k.marks.length d9) (.slice C9 k.inbox.length e9), .bool false]) (by simp [results, Tryz.results48, go_sem, x0, x1, x2, x3, x4, x5]) rfl ⟨k, false, _, _, _, rfl, HP.out, HZZ.out, HG.out⟩

    | true =>
      obtain ⟨q0, q1, q2, q3, q4, q5, _, _, _, _, _, _⟩ := res_cells HX4.out
      have HOx := Lib.hid (keepOk_any W k' _ _ _ HS4.out (HZ3.out.few (by omega)) HZ3.out.texts)
      unfold BoolK at HOx
      cases hok' : okK k' with
      | false =>
        have HP := Lib.hid (HD1.out _ _ (recP_bad HRP.out hok'))
        rw [hok'] at HOx
        clear hok' HRP HD1
        go_wp2_with fail
        refine HOx.out.mono ?_
        rintro e w5 ⟨rfl, hB5⟩
        have HT5 := Lib.hid (HT4.out.later hB5)
        clear HT4 hB5 HOx q0 q1 q2 q3 q4 q5
        clear b0 b1 b2 b3 b4 b5 g0 g1 g2 g3 g4 g5 r0 r1 r2 r3 r4 r5 f0 f1 f2 f3 f4 f5
        obtain ⟨b0, b1, b2, b3, b4, b5, g0, g1, g2, g3, g4, g5⟩ := res_cells HT5.out.box
        obtain ⟨r0, r1, r2, r3, r4, r5, f0, f1, f2, f3, f4, f5⟩ := res_cells HT5.out.res
        have HZZ := Lib.hid (HZ.out.up (show 12 ≤ 14 by omega))
        go_wp2_with fail
        refine (HK.out _ HT5.out.bel).mono ?_
        rintro e w9 ⟨vh, vm, vi, rfl, hO⟩
        obtain ⟨A9, c9, rfl⟩ := OwnR.form hO.held
        obtain ⟨B9, d9, rfl⟩ := OwnR.form hO.marks
        obtain ⟨C9, e9, rfl⟩ := OwnR.form hO.inbox
        have HT9 := Lib.hid (HT5.out.later hO.bel)
        have hsz := HT5.out.sz
        have HC := Lib.hid (put6_blk (V := w9) (a' := .int .i64 k.id) (b' := .int .i64 k.time) (c' := .int .i64 k.next) (d' := .slice A9 k.held.length c9) (e' := .slice B9 k.marks.length d9) (f' := .slice C9 k.inbox.length e9) HT9.out.res)
        have HD := Lib.hid (put6_below (V := w9) (B := w.heap.size) (R := w.heap.size + 1) (by omega) HT9.out.bel (.int .i64 k.id) (.int .i64 k.time) (.int .i64 k.next) (.slice A9 k.held.length c9) (.slice B9 k.marks.length d9) (.slice C9 k.inbox.length e9))
        have HG := Lib.hid (OwnK.put6 hO (by omega) (by omega) HD.out)
        clear hO HT5
        clear b0 b1 b2 b3 b4 b5 g0 g1 g2 g3 g4 g5 r0 r1 r2 r3 r4 r5 f0 f1 f2 f3 f4 f5
        obtain ⟨b0, b1, b2, b3, b4, b5, g0, g1, g2, g3, g4, g5⟩ := res_cells HT9.out.box
        obtain ⟨r0, r1, r2, r3, r4, r5, f0, f1, f2, f3, f4, f5⟩ := res_cells HT9.out.res
        go_wp2
        have x0 := HC.out.cell 0
        have x1 := HC.out.cell 1
        have x2 := HC.out.cell 2
        have x3 := HC.out.cell 3
        have x4 := HC.out.cell 4
        have x5 := HC.out.cell 5
        refine bodyPost_ret (v := .tuple #[kpV k.id k.time k.next (.slice A9 k.held.length c9) (.slice B9 k.marks.length d9) (.slice C9 k.inbox.length e9), .bool false]) (by simp [results, Tryz.results48, go_sem, x0, x1, x2, x3, x4, x5]) rfl ⟨k, false, _, _, _, rfl, HP.out, HZZ.out, HG.out⟩

      | true =>
        have HP := Lib.hid (HD1.out _ _ (recP_t HRP.out hok'))
        rw [hok'] at HOx
        have HKx := Lib.hid (fun V (hV : Below W.heap.size W V) => copyK_any V k' _ _ _ (HS4.out.later hV) (HZ3.out.few (by omega)))
        unfold KeepPost at HKx
        clear hok' HRP HD1 HK
        go_wp2_with fail
        refine HOx.out.mono ?_
        rintro e w5 ⟨rfl, hB5⟩
        have HT5 := Lib.hid (HT4.out.later hB5)
        have HX5 := Lib.hid (HX4.out.below hB5 HX4.out.lt)
        have HB5 := Lib.hid hB5
        clear HT4 hB5 HOx q0 q1 q2 q3 q4 q5
        obtain ⟨q0, q1, q2, q3, q4, q5, _, _, _, _, _, _⟩ := res_cells HX5.out
        have HZZ := HZ3
        clear b0 b1 b2 b3 b4 b5 g0 g1 g2 g3 g4 g5 r0 r1 r2 r3 r4 r5 f0 f1 f2 f3 f4 f5
        obtain ⟨b0, b1, b2, b3, b4, b5, g0, g1, g2, g3, g4, g5⟩ := res_cells HT5.out.box
        obtain ⟨r0, r1, r2, r3, r4, r5, f0, f1, f2, f3, f4, f5⟩ := res_cells HT5.out.res
        go_wp2_with fail
        refine (HKx.out _ HB5.out).mono ?_
        rintro e w9 ⟨vh, vm, vi, rfl, hO⟩
        obtain ⟨A9, c9, rfl⟩ := OwnR.form hO.held
        obtain ⟨B9, d9, rfl⟩ := OwnR.form hO.marks
        obtain ⟨C9, e9, rfl⟩ := OwnR.form hO.inbox
        have HT9 := Lib.hid (HT5.out.later hO.bel)
        have hsz := HT5.out.sz
        have HC := Lib.hid (put6_blk (V := w9) (a' := .int .i64 k'.id) (b' := .int .i64 k'.time) (c' := .int .i64 k'.next) (d' := .slice A9 k'.held.length c9) (e' := .slice B9 k'.marks.length d9) (f' := .slice C9 k'.inbox.length e9) HT9.out.res)
        have HD := Lib.hid (put6_below (V := w9) (B := w.heap.size) (R := w.heap.size + 1) (by omega) HT9.out.bel (.int .i64 k'.id) (.int .i64 k'.time) (.int .i64 k'.next) (.slice A9 k'.held.length c9) (.slice B9 k'.marks.length d9) (.slice C9 k'.inbox.length e9))
        have HG := Lib.hid (OwnK.put6 hO (by omega) (by omega) HD.out)
        clear hO HT5
        clear b0 b1 b2 b3 b4 b5 g0 g1 g2 g3 g4 g5 r0 r1 r2 r3 r4 r5 f0 f1 f2 f3 f4 f5
        obtain ⟨b0, b1, b2, b3, b4, b5, g0, g1, g2, g3, g4, g5⟩ := res_cells HT9.out.box
        obtain ⟨r0, r1, r2, r3, r4, r5, f0, f1, f2, f3, f4, f5⟩ := res_cells HT9.out.res
        go_wp2
        have x0 := HC.out.cell 0
        have x1 := HC.out.cell 1
        have x2 := HC.out.cell 2
        have x3 := HC.out.cell 3
        have x4 := HC.out.cell 4
        have x5 := HC.out.cell 5
        refine bodyPost_ret (v := .tuple #[kpV k'.id k'.time k'.next (.slice A9 k'.held.length c9) (.slice B9 k'.marks.length d9) (.slice C9 k'.inbox.length e9), .bool true]) (by simp [results, Tryz.results48, go_sem, x0, x1, x2, x3, x4, x5]) rfl ⟨k', true, _, _, _, rfl, HP.out, HZZ.out, HG.out⟩

end Go.Proofs.YtjmmojjjopjdpaaGreatDoor.kp

/-
  Contracts of the laws' own loops over lists of texts: lbTexts, eqStringS (where both lists are one), markText, markStringS, heldStringS.
-/
namespace Go.Proofs.YtjmmojjjopjdpaaGreatDoor.sl
open Go.ChangeShapes Go.WideShapes Go.ChangeAt Go.RowKit
open Go.Proofs.YtjmmojjjopjdpaaGreatDoor.wd Go.Proofs.YtjmmojjjopjdpaaGreatDoor.cp Go.Proofs.YtjmmojjjopjdpaaGreatDoor.ow

/-- a slice that reads as a list of texts -/
def SeesS (w : World) (v : Value) (l : List ByteArray) : Prop :=
  ∃ A c, v = .slice A l.length c ∧ (0 < l.length → ∃ g, A = some ⟨g, 0, none⟩ ∧ g < w.heap.size ∧ ∀ i x, l[i]? = some x → w.cell? ⟨g, i, none⟩ = some (.string x))

theorem sees_of_own {w0 w : World} {v : Value} {l : List ByteArray} (h : Own 9 w0 w v (l.map Value.string)) : SeesS w v l := by
  obtain ⟨A, c, rfl, hc⟩ := h.form
  rw [List.length_map] at hc ⊢
  refine ⟨A, c, rfl, fun hn => ?_⟩
  obtain ⟨g, rfl, _, hg, hcell⟩ := hc hn
  exact ⟨g, rfl, hg, fun i x hx => hcell i _ (by simp [hx])⟩
theorem SeesS.later {w w' : World} {v : Value} {l : List ByteArray} (h : SeesS w v l) (hB : Below w.heap.size w w') : SeesS w' v l := by
  obtain ⟨A, c, rfl, hc⟩ := h
  refine ⟨A, c, rfl, fun hn => ?_⟩
  obtain ⟨g, rfl, hg, hcell⟩ := hc hn
  exact ⟨g, rfl, Nat.lt_of_lt_of_le hg hB.size, fun i x hx => (hB.cell (p := ⟨g, i, none⟩) hg).trans (hcell i x hx)⟩
theorem SeesS.drewN {w : World} {v : Value} {l : List ByteArray} (h : SeesS w v l) (q : Nat) : SeesS (w.drewN q) v l := h

def TruePost (w : World) (e : Ending) (w' : World) : Prop := e = .returned (.bool true) ∧ ∃ q, w' = w.drewN q


/-- the digits of a number ahead of a text -/
def dg : Nat → Nat → ByteArray → ByteArray
  | 0, _, out => out
  | f + 1, k, out => if k = 0 then out else dg f (k / 10) ((⟨#[UInt8.ofNat (48 + k % 10)]⟩ : ByteArray) ++ out)
theorem dg_zero (f : Nat) (out : ByteArray) : dg f 0 out = out := by cases f <;> simp [dg]
theorem dg_on {f k : Nat} {out : ByteArray} (h : 0 < k) : dg (f + 1) k out = dg f (k / 10) ((⟨#[UInt8.ofNat (48 + k % 10)]⟩ : ByteArray) ++ out) := by
  simp only [dg]; rw [if_neg (by omega)]
/-- what a mark is written as -/
def mt (k : Nat) : ByteArray := (⟨#[109]⟩ : ByteArray) ++ dg 8 k ⟨#[]⟩

theorem conv_one (w : World) (n : Nat) (h : n < 256) :
    (convert 22 9 (.slice (some ⟨w.heap.size, 0, none⟩) 1 1)).run Tryz.prog (w.alloc (.cells #[.int .u8 (n : Int)] 5)) = .ok (.string ⟨#[UInt8.ofNat n]⟩) (w.alloc (.cells #[.int .u8 (n : Int)] 5)) := by
  refine run_convert_bytes_back (P := Tryz.prog) _ 22 9 5 ⟨w.heap.size, 0, none⟩ 1 [UInt8.ofNat n] Tryz.underlying22 Tryz.underlying5 Tryz.underlying9 (fun j hj => ?_)
  have : j = 0 := by simpa using hj
  subst this
  have e : (⟨w.heap.size, 0, none⟩ : Addr).add 0 = ⟨w.heap.size, 0, none⟩ := by unfold Addr.add; split <;> simp_all
  rw [e, (Blk.new w 5 #[.int .u8 (n : Int)]).cell 0]
  simp
  omega

theorem size_cat (a b : ByteArray) : (a ++ b).size = a.size + b.size := by simp

set_option maxRecDepth 100000 in
set_option maxHeartbeats 400000 in
theorem mark_text (k : Nat) (h0 : 1 ≤ k) (h1 : k < 100000000) (w : World) : Calls Tryz.prog 139 #[.int .i64 k] w (StrPost w (mt k)) := by
  have H := Lib.hid (show mt k = (⟨#[109]⟩ : ByteArray) ++ dg 8 k ⟨#[]⟩ from rfl)
  go_enter Tryz.func139, Tryz.ntmps139
  go_wp2
  go_loopw [0, 3] (fun i s wr => ∃ (m f : Nat) (out : ByteArray), i = .int .i64 m ∧ s = .string out ∧ Hid (m < 10 ^ f) ∧ out.size + f ≤ 8 ∧ m < 100000000 ∧ Hid (dg 8 k ⟨#[]⟩ = dg f m out) ∧ Below w.heap.size w wr) (fun i _ _ => (intOf i).toNat)
  case atStart => exact ⟨k, 8, ⟨#[]⟩, rfl, rfl, h1, by decide, h1, rfl, Below.refl _ _⟩
  case round =>
    obtain ⟨m, f, out, rfl, rfl, HF, hs, hm, HD, hB⟩ := hrel
    have hz := hB.size
    by_cases hm0 : 0 < m
    · obtain ⟨f, rfl⟩ : ∃ f', f = f' + 1 := ⟨f - 1, by
        rcases Nat.eq_zero_or_pos f with rfl | h
        · have := HF.out; omega
        · omega⟩
      have HN : Hid (m / 10 < 10 ^ f) := Nat.div_lt_of_lt_mul (by have := HF.out; rw [Nat.pow_succ] at this; omega)
      have HD' := Lib.hid (HD.out.trans (dg_on hm0))
      have HZ := Lib.hid (size_cat ⟨#[UInt8.ofNat (48 + m % 10)]⟩ out)
      have hcv := conv_one wr (48 + m % 10) (by omega)
      rw [show ((48 + m % 10 : Nat) : Int) = 48 + (m : Int) % 10 by omega] at hcv
      generalize UInt8.ofNat (48 + m % 10) = ch at hcv HD' HZ
      have hso : (out.size : Int) ≤ 8388608 := by omega
      clear HF HD
      go_wp2
      go_roundw
      case rel => exact ⟨m / 10, f, _, by go_num, rfl, HN.out, by rw [HZ.out]; show 1 + out.size + f ≤ 8; omega, by omega, HD'.out, hB.alloc hz _⟩
      case measure => simp [intOf]; omega
    · obtain rfl : m = 0 := by omega
      have HE := Lib.hid (HD.out.trans (dg_zero f out))
      have hso : (out.size : Int) ≤ 8388608 := by omega
      go_wp2
      go_ret
      exact ⟨by rw [H.out, HE.out]; rfl, hB⟩

/-- the marks from k on, n of them -/
def mts (k n : Nat) : List ByteArray := (List.range n).map fun i => mt (k + i)
theorem mts_len (k n : Nat) : (mts k n).length = n := by simp [mts]
theorem mts_at {k n i : Nat} (h : i < n) : (mts k n)[i]? = some (mt (k + i)) := by simp [mts, h]

/-- nothing old has changed but the slice's own block -/
def Touched (v : Value) (w w' : World) : Prop :=
  w'.os = w.os ∧ w'.tape = w.tape ∧ w'.output = w.output ∧ w.heap.size ≤ w'.heap.size ∧ ∀ b, b < w.heap.size → some b ≠ v.ownBlock → w'.heap[b]? = w.heap[b]?
theorem Touched.refl (v : Value) (w : World) : Touched v w w := ⟨rfl, rfl, rfl, Nat.le_refl _, fun _ _ _ => rfl⟩
theorem Touched.below {v : Value} {w w' : World} (h : Touched v w w') {B : Nat} (hB : ∀ g, v.ownBlock = some g → B ≤ g) (hw : B ≤ w.heap.size) : Below B w w' :=
  ⟨h.1, h.2.1, h.2.2.1, h.2.2.2.1, fun k hk => h.2.2.2.2 k (by omega) (fun e => by have := hB k e.symm; omega)⟩
theorem Touched.on {v : Value} {w w1 w2 : World} (h : Touched v w w1) (hb : Below w1.heap.size w1 w2) : Touched v w w2 :=
  ⟨hb.os.trans h.1, hb.tape.trans h.2.1, hb.output.trans h.2.2.1, Nat.le_trans h.2.2.2.1 hb.size, fun b hlt hne => (hb.block b (Nat.lt_of_lt_of_le hlt h.2.2.2.1)).trans (h.2.2.2.2 b hlt hne)⟩
theorem Touched.set {g n cap : Nat} {w w1 : World} (h : Touched (.slice (some ⟨g, 0, none⟩) n cap) w w1) (i : Nat) (x : Value) : Touched (.slice (some ⟨g, 0, none⟩) n cap) w (w1.setCell ⟨g, i, none⟩ x) :=
  ⟨h.1, h.2.1, h.2.2.1, by simpa using h.2.2.2.1, fun b hlt hne => (Below.heap_setCell w1 ⟨g, i, none⟩ x b (fun e => hne (by subst e; rfl))).trans (h.2.2.2.2 b hlt hne)⟩

def MarkPost (w : World) (v : Value) (k n : Nat) (e : Ending) (w' : World) : Prop :=
  e = .returned (.int .i64 ((k + n : Nat) : Int)) ∧ SeesS w' v (mts k n) ∧ Touched v w w'

def MRel (w : World) (g n cap k i : Nat) (wr : World) : Prop :=
  (∃ cur, Blk wr g 9 cur ∧ cur.size = cap ∧ ∀ j, j < i → cur[j]? = some (.string (mt (k + j)))) ∧ Touched (.slice (some ⟨g, 0, none⟩) n cap) w wr
theorem mrel_on {w : World} {g n cap k i : Nat} {wr w2 : World} (h : MRel w g n cap k i wr) (hi : i < cap) (hb : Below wr.heap.size wr w2) : MRel w g n cap k (i + 1) (w2.setCell ⟨g, i, none⟩ (.string (mt (k + i)))) := by
  obtain ⟨⟨cur, hB, hs, hc⟩, t⟩ := h
  refine ⟨⟨_, (hB.below hb hB.lt).put i _, by simpa using hs, fun j hj => ?_⟩, (t.on hb).set i _⟩
  by_cases e : j = i
  · subst e; rw [Array.getElem?_setIfInBounds]; simp; omega
  · rw [Array.getElem?_setIfInBounds]; rw [if_neg (fun h => e h.symm)]; exact hc j (by omega)

end Go.Proofs.YtjmmojjjopjdpaaGreatDoor.sl

/-
  Contracts of the laws' own helpers: markNoteS, markMarkS, markKeep: what a keeper has is written over by marks, list by list.
-/
namespace Go.Proofs.YtjmmojjjopjdpaaGreatDoor.kp
open Go.ChangeShapes Go.WideShapes Go.ChangeAt Go.RowKit
open Go.Proofs.YtjmmojjjopjdpaaGreatDoor.wd Go.Proofs.YtjmmojjjopjdpaaGreatDoor.ow Go.Proofs.YtjmmojjjopjdpaaGreatDoor.rl Go.Proofs.YtjmmojjjopjdpaaGreatDoor.ok Go.Proofs.YtjmmojjjopjdpaaGreatDoor.sl

/-- k records, and m cells of the next one, lie in block g -/
def FillP {α : Type} (S : Shape α) (t : TypeId) (g n : Nat) (l : List α) (k m : Nat) (w : World) : Prop :=
  ∃ cur, Blk w g t cur ∧ cur.size = n * S.n ∧ (∀ i x, i < k → l[i]? = some x → ∀ j u, (S.f x)[j]? = some u → cur[i * S.n + j]? = some u) ∧ (∀ x, l[k]? = some x → ∀ j u, j < m → (S.f x)[j]? = some u → cur[k * S.n + j]? = some u)
section
variable {α : Type} {S : Shape α} {t : TypeId} {g n k m : Nat} {l : List α} {w w' w0 : World}
theorem FillP.of (h : Fill S t g n l k w) : FillP S t g n l k 0 w := by
  obtain ⟨cur, h1, h2, h3⟩ := h
  exact ⟨cur, h1, h2, h3, fun x _ j u hj => absurd hj (by omega)⟩
theorem FillP.later (h : FillP S t g n l k m w) (hB : Below w.heap.size w w') : FillP S t g n l k m w' := by
  obtain ⟨cur, h1, h2, h3, h4⟩ := h
  exact ⟨cur, h1.below hB h1.lt, h2, h3, h4⟩
theorem FillP.set (h : FillP S t g n l k m w) (hk : k < n) (hm : m < S.n) {x : α} (hx : l[k]? = some x) {u : Value} (hu : (S.f x)[m]? = some u) : FillP S t g n l k (m + 1) (w.setCell ⟨g, k * S.n + m, none⟩ u) := by
  obtain ⟨cur, h1, h2, h3, h4⟩ := h
  have hb : (k + 1) * S.n ≤ n * S.n := Nat.mul_le_mul_right _ hk
  rw [Nat.succ_mul] at hb
  refine ⟨_, h1.put _ _, by simpa using h2, fun i y hi hy j v hv => ?_, fun y hy j v hj hv => ?_⟩
  · have hj : j < S.n := by have := (List.getElem?_eq_some_iff.1 hv).1; rwa [S.len] at this
    have hlt : (i + 1) * S.n ≤ k * S.n := Nat.mul_le_mul_right _ (by omega)
    rw [Nat.succ_mul] at hlt
    rw [Array.getElem?_setIfInBounds, if_neg (by omega)]
    exact h3 i y hi hy j v hv
  · rw [Array.getElem?_setIfInBounds]
    by_cases e : j = m
    · subst e
      rw [hx] at hy
      injection hy with hy
      subst hy
      rw [hu] at hv
      rw [if_pos rfl, if_pos (by omega)]
      exact hv
    · rw [if_neg (by omega)]
      exact h4 y hy j v (by omega) hv
theorem FillP.done (h : FillP S t g n l k S.n w) : Fill S t g n l (k + 1) w := by
  obtain ⟨cur, h1, h2, h3, h4⟩ := h
  refine ⟨cur, h1, h2, fun i x hi hx j u hu => ?_⟩
  by_cases e : i = k
  · subst e
    exact h4 x hx j u (by have := (List.getElem?_eq_some_iff.1 hu).1; rwa [S.len] at this) hu
  · exact h3 i x (by omega) hx j u hu
theorem FillP.cell (h : FillP S t g n l k m w) (hk : k < n) {j : Nat} (hj : j < S.n) : (∃ x, w.cell? ⟨g, k * S.n + j, none⟩ = some x) ∧ w.frozen? ⟨g, k * S.n + j, none⟩ = false := by
  obtain ⟨cur, h1, h2, _⟩ := h
  have hm : (k + 1) * S.n ≤ n * S.n := Nat.mul_le_mul_right _ hk
  rw [Nat.succ_mul] at hm
  refine ⟨⟨cur[k * S.n + j]'(by omega), ?_⟩, h1.frozen _⟩
  rw [h1.cell]; exact Array.getElem?_eq_getElem (by omega)
theorem Fill.ownAt {B cap : Nat} (h : Fill S t g cap l l.length w) (hg : B ≤ g) (hc : l.length ≤ cap) (hm : cap ≤ maxLen) : OwnAt S t B w (.slice (some ⟨g, 0, none⟩) l.length cap) l := by
  obtain ⟨cur, h1, h2, h3⟩ := h
  have hle : l.length * S.n ≤ cap * S.n := Nat.mul_le_mul_right _ hc
  have h4 : cur.toList.length = cap * S.n := by simpa using h2
  have hf : cur.toList.take (l.length * S.n) = l.flatMap S.f := flat_of S (by rw [List.length_take]; omega) (fun i x hx j u hu => by
    have hj : j < S.n := by have := (List.getElem?_eq_some_iff.1 hu).1; rwa [S.len] at this
    have hi := (List.getElem?_eq_some_iff.mp hx).1
    have hlt : (i + 1) * S.n ≤ l.length * S.n := Nat.mul_le_mul_right _ hi
    rw [Nat.succ_mul] at hlt
    rw [List.getElem?_take_of_lt (by omega)]
    have := h3 i x hi hx j u hu
    simpa using this)
  exact ⟨by rw [flat_len S.len], .inr ⟨g, cap, cur, rfl, hg, h1, hc, hm, h2, hf⟩⟩
theorem grown_put {w W : World} {g : Nat} (h : w.grownBy W (some g)) (i : Nat) (v : Value) : w.grownBy (W.setCell ⟨g, i, none⟩ v) (some g) :=
  ⟨h.os, h.tape, h.output, by simpa using h.size, fun k hk hne => (Below.heap_setCell W ⟨g, i, none⟩ v k (fun e => hne (by rw [e]))).trans (h.block k hk hne)⟩
theorem grown_on {w W W' : World} {r : Option Nat} (h : w.grownBy W r) (hB : Below W.heap.size W W') : w.grownBy W' r :=
  ⟨hB.os.trans h.os, hB.tape.trans h.tape, hB.output.trans h.output, Nat.le_trans h.size hB.size, fun k hk hne => (hB.block k (Nat.lt_of_lt_of_le hk h.size)).trans (h.block k hk hne)⟩
theorem grown_refl (w : World) (r : Option Nat) : w.grownBy w r := ⟨rfl, rfl, rfl, Nat.le_refl _, fun _ _ _ => rfl⟩
end

/-- what a mark writes -/
def ntM (x : Int) : Nt := ⟨x, x + 1, x + 1 + 1, x + 1 + 1 + 1, mt (x + 1 + 1 + 1 + 1).toNat⟩
def mkM (x : Int) : Mk := ⟨x, x + 1, x + 1 + 1⟩
def ntMs (x : Int) (n : Nat) : List Nt := (List.range n).map fun i : Nat => ntM (x + 5 * i)
def mkMs (x : Int) (n : Nat) : List Mk := (List.range n).map fun i : Nat => mkM (x + 3 * i)
theorem ntMs_len (x : Int) (n : Nat) : (ntMs x n).length = n := by simp [ntMs]
theorem mkMs_len (x : Int) (n : Nat) : (mkMs x n).length = n := by simp [mkMs]
theorem ntMs_at {x : Int} {n i : Nat} (h : i < n) : (ntMs x n)[i]? = some (ntM (x + 5 * i)) := by simp [ntMs, h]
theorem mkMs_at {x : Int} {n i : Nat} (h : i < n) : (mkMs x n)[i]? = some (mkM (x + 3 * i)) := by simp [mkMs, h]

theorem mark_int (x : Int) (h0 : 1 ≤ x) (h1 : x < 100000000) (w : World) : Calls Tryz.prog 139 #[.int .i64 x] w (StrPost w (mt x.toNat)) := by
  obtain ⟨m, rfl⟩ := Int.eq_ofNat_of_zero_le (show 0 ≤ x by omega)
  exact mark_text m (by omega) (by omega) w

def MarkedN (w : World) (v : Value) (B n : Nat) (x : Int) (e : Ending) (w' : World) : Prop := e = .returned (.int .i64 (x + 5 * n)) ∧ OwnAt ntS 131 B w' v (ntMs x n) ∧ w.grownBy w' v.ownBlock
def MarkedM (w : World) (v : Value) (B n : Nat) (x : Int) (e : Ending) (w' : World) : Prop := e = .returned (.int .i64 (x + 3 * n)) ∧ OwnAt mkS 164 B w' v (mkMs x n) ∧ w.grownBy w' v.ownBlock

set_option maxRecDepth 100000 in
set_option maxHeartbeats 1600000 in
theorem markN_any {w : World} {v : Value} {B : Nat} {l : List Nt} (h : OwnAt ntS 131 B w v l) (x : Int) (hx : 1 ≤ x) (hn : x + 5 * l.length < 100000000) :
    Calls Tryz.prog 71 #[v, .int .i64 x] w (MarkedN w v B l.length x) := by
  obtain ⟨n, hN⟩ : ∃ n, n = l.length := ⟨_, rfl⟩
  rw [← hN] at hn ⊢
  rcases h.2 with ⟨rfl, h0⟩ | ⟨g, cap, cur, rfl, hb, hh, hnc, hm, hs, _⟩
  · obtain rfl : n = 0 := by omega
    clear h h0 hN
    go_enter Tryz.func71, Tryz.ntmps71
    go_wp2
    go_loop [1, 5] (fun a i => i = .int .i64 0 ∧ a = .int .i64 x) (fun _ _ => 0)
    case atStart => exact ⟨rfl, rfl⟩
    case round =>
      obtain ⟨rfl, rfl⟩ := hrel
      go_wp2
      go_ret
      exact ⟨by simp, World.ownsRow_nil _ _ _ _, grown_refl _ _⟩
  · rw [← hN] at hnc ⊢
    have HR := Lib.hid (show Fill ntS 131 g cap (ntMs x n) 0 w from ⟨cur, hh, hs, fun i y hi => absurd hi (by omega)⟩)
    have HG := Lib.hid hb
    have hm' : cap ≤ 9223372036854775807 := hm
    have HM := Lib.hid hm
    clear h hh hs hb hN hm
    go_enter Tryz.func71, Tryz.ntmps71
    go_wp2
    go_loopw [1, 5] (fun a i wr => ∃ (j : Nat) (y : Int), j ≤ n ∧ i = .int .i64 j ∧ a = .int .i64 y ∧ Hid (y = x + 5 * j) ∧ 1 ≤ y ∧ y + 5 * (n - j : Nat) < 100000000 ∧ Hid (Fill ntS 131 g cap (ntMs x n) j wr) ∧ Hid (w.grownBy wr (some g))) (fun _ i _ => (n + 1 : Nat) - (intOf i).toNat)
    case atStart => exact ⟨0, x, by omega, rfl, rfl, by show x = x + 5 * ((0 : Nat) : Int); omega, hx, by omega, HR.out, grown_refl _ _⟩
    case round =>
      obtain ⟨j, y, hj, rfl, rfl, HY, y0, y1, HF, HW⟩ := hrel
      clear HR
      by_cases hjn : j < n
      · have hP0 := FillP.of HF.out
        have ha : (ntMs x n)[j]? = some (ntM y) := by rw [ntMs_at hjn, HY.out]
        have hjc : j < cap := by omega
        have hP1 := hP0.set (m := 0) hjc (by decide) ha (u := .int .i64 y) rfl
        have hP2 := hP1.set (m := 1) hjc (by decide) ha (u := .int .i64 (y + 1)) rfl
        have hP3 := hP2.set (m := 2) hjc (by decide) ha (u := .int .i64 (y + 1 + 1)) rfl
        have hP4 := Lib.hid (hP3.set (m := 3) hjc (by decide) ha (u := .int .i64 (y + 1 + 1 + 1)) rfl)
        have hW4 := Lib.hid (grown_put (grown_put (grown_put (grown_put HW.out (j * 5) (.int .i64 y)) (j * 5 + 1) (.int .i64 (y + 1))) (j * 5 + 2) (.int .i64 (y + 1 + 1))) (j * 5 + 3) (.int .i64 (y + 1 + 1 + 1)))
        obtain ⟨⟨x0, c0⟩, f0⟩ := hP0.cell hjc (j := 0) (by decide)
        obtain ⟨⟨x1, c1⟩, f1⟩ := hP0.cell hjc (j := 1) (by decide)
        obtain ⟨⟨x2, c2⟩, f2⟩ := hP0.cell hjc (j := 2) (by decide)
        obtain ⟨⟨x3, c3⟩, f3⟩ := hP0.cell hjc (j := 3) (by decide)
        change wr.cell? ⟨g, j * 5, none⟩ = _ at c0
        change wr.frozen? ⟨g, j * 5, none⟩ = _ at f0
        change wr.cell? ⟨g, j * 5 + 1, none⟩ = _ at c1
        change wr.frozen? ⟨g, j * 5 + 1, none⟩ = _ at f1
        change wr.cell? ⟨g, j * 5 + 2, none⟩ = _ at c2
        change wr.frozen? ⟨g, j * 5 + 2, none⟩ = _ at f2
        change wr.cell? ⟨g, j * 5 + 3, none⟩ = _ at c3
        change wr.frozen? ⟨g, j * 5 + 3, none⟩ = _ at f3
        have HA := Lib.hid ha
        have hj1 : (j : Int) < (n : Int) := by omega
        clear hP0 hP1 hP2 hP3 ha
        go_wp2_with fail
        refine (mark_int (y + 1 + 1 + 1 + 1) (by omega) (by omega) _).mono ?_
        rintro e w2 ⟨rfl, hB2⟩
        have hP5 := hP4.out.later hB2
        have R := Lib.hid (FillP.done (hP5.set (m := 4) hjc (by decide) HA.out (u := .string (mt (y + 1 + 1 + 1 + 1).toNat)) rfl))
        have HW5 := Lib.hid (grown_put (grown_on hW4.out hB2) (j * 5 + 4) (.string (mt (y + 1 + 1 + 1 + 1).toNat)))
        have HY2 := Lib.hid (show y + 1 + 1 + 1 + 1 + 1 = x + 5 * ((j + 1 : Nat) : Int) by have := HY.out; omega)
        obtain ⟨⟨x4, c4⟩, f4⟩ := hP5.cell hjc (j := 4) (by decide)
        change w2.cell? ⟨g, j * 5 + 4, none⟩ = _ at c4
        change w2.frozen? ⟨g, j * 5 + 4, none⟩ = _ at f4
        clear hP5 hP4 hW4 hB2 HF HW c0 c1 c2 c3 f0 f1 f2 f3 HA
        generalize mt (y + 1 + 1 + 1 + 1).toNat = txt at R HW5 ⊢
        go_wp2
        go_roundw
        case rel => exact ⟨j + 1, y + 1 + 1 + 1 + 1 + 1, by omega, by go_num, rfl, HY2.out, by omega, by omega, R.out, HW5.out⟩
        case measure => simp [intOf]; omega
      · obtain rfl : j = n := by omega
        have R := Lib.hid (Fill.ownAt (B := B) (l := ntMs x j) (by rw [ntMs_len]; exact HF.out) HG.out (by rw [ntMs_len]; exact hnc) HM.out)
        rw [ntMs_len] at R
        go_wp2
        go_ret
        exact ⟨ow.ret_int HY.out, R.out, HW.out⟩

set_option maxRecDepth 100000 in
set_option maxHeartbeats 1600000 in
theorem markM_any {w : World} {v : Value} {B : Nat} {l : List Mk} (h : OwnAt mkS 164 B w v l) (x : Int) (hx : 1 ≤ x) (hn : x + 3 * l.length < 100000000) :
    Calls Tryz.prog 72 #[v, .int .i64 x] w (MarkedM w v B l.length x) := by
  obtain ⟨n, hN⟩ : ∃ n, n = l.length := ⟨_, rfl⟩
  rw [← hN] at hn ⊢
  rcases h.2 with ⟨rfl, h0⟩ | ⟨g, cap, cur, rfl, hb, hh, hnc, hm, hs, _⟩
  · obtain rfl : n = 0 := by omega
    clear h h0 hN
    go_enter Tryz.func72, Tryz.ntmps72
    go_wp2
    go_loop [1, 5] (fun a i => i = .int .i64 0 ∧ a = .int .i64 x) (fun _ _ => 0)
    case atStart => exact ⟨rfl, rfl⟩
    case round =>
      obtain ⟨rfl, rfl⟩ := hrel
      go_wp2
      go_ret
      exact ⟨by simp, World.ownsRow_nil _ _ _ _, grown_refl _ _⟩
  · rw [← hN] at hnc ⊢
    have HR := Lib.hid (show Fill mkS 164 g cap (mkMs x n) 0 w from ⟨cur, hh, hs, fun i y hi => absurd hi (by omega)⟩)
    have HG := Lib.hid hb
    have hm' : cap ≤ 9223372036854775807 := hm
    have HM := Lib.hid hm
    clear h hh hs hb hN hm
    go_enter Tryz.func72, Tryz.ntmps72
    go_wp2
    go_loopw [1, 5] (fun a i wr => ∃ (j : Nat) (y : Int), j ≤ n ∧ i = .int .i64 j ∧ a = .int .i64 y ∧ Hid (y = x + 3 * j) ∧ 1 ≤ y ∧ y + 3 * (n - j : Nat) < 100000000 ∧ Hid (Fill mkS 164 g cap (mkMs x n) j wr) ∧ Hid (w.grownBy wr (some g))) (fun _ i _ => (n + 1 : Nat) - (intOf i).toNat)
    case atStart => exact ⟨0, x, by omega, rfl, rfl, by show x = x + 3 * ((0 : Nat) : Int); omega, hx, by omega, HR.out, grown_refl _ _⟩
    case round =>
      obtain ⟨j, y, hj, rfl, rfl, HY, y0, y1, HF, HW⟩ := hrel
      clear HR
      by_cases hjn : j < n
      · have hP0 := FillP.of HF.out
        have ha : (mkMs x n)[j]? = some (mkM y) := by rw [mkMs_at hjn, HY.out]
        have hjc : j < cap := by omega
        have hP1 := hP0.set (m := 0) hjc (by decide) ha (u := .int .i64 y) rfl
        have hP2 := hP1.set (m := 1) hjc (by decide) ha (u := .int .i64 (y + 1)) rfl
        have R := Lib.hid (FillP.done (hP2.set (m := 2) hjc (by decide) ha (u := .int .i64 (y + 1 + 1)) rfl))
        have HW5 := Lib.hid (grown_put (grown_put (grown_put HW.out (j * 3) (.int .i64 y)) (j * 3 + 1) (.int .i64 (y + 1))) (j * 3 + 2) (.int .i64 (y + 1 + 1)))
        obtain ⟨⟨x0, c0⟩, f0⟩ := hP0.cell hjc (j := 0) (by decide)
        obtain ⟨⟨x1, c1⟩, f1⟩ := hP0.cell hjc (j := 1) (by decide)
        obtain ⟨⟨x2, c2⟩, f2⟩ := hP0.cell hjc (j := 2) (by decide)
        change wr.cell? ⟨g, j * 3, none⟩ = _ at c0
        change wr.frozen? ⟨g, j * 3, none⟩ = _ at f0
        change wr.cell? ⟨g, j * 3 + 1, none⟩ = _ at c1
        change wr.frozen? ⟨g, j * 3 + 1, none⟩ = _ at f1
        change wr.cell? ⟨g, j * 3 + 2, none⟩ = _ at c2
        change wr.frozen? ⟨g, j * 3 + 2, none⟩ = _ at f2
        have HY2 := Lib.hid (show y + 1 + 1 + 1 = x + 3 * ((j + 1 : Nat) : Int) by have := HY.out; omega)
        have hj1 : (j : Int) < (n : Int) := by omega
        clear hP0 hP1 hP2 ha HF HW
        go_wp2
        go_roundw
        case rel => exact ⟨j + 1, y + 1 + 1 + 1, by omega, by go_num, rfl, HY2.out, by omega, by omega, R.out, HW5.out⟩
        case measure => simp [intOf]; omega
      · obtain rfl : j = n := by omega
        have R := Lib.hid (Fill.ownAt (B := B) (l := mkMs x j) (by rw [mkMs_len]; exact HF.out) HG.out (by rw [mkMs_len]; exact hnc) HM.out)
        rw [mkMs_len] at R
        go_wp2
        go_ret
        exact ⟨ow.ret_int HY.out, R.out, HW.out⟩
end Go.Proofs.YtjmmojjjopjdpaaGreatDoor.kp

