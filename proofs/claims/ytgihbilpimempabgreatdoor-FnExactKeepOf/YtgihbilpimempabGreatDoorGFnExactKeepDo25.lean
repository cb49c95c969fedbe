/-
  Merged texts: SRec7, SRecAny, SDo, Lim, Next.
-/
import Derived.Test.YtgihbilpimempabGreatDoorGFnExactKeepDo8
import Derived.Test.YtgihbilpimempabGreatDoorGFnExactKeepDo16
import Derived.Test.YtgihbilpimempabGreatDoorGFnExactKeepDo19
import Derived.Test.YtgihbilpimempabGreatDoorGFnExactKeepDo20
import Derived.Test.YtgihbilpimempabGreatDoorGFnExactKeepDo17
import Derived.Test.YtgihbilpimempabGreatDoorGFnExactKeepDo18
import Derived.Test.YtgihbilpimempabGreatDoorGFnExactKeepDo21
import Derived.Test.YtgihbilpimempabGreatDoorGFnExactKeepDo23
import Derived.Test.YtgihbilpimempabGreatDoorGFnExactKeepDo24
import Derived.Test.YtgihbilpimempabGreatDoorGFnExactKeepDo10
import Derived.Test.YtgihbilpimempabGreatDoorGFnExactKeepDo1
import Derived.Deep.RegionHeld3
import Derived.Below
/-
  Contract of spec.l12Rec: any other word.
-/
namespace Go.Proofs.YtgihbilpimempabGreatDoor.kp
open Go.ChangeShapes Go.WideShapes Go.ChangeAt Go.RowKit
open Go.Proofs.YtgihbilpimempabGreatDoor.wd Go.Proofs.YtgihbilpimempabGreatDoor.ow Go.Proofs.YtgihbilpimempabGreatDoor.rl Go.Proofs.YtgihbilpimempabGreatDoor.ok Go.Proofs.YtgihbilpimempabGreatDoor.nb Go.Proofs.YtgihbilpimempabGreatDoor.dc

theorem word_not {l : List UInt8} {a b : List UInt8} (h : a ≠ (word l).1) (e : a = b) : ((str (word l).1).toList == b) = false := by
  rw [beq_eq_false_iff_ne, ByteArray.toList_eq, data_str]
  intro e'
  exact h (e.trans e'.symm)
set_option maxRecDepth 100000 in
set_option maxHeartbeats 4000000 in
theorem rec_none (w : World) (k : Kp) (a b c : Value) (x : ByteArray) (hs : x.size ≤ 1048576) (h : SeesK w k a b c) (ho : okK k = true) (hrm : Room a ∧ Room c) (hw : ∀ r : Rc, kw r ≠ (word x.data.toList).1) :
    Calls Tryz.prog 37 #[kpV k.id k.time k.next a b c, .string x] w (RecPost w k x.data.toList) := by
  have HZ := Lib.hid (sz_ok ho)
  have HS := Lib.hid h
  have HW := Lib.hid (fun W => sword_any x hs W)
  unfold WordPost at HW
  have hrl : (str (word x.data.toList).2).size ≤ 1048576 := by rw [str_size]; have := (word_len x.data.toList).2; rw [← Lib.size_eq] at this; omega
  have HRm := Lib.hid hrm
  have HR := Lib.hid (fun (i1 i2 i3 : Int) (hr : ReadK (word x.data.toList).2 [i1, i2, i3]) => (rec_other hw : RecP k x.data.toList k false))
  have HN := Lib.hid (fun W => nums3_any (str (word x.data.toList).2) hrl W)
  rw [data_str] at HN
  generalize (word x.data.toList).2 = rest at HW HR HN hrl
  have wTime := word_not (hw (.time 0)) (show kw (.time 0) = [116, 105, 109, 101] from rfl)
  have wOwn := word_not (hw (.own ⟨0, 0, 0, 0, ⟨#[]⟩⟩)) (show kw (.own ⟨0, 0, 0, 0, ⟨#[]⟩⟩) = [111, 119, 110] from rfl)
  have wTake := word_not (hw (.take ⟨0, 0, 0, 0, ⟨#[]⟩⟩)) (show kw (.take ⟨0, 0, 0, 0, ⟨#[]⟩⟩) = [116, 97, 107, 101] from rfl)
  have wNext := word_not (hw (.next 0)) (show kw (.next 0) = [110, 101, 120, 116] from rfl)
  have wHeld := word_not (hw (.held ⟨0, 0, 0, 0, ⟨#[]⟩⟩)) (show kw (.held ⟨0, 0, 0, 0, ⟨#[]⟩⟩) = [104, 101, 108, 100] from rfl)
  have wInbox := word_not (hw (.inbox ⟨0, 0, 0, 0, ⟨#[]⟩⟩)) (show kw (.inbox ⟨0, 0, 0, 0, ⟨#[]⟩⟩) = [105, 110, 98, 111, 120] from rfl)
  have wLet := word_not (hw (.lets ⟨0, 0, 0⟩)) (show kw (.lets ⟨0, 0, 0⟩) = [108, 101, 116] from rfl)
  have wEat := word_not (hw (.eat ⟨0, 0, 0⟩)) (show kw (.eat ⟨0, 0, 0⟩) = [101, 97, 116] from rfl)
  have wMark := word_not (hw (.mark ⟨0, 0, 0⟩)) (show kw (.mark ⟨0, 0, 0⟩) = [109, 97, 114, 107] from rfl)
  generalize str (word x.data.toList).1 = wd at HW wTime wOwn wTake wNext wHeld wInbox wLet wEat wMark
  obtain ⟨Aa, ca, rfl, _⟩ := h.held
  obtain ⟨Ab, cb, rfl, _⟩ := h.marks
  obtain ⟨Ac, cc, rfl, _⟩ := h.inbox
  have HT := Lib.hid (CB.new w k (.slice Aa k.held.length ca) (.slice Ab k.marks.length cb) (.slice Ac k.inbox.length cc))
  clear hrm
  clear h hw ho hrl
  go_enter Tryz.func37, Tryz.ntmps37
  go_upto_region 1 with (fail)
  generalize (w.alloc (.cells #[.int .i64 k.id, .int .i64 k.time, .int .i64 k.next, .slice Aa k.held.length ca, .slice Ab k.marks.length cb, .slice Ac k.inbox.length cc] 29)).alloc (.cells #[.int .i64 0, .int .i64 0, .int .i64 0, .slice none 0 0, .slice none 0 0, .slice none 0 0] 29) = V at HT ⊢
  go_wp2_with fail
  refine (HW.out _).mono ?_
  rintro e w1 ⟨rfl, hB1⟩
  have HT1 := Lib.hid (HT.out.later hB1)
  clear HT hB1 HW
  go_wp2_with fail
  refine (HN.out _).mono ?_
  rintro e w2 ⟨v, vs, rfl, hl3, hO, hrk⟩
  obtain ⟨i1, i2, i3, rfl⟩ := three3 hl3
  obtain ⟨q1, q2, q3⟩ := rd3 hrk
  obtain ⟨gI, capI, rfl, hg0, hg1, c0, c1, c2⟩ := own_three hO
  have HT2 := Lib.hid (HT1.out.later hO.2)
  have HT1z := Lib.hid HT1.out.sz
  have HRR := Lib.hid (HR.out i1 i2 i3 hrk)
  have HCI := Lib.hid (fun V (hV : Below w2.heap.size w2 V) => (show V.cell? ⟨gI, 0, none⟩ = some (.int .i64 i1) ∧ V.cell? ⟨gI, 1, none⟩ = some (.int .i64 i2) ∧ V.cell? ⟨gI, 2, none⟩ = some (.int .i64 i3) from ⟨(hV.cell (p := ⟨gI, 0, none⟩) hg1).trans c0, (hV.cell (p := ⟨gI, 1, none⟩) hg1).trans c1, (hV.cell (p := ⟨gI, 2, none⟩) hg1).trans c2⟩))
  have hmc := m3m_cat i1 i2 i3
  have hz1 := dlm_len q1
  have hz2 := dlm_len q2
  have hz3 := dlm_len q3
  have HD1 := Lib.hid (fun W => decM_any i1 q1 W)
  have HD2 := Lib.hid (fun W => decM_any i2 q2 W)
  have HD3 := Lib.hid (fun W => decM_any i3 q3 W)
  unfold dc.StrPost at HD1 HD2 HD3
  generalize str (dlm i1) = D1 at hmc hz1 HD1
  generalize str (dlm i2) = D2 at hmc hz2 HD2
  generalize str (dlm i3) = D3 at hmc hz3 HD3
  have hsp : (⟨#[32]⟩ : ByteArray).size = 1 := rfl
  obtain ⟨p1, y1, z1, s1⟩ := adds D1 ⟨#[32]⟩ (by omega)
  obtain ⟨p2, y2, z2, s2⟩ := adds p1 D2 (by omega)
  obtain ⟨p3, y3, z3, s3⟩ := adds p2 ⟨#[32]⟩ (by omega)
  obtain ⟨p4, y4, z4, s4⟩ := adds p3 D3 (by omega)
  have hp4 : p4 = str (m3m i1 i2 i3) := by rw [y4, y3, y2, y1]; exact hmc
  clear y1 y2 y3 y4 z1 z2 z3 z4 hz1 hz2 hz3 hsp hmc hO hl3 hrk HT1 HR HN c0 c1 c2
  have hZT := HT2.out.sz
  by_cases ht : restK rest 3 = []
  · have hte : str (restK rest 3) = ⟨#[]⟩ := by rw [ht]; rfl
    rw [hte]
    clear hte
    have a0 : ∀ p : qa.After w2, p.W.cell? ⟨gI, 0, none⟩ = some (.int .i64 i1) := fun p => (HCI.out p.W p.h).1
    have a1 : ∀ p : qa.After w2, p.W.cell? ⟨gI, 1, none⟩ = some (.int .i64 i2) := fun p => (HCI.out p.W p.h).2.1
    have a2 : ∀ p : qa.After w2, p.W.cell? ⟨gI, 2, none⟩ = some (.int .i64 i3) := fun p => (HCI.out p.W p.h).2.2
    by_cases hq : p4 = str rest
    · have HE : Hid (m3m i1 i2 i3 = rest) := str_inj (hp4.symm.trans hq)
      subst hq
      clear hp4
      go_upto_region 35 with (fail)
      refine qa.region (by kernel_rfl) (by kernel_rfl) ?_
      repeat (go_big_quiet_step (first | (go_at_call 49; with_reducible exact qa.of_below (HD1.out _)) | (go_at_call 49; with_reducible exact qa.of_below (HD2.out _)) | (go_at_call 49; with_reducible exact qa.of_below (HD3.out _))))
      refine wpQuiet_nil ?_
      rintro _ ⟨pp, rfl⟩
      have hW := pp.h
      generalize pp.W = W at hW ⊢
      clear pp
      have HT3 := Lib.hid (HT2.out.later hW)
      have HCJ := Lib.hid (fun V (hV : Below W.heap.size W V) => HCI.out V (hW.trans (hV.mono hW.size)))
      have hgW : gI < W.heap.size := Nat.lt_of_lt_of_le hg1 hW.size
      have HLt := Lib.hid hgW
      have HgB := Lib.hid (show w.heap.size + 2 ≤ gI by have := HT1z.out; omega)
      clear a0 a1 a2 HD1 HD2 HD3 s1 s2 s3 s4 hW HCI HT2 hg0 hg1 hgW
      have HP := Lib.hid HRR.out
      clear HRR HE
      obtain ⟨b0, b1, b2, b3, b4, b5, g0, g1, g2, g3, g4, g5⟩ := res_cells HT3.out.box
      obtain ⟨r0, r1, r2, r3, r4, r5, f0, f1, f2, f3, f4, f5⟩ := res_cells HT3.out.res
      have HZZ := Lib.hid (HZ.out.up (show 12 ≤ 14 by omega))
      have HC := Lib.hid (put6_blk (V := W) (a' := .int .i64 k.id) (b' := .int .i64 k.time) (c' := .int .i64 k.next) (d' := .slice Aa k.held.length ca) (e' := .slice Ab k.marks.length cb) (f' := .slice Ac k.inbox.length cc) HT3.out.res)
      have HD := Lib.hid (put6_below (V := W) (B := w.heap.size) (R := w.heap.size + 1) (by omega) HT3.out.bel (.int .i64 k.id) (.int .i64 k.time) (.int .i64 k.next) (.slice Aa k.held.length ca) (.slice Ab k.marks.length cb) (.slice Ac k.inbox.length cc))
      have HG := Lib.hid (show SeesK (put6 W (w.heap.size + 1) (.int .i64 k.id) (.int .i64 k.time) (.int .i64 k.next) (.slice Aa k.held.length ca) (.slice Ab k.marks.length cb) (.slice Ac k.inbox.length cc)) k (.slice Aa k.held.length ca) (.slice Ab k.marks.length cb) (.slice Ac k.inbox.length cc) from HS.out.later HD.out)
      go_wp2
      have x0 := HC.out.cell 0
      have x1 := HC.out.cell 1
      have x2 := HC.out.cell 2
      have x3 := HC.out.cell 3
      have x4 := HC.out.cell 4
      have x5 := HC.out.cell 5
      refine bodyPost_ret (v := .tuple #[kpV (k).id (k).time (k).next (.slice Aa k.held.length ca) (.slice Ab k.marks.length cb) (.slice Ac k.inbox.length cc), .bool false]) (by simp [results, Tryz.results37, go_sem, x0, x1, x2, x3, x4, x5]) rfl ⟨k, false, HP.out, HZZ.out, _, _, _, rfl, HG.out, HD.out⟩

    · have HP := Lib.hid (HRR.out)
      have hne := toList_ne (fun e => hq e.symm)
      clear hq hp4 HRR
      go_upto_region 35 with (fail)
      refine qa.region (by kernel_rfl) (by kernel_rfl) ?_
      repeat (go_big_quiet_step (first | (go_at_call 49; with_reducible exact qa.of_below (HD1.out _)) | (go_at_call 49; with_reducible exact qa.of_below (HD2.out _)) | (go_at_call 49; with_reducible exact qa.of_below (HD3.out _))))
      refine wpQuiet_nil ?_
      rintro _ ⟨pp, rfl⟩
      have hW := pp.h
      generalize pp.W = W at hW ⊢
      clear pp
      have HT3 := Lib.hid (HT2.out.later hW)
      clear a0 a1 a2 HD1 HD2 HD3 s1 s2 s3 s4 hW HCI HT2 hg0 hg1
      obtain ⟨b0, b1, b2, b3, b4, b5, g0, g1, g2, g3, g4, g5⟩ := res_cells HT3.out.box
      obtain ⟨r0, r1, r2, r3, r4, r5, f0, f1, f2, f3, f4, f5⟩ := res_cells HT3.out.res
      have HZZ := Lib.hid (HZ.out.up (show 12 ≤ 14 by omega))
      have HC := Lib.hid (put6_blk (V := W) (a' := .int .i64 k.id) (b' := .int .i64 k.time) (c' := .int .i64 k.next) (d' := .slice Aa k.held.length ca) (e' := .slice Ab k.marks.length cb) (f' := .slice Ac k.inbox.length cc) HT3.out.res)
      have HD := Lib.hid (put6_below (V := W) (B := w.heap.size) (R := w.heap.size + 1) (by omega) HT3.out.bel (.int .i64 k.id) (.int .i64 k.time) (.int .i64 k.next) (.slice Aa k.held.length ca) (.slice Ab k.marks.length cb) (.slice Ac k.inbox.length cc))
      have HG := Lib.hid (show SeesK (put6 W (w.heap.size + 1) (.int .i64 k.id) (.int .i64 k.time) (.int .i64 k.next) (.slice Aa k.held.length ca) (.slice Ab k.marks.length cb) (.slice Ac k.inbox.length cc)) k (.slice Aa k.held.length ca) (.slice Ab k.marks.length cb) (.slice Ac k.inbox.length cc) from HS.out.later HD.out)
      go_wp2
      have x0 := HC.out.cell 0
      have x1 := HC.out.cell 1
      have x2 := HC.out.cell 2
      have x3 := HC.out.cell 3
      have x4 := HC.out.cell 4
      have x5 := HC.out.cell 5
      refine bodyPost_ret (v := .tuple #[kpV (k).id (k).time (k).next (.slice Aa k.held.length ca) (.slice Ab k.marks.length cb) (.slice Ac k.inbox.length cc), .bool false]) (by simp [results, Tryz.results37, go_sem, x0, x1, x2, x3, x4, x5]) rfl ⟨k, false, HP.out, HZZ.out, _, _, _, rfl, HG.out, HD.out⟩

  · have HP := Lib.hid (HRR.out)
    obtain ⟨u0, u1⟩ := not_blank (fun e => ht (str_inj e) : str (restK rest 3) ≠ ⟨#[]⟩)
    generalize str (restK rest 3) = tl at u0 u1 ⊢
    clear ht HRR HD1 HD2 HD3 s1 s2 s3 s4 hp4 HCI
    go_upto_region 35 with (fail)
    refine qa.region (by kernel_rfl) (by kernel_rfl) ?_
    repeat (go_big_quiet_step (fail))
    refine wpQuiet_nil ?_
    rintro _ ⟨pp, rfl⟩
    have hW := pp.h
    generalize pp.W = W at hW ⊢
    clear pp
    have HT3 := Lib.hid (HT2.out.later hW)
    clear hW HT2 hg0 hg1
    obtain ⟨b0, b1, b2, b3, b4, b5, g0, g1, g2, g3, g4, g5⟩ := res_cells HT3.out.box
    obtain ⟨r0, r1, r2, r3, r4, r5, f0, f1, f2, f3, f4, f5⟩ := res_cells HT3.out.res
    have HZZ := Lib.hid (HZ.out.up (show 12 ≤ 14 by omega))
    have HC := Lib.hid (put6_blk (V := W) (a' := .int .i64 k.id) (b' := .int .i64 k.time) (c' := .int .i64 k.next) (d' := .slice Aa k.held.length ca) (e' := .slice Ab k.marks.length cb) (f' := .slice Ac k.inbox.length cc) HT3.out.res)
    have HD := Lib.hid (put6_below (V := W) (B := w.heap.size) (R := w.heap.size + 1) (by omega) HT3.out.bel (.int .i64 k.id) (.int .i64 k.time) (.int .i64 k.next) (.slice Aa k.held.length ca) (.slice Ab k.marks.length cb) (.slice Ac k.inbox.length cc))
    have HG := Lib.hid (show SeesK (put6 W (w.heap.size + 1) (.int .i64 k.id) (.int .i64 k.time) (.int .i64 k.next) (.slice Aa k.held.length ca) (.slice Ab k.marks.length cb) (.slice Ac k.inbox.length cc)) k (.slice Aa k.held.length ca) (.slice Ab k.marks.length cb) (.slice Ac k.inbox.length cc) from HS.out.later HD.out)
    go_wp2
    have x0 := HC.out.cell 0
    have x1 := HC.out.cell 1
    have x2 := HC.out.cell 2
    have x3 := HC.out.cell 3
    have x4 := HC.out.cell 4
    have x5 := HC.out.cell 5
    refine bodyPost_ret (v := .tuple #[kpV (k).id (k).time (k).next (.slice Aa k.held.length ca) (.slice Ab k.marks.length cb) (.slice Ac k.inbox.length cc), .bool false]) (by simp [results, Tryz.results37, go_sem, x0, x1, x2, x3, x4, x5]) rfl ⟨k, false, HP.out, HZZ.out, _, _, _, rfl, HG.out, HD.out⟩

end Go.Proofs.YtgihbilpimempabGreatDoor.kp

/-
  Contract of spec.l12Rec: whatever the record.
-/
namespace Go.Proofs.YtgihbilpimempabGreatDoor.kp
open Go.ChangeShapes Go.WideShapes Go.ChangeAt Go.RowKit
open Go.Proofs.YtgihbilpimempabGreatDoor.wd Go.Proofs.YtgihbilpimempabGreatDoor.ow Go.Proofs.YtgihbilpimempabGreatDoor.rl Go.Proofs.YtgihbilpimempabGreatDoor.ok Go.Proofs.YtgihbilpimempabGreatDoor.nb Go.Proofs.YtgihbilpimempabGreatDoor.dc

theorem rec_any (w : World) (k : Kp) (a b c : Value) (x : ByteArray) (hs : x.size ≤ 1048576) (h : SeesK w k a b c) (ho : okK k = true) (hrm : Room a ∧ Room c) :
    Calls Tryz.prog 37 #[kpV k.id k.time k.next a b c, .string x] w (RecPost w k x.data.toList) := by
  by_cases h1 : (word x.data.toList).1 = kwTime
  · exact rec_time w k a b c x hs h ho h1
  by_cases h2 : (word x.data.toList).1 = kwNext
  · exact rec_next w k a b c x hs h ho h2
  by_cases h3 : (word x.data.toList).1 = kwOwn
  · exact rec_own w k a b c x hs h ho h3
  by_cases h4 : (word x.data.toList).1 = kwTake
  · exact rec_take w k a b c x hs h ho h4
  by_cases h5 : (word x.data.toList).1 = kwHeld
  · exact rec_held w k a b c x hs h ho h5
  by_cases h6 : (word x.data.toList).1 = kwInbox
  · exact rec_inbox w k a b c x hs h ho h6
  by_cases h7 : (word x.data.toList).1 = kwLet
  · exact rec_let w k a b c x hs h ho hrm h7
  by_cases h8 : (word x.data.toList).1 = kwEat
  · exact rec_eat w k a b c x hs h ho hrm h8
  by_cases h9 : (word x.data.toList).1 = kwMark
  · exact rec_mark w k a b c x hs h ho hrm h9
  refine rec_none w k a b c x hs h ho hrm fun r e => ?_
  cases r
  · exact h1 e.symm
  · exact h2 e.symm
  · exact h3 e.symm
  · exact h4 e.symm
  · exact h5 e.symm
  · exact h6 e.symm
  · exact h7 e.symm
  · exact h8 e.symm
  · exact h9 e.symm
end Go.Proofs.YtgihbilpimempabGreatDoor.kp

/-
  Contract of spec.KeepDo.
-/
namespace Go.Proofs.YtgihbilpimempabGreatDoor.kp
open Go.ChangeShapes Go.WideShapes Go.ChangeAt Go.RowKit
open Go.Proofs.YtgihbilpimempabGreatDoor.wd Go.Proofs.YtgihbilpimempabGreatDoor.ow Go.Proofs.YtgihbilpimempabGreatDoor.rl Go.Proofs.YtgihbilpimempabGreatDoor.ok Go.Proofs.YtgihbilpimempabGreatDoor.nb Go.Proofs.YtgihbilpimempabGreatDoor.dc

theorem OwnK.put6 {w w1 w2 : World} {k : Kp} {a b c : Value} {R : Nat} {x0 x1 x2 x3 x4 x5 : Value} (h : OwnK w1 w2 k a b c) (hw : w.heap.size ≤ w1.heap.size) (hR : R < w1.heap.size) (hB : Below w.heap.size w (put6 w2 R x0 x1 x2 x3 x4 x5)) : OwnK w (put6 w2 R x0 x1 x2 x3 x4 x5) k a b c :=
  ⟨⟨OwnAt.down (OwnAt.put6 h.held.1 hR _ _ _ _ _ _) hw, hB⟩, ⟨OwnAt.down (OwnAt.put6 h.marks.1 hR _ _ _ _ _ _) hw, hB⟩, ⟨OwnAt.down (OwnAt.put6 h.inbox.1 hR _ _ _ _ _ _) hw, hB⟩, h.hm, h.hi, h.mi⟩
/-- what KeepDo gives back -/
def DoPost (w : World) (k : Kp) (l : List UInt8) (e : Ending) (w' : World) : Prop :=
  ∃ (k' : Kp) (b : Bool) (vh vm vi : Value), e = .returned (.tuple #[kpV k'.id k'.time k'.next vh vm vi, .bool b]) ∧ DoK k l k' b ∧ Sz 14 k' ∧ OwnK w w' k' vh vm vi

set_option maxRecDepth 100000 in
set_option maxHeartbeats 4000000 in
theorem keepDo_any (w : World) (k : Kp) (a b c : Value) (x : ByteArray) (hs : x.size ≤ 1048576) (h : SeesK w k a b c) (hl : k.held.length ≤ 1048576 ∧ k.marks.length ≤ 1048576 ∧ k.inbox.length ≤ 1048576) (hz : (∀ x ∈ k.held, x.s.size ≤ maxLen) ∧ ∀ x ∈ k.inbox, x.s.size ≤ maxLen) :
    Calls Tryz.prog 14 #[kpV k.id k.time k.next a b c, .string x] w (DoPost w k x.data.toList) := by
  have HS := Lib.hid h
  have HO := Lib.hid (fun V (hV : Below w.heap.size w V) => keepOk_any V k a b c (h.later hV) hl hz)
  have HK := Lib.hid (fun V (hV : Below w.heap.size w V) => copyK_any V k a b c (h.later hV) hl)
  unfold BoolK at HO
  unfold KeepPost at HK
  obtain ⟨Aa, ca, rfl, _⟩ := h.held
  obtain ⟨Ab, cb, rfl, _⟩ := h.marks
  obtain ⟨Ac, cc, rfl, _⟩ := h.inbox
  have HT := Lib.hid (CB.new w k (.slice Aa k.held.length ca) (.slice Ab k.marks.length cb) (.slice Ac k.inbox.length cc))
  clear h
  cases hok : okK k with
  | false =>
    have hP : DoK k x.data.toList zeroK false := .inl ⟨hok, rfl, rfl⟩
    have HP := Lib.hid hP
    clear hP
    rw [hok] at HO
    clear hok HK
    go_enter Tryz.func14, Tryz.ntmps14
    go_upto_region 1 with (fail)
    generalize (w.alloc (.cells #[.int .i64 k.id, .int .i64 k.time, .int .i64 k.next, .slice Aa k.held.length ca, .slice Ab k.marks.length cb, .slice Ac k.inbox.length cc] 29)).alloc (.cells #[.int .i64 0, .int .i64 0, .int .i64 0, .slice none 0 0, .slice none 0 0, .slice none 0 0] 29) = V at HT ⊢
    obtain ⟨b0, b1, b2, b3, b4, b5, g0, g1, g2, g3, g4, g5⟩ := res_cells HT.out.box
    obtain ⟨r0, r1, r2, r3, r4, r5, f0, f1, f2, f3, f4, f5⟩ := res_cells HT.out.res
    go_wp2_with fail
    refine (HO.out _ HT.out.bel).mono ?_
    rintro e w1 ⟨rfl, hB1⟩
    have HT1 := Lib.hid (HT.out.later hB1)
    clear HT hB1 HO
    clear b0 b1 b2 b3 b4 b5 g0 g1 g2 g3 g4 g5 r0 r1 r2 r3 r4 r5 f0 f1 f2 f3 f4 f5
    obtain ⟨b0, b1, b2, b3, b4, b5, g0, g1, g2, g3, g4, g5⟩ := res_cells HT1.out.box
    obtain ⟨r0, r1, r2, r3, r4, r5, f0, f1, f2, f3, f4, f5⟩ := res_cells HT1.out.res
    have HC := Lib.hid (put6_blk (V := w1) (a' := .int .i64 0) (b' := .int .i64 0) (c' := .int .i64 0) (d' := .slice none 0 0) (e' := .slice none 0 0) (f' := .slice none 0 0) HT1.out.res)
    have HD := Lib.hid (put6_below (V := w1) (B := w.heap.size) (R := w.heap.size + 1) (by omega) HT1.out.bel (.int .i64 0) (.int .i64 0) (.int .i64 0) (.slice none 0 0) (.slice none 0 0) (.slice none 0 0))
    go_wp2
    have x0 := HC.out.cell 0
    have x1 := HC.out.cell 1
    have x2 := HC.out.cell 2
    have x3 := HC.out.cell 3
    have x4 := HC.out.cell 4
    have x5 := HC.out.cell 5
    refine bodyPost_ret (v := .tuple #[kpV 0 0 0 (.slice none 0 0) (.slice none 0 0) (.slice none 0 0), .bool false]) (by simp [results, Tryz.results14, go_sem, x0, x1, x2, x3, x4, x5]) rfl ⟨zeroK, false, _, _, _, rfl, HP.out, ⟨Nat.zero_le _, Nat.zero_le _, Nat.zero_le _, (fun _ h => by cases h), (fun _ h => by cases h)⟩, nil_own HD.out rfl rfl rfl⟩
  | true =>
    have HZ := Lib.hid (sz_ok hok)
    have HR := Lib.hid (fun V va vb vc (hS : SeesK V k va vb vc) (hr : Room va ∧ Room vc) => rec_any V k va vb vc x hs hS hok hr)
    unfold RecPost at HR
    have hD1 : ∀ k' b, Does k x.data.toList k' b → DoK k x.data.toList k' b := fun k' b h => .inr ⟨hok, h⟩
    have HD1 := Lib.hid hD1
    clear hD1
    rw [hok] at HO
    clear hok hl hz
    go_enter Tryz.func14, Tryz.ntmps14
    go_upto_region 1 with (fail)
    generalize (w.alloc (.cells #[.int .i64 k.id, .int .i64 k.time, .int .i64 k.next, .slice Aa k.held.length ca, .slice Ab k.marks.length cb, .slice Ac k.inbox.length cc] 29)).alloc (.cells #[.int .i64 0, .int .i64 0, .int .i64 0, .slice none 0 0, .slice none 0 0, .slice none 0 0] 29) = V at HT ⊢
    obtain ⟨b0, b1, b2, b3, b4, b5, g0, g1, g2, g3, g4, g5⟩ := res_cells HT.out.box
    obtain ⟨r0, r1, r2, r3, r4, r5, f0, f1, f2, f3, f4, f5⟩ := res_cells HT.out.res
    go_wp2_with fail
    refine (HO.out _ HT.out.bel).mono ?_
    rintro e w1 ⟨rfl, hB1⟩
    have HT1 := Lib.hid (HT.out.later hB1)
    clear HT hB1 HO
    clear b0 b1 b2 b3 b4 b5 g0 g1 g2 g3 g4 g5 r0 r1 r2 r3 r4 r5 f0 f1 f2 f3 f4 f5
    obtain ⟨b0, b1, b2, b3, b4, b5, g0, g1, g2, g3, g4, g5⟩ := res_cells HT1.out.box
    obtain ⟨r0, r1, r2, r3, r4, r5, f0, f1, f2, f3, f4, f5⟩ := res_cells HT1.out.res
    go_wp2_with fail
    refine (HK.out _ HT1.out.bel).mono ?_
    rintro e w2 ⟨vh, vm, vi, rfl, hO2⟩
    have HT2 := Lib.hid (HT1.out.later hO2.bel)
    have HS2 := Lib.hid hO2.sees
    have HRo := Lib.hid (And.intro (ownAt_room hO2.held.1) (ownAt_room hO2.inbox.1))
    obtain ⟨A2, c2, rfl⟩ := OwnR.form hO2.held
    obtain ⟨B2, d2, rfl⟩ := OwnR.form hO2.marks
    obtain ⟨C2, e2, rfl⟩ := OwnR.form hO2.inbox
    clear hO2 HT1
    clear b0 b1 b2 b3 b4 b5 g0 g1 g2 g3 g4 g5 r0 r1 r2 r3 r4 r5 f0 f1 f2 f3 f4 f5
    obtain ⟨b0, b1, b2, b3, b4, b5, g0, g1, g2, g3, g4, g5⟩ := res_cells HT2.out.box
    obtain ⟨r0, r1, r2, r3, r4, r5, f0, f1, f2, f3, f4, f5⟩ := res_cells HT2.out.res
    go_wp2_with fail
    refine (HR.out _ _ _ _ HS2.out HRo.out).mono ?_
    rintro e w3 ⟨k', bb, hrp, hz', vh, vm, vi, rfl, hS3, hB3⟩
    have HT3 := Lib.hid (HT2.out.later hB3)
    have HRP := Lib.hid hrp
    have HZ3 := Lib.hid hz'
    have HS3 := Lib.hid hS3
    obtain ⟨A3, c3, rfl, _⟩ := hS3.held
    obtain ⟨B3, d3, rfl, _⟩ := hS3.marks
    obtain ⟨C3, e3, rfl, _⟩ := hS3.inbox
    clear hrp hz' hS3 hB3 HT2 HR HS2 HRo
    have B4 := (Below.refl w3.heap.size w3).alloc (Nat.le_refl _) (.cells #[.int .i64 k'.id, .int .i64 k'.time, .int .i64 k'.next, (.slice A3 k'.held.length c3), (.slice B3 k'.marks.length d3), (.slice C3 k'.inbox.length e3)] 29)
    have HT4 := Lib.hid (HT3.out.later B4)
    have HX4 := Lib.hid (Blk.new w3 29 #[.int .i64 k'.id, .int .i64 k'.time, .int .i64 k'.next, (.slice A3 k'.held.length c3), (.slice B3 k'.marks.length d3), (.slice C3 k'.inbox.length e3)])
    have HS4 := Lib.hid (HS3.out.later B4)
    clear B4 HT3 HS3
    clear b0 b1 b2 b3 b4 b5 g0 g1 g2 g3 g4 g5 r0 r1 r2 r3 r4 r5 f0 f1 f2 f3 f4 f5
    go_upto_region 4 with (fail)
    generalize w3.alloc (.cells #[.int .i64 k'.id, .int .i64 k'.time, .int .i64 k'.next, (.slice A3 k'.held.length c3), (.slice B3 k'.marks.length d3), (.slice C3 k'.inbox.length e3)] 29) = W at HT4 HX4 HS4 ⊢
    generalize w3.heap.size = XB at HX4 ⊢
    obtain ⟨b0, b1, b2, b3, b4, b5, g0, g1, g2, g3, g4, g5⟩ := res_cells HT4.out.box
    obtain ⟨r0, r1, r2, r3, r4, r5, f0, f1, f2, f3, f4, f5⟩ := res_cells HT4.out.res
    cases bb with
    | false =>
      have HP := Lib.hid (HD1.out _ _ (recP_f HRP.out))
      clear HRP HD1
      have HZZ := Lib.hid (HZ.out.up (show 12 ≤ 14 by omega))
      go_wp2_with fail
      refine (HK.out _ HT4.out.bel).mono ?_
      rintro e w9 ⟨vh, vm, vi, rfl, hO⟩
      obtain ⟨A9, c9, rfl⟩ := OwnR.form hO.held
      obtain ⟨B9, d9, rfl⟩ := OwnR.form hO.marks
      obtain ⟨C9, e9, rfl⟩ := OwnR.form hO.inbox
      have HT9 := Lib.hid (HT4.out.later hO.bel)
      have hsz := HT4.out.sz
      have HC := Lib.hid (put6_blk (V := w9) (a' := .int .i64 k.id) (b' := .int .i64 k.time) (c' := .int .i64 k.next) (d' := .slice A9 k.held.length c9) (e' := .slice B9 k.marks.length d9) (f' := .slice C9 k.inbox.length e9) HT9.out.res)
      have HD := Lib.hid (put6_below (V := w9) (B := w.heap.size) (R := w.heap.size + 1) (by omega) HT9.out.bel (.int .i64 k.id) (.int .i64 k.time) (.int .i64 k.next) (.slice A9 k.held.length c9) (.slice B9 k.marks.length d9) (.slice C9 k.inbox.length e9))
      have HG := Lib.hid (OwnK.put6 hO (by omega) (by omega) HD.out)
      clear hO HT4
      clear b0 b1 b2 b3 b4 b5 g0 g1 g2 g3 g4 g5 r0 r1 r2 r3 r4 r5 f0 f1 f2 f3 f4 f5
      obtain ⟨b0, b1, b2, b3, b4, b5, g0, g1, g2, g3, g4, g5⟩ := res_cells HT9.out.box
      obtain ⟨r0, r1, r2, r3, r4, r5, f0, f1, f2, f3, f4, f5⟩ := res_cells HT9.out.res
      go_wp2
      have x0 := HC.out.cell 0
      have x1 := HC.out.cell 1
      have x2 := HC.out.cell 2
      have x3 := HC.out.cell 3
      have x4 := HC.out.cell 4
      have x5 := HC.out.cell 5
      refine bodyPost_ret (v := .tuple #[kpV k.id k.time k.next (.slice A9 k.held.length c9) (.slice B9 k.marks.length d9) (.slice C9 k.inbox.length e9), .bool false]) (by simp [results, Tryz.results14, go_sem, x0, x1, x2, x3, x4, x5]) rfl ⟨k, false, _, _, _, rfl, HP.out, HZZ.out, HG.out⟩

    | true =>
      obtain ⟨q0, q1, q2, q3, q4, q5, _, _, _, _, _, _⟩ := res_cells HX4.out
      have HOx := Lib.hid (keepOk_any W k' _ _ _ HS4.out (HZ3.out.few (by omega)) HZ3.out.texts)
      unfold BoolK at HOx
      cases hok' : okK k' with
      | false =>
        have HP := Lib.hid (HD1.out _ _ (recP_bad HRP.out hok'))
        rw [hok'] at HOx
        clear hok' HRP HD1
        go_wp2_with fail
        refine HOx.out.mono ?_
        rintro e w5 ⟨rfl, hB5⟩
        have HT5 := Lib.hid (HT4.out.later hB5)
        clear HT4 hB5 HOx q0 q1 q2 q3 q4 q5
        clear b0 b1 b2 b3 b4 b5 g0 g1 g2 g3 g4 g5 r0 r1 r2 r3 r4 r5 f0 f1 f2 f3 f4 f5
        obtain ⟨b0, b1, b2, b3, b4, b5, g0, g1, g2, g3, g4, g5⟩ := res_cells HT5.out.box
        obtain ⟨r0, r1, r2, r3, r4, r5, f0, f1, f2, f3, f4, f5⟩ := res_cells HT5.out.res
        have HZZ := Lib.hid (HZ.out.up (show 12 ≤ 14 by omega))
        go_wp2_with fail
        refine (HK.out _ HT5.out.bel).mono ?_
        rintro e w9 ⟨vh, vm, vi, rfl, hO⟩
        obtain ⟨A9, c9, rfl⟩ := OwnR.form hO.held
        obtain ⟨B9, d9, rfl⟩ := OwnR.form hO.marks
        obtain ⟨C9, e9, rfl⟩ := OwnR.form hO.inbox
        have HT9 := Lib.hid (HT5.out.later hO.bel)
        have hsz := HT5.out.sz
        have HC := Lib.hid (put6_blk (V := w9) (a' := .int .i64 k.id) (b' := .int .i64 k.time) (c' := .int .i64 k.next) (d' := .slice A9 k.held.length c9) (e' := .slice B9 k.marks.length d9) (f' := .slice C9 k.inbox.length e9) HT9.out.res)
        have HD := Lib.hid (put6_below (V := w9) (B := w.heap.size) (R := w.heap.size + 1) (by omega) HT9.out.bel (.int .i64 k.id) (.int .i64 k.time) (.int .i64 k.next) (.slice A9 k.held.length c9) (.slice B9 k.marks.length d9) (.slice C9 k.inbox.length e9))
        have HG := Lib.hid (OwnK.put6 hO (by omega) (by omega) HD.out)
        clear hO HT5
        clear b0 b1 b2 b3 b4 b5 g0 g1 g2 g3 g4 g5 r0 r1 r2 r3 r4 r5 f0 f1 f2 f3 f4 f5
        obtain ⟨b0, b1, b2, b3, b4, b5, g0, g1, g2, g3, g4, g5⟩ := res_cells HT9.out.box
        obtain ⟨r0, r1, r2, r3, r4, r5, f0, f1, f2, f3, f4, f5⟩ := res_cells HT9.out.res
        go_wp2
        have x0 := HC.out.cell 0
        have x1 := HC.out.cell 1
        have x2 := HC.out.cell 2
        have x3 := HC.out.cell 3
        have x4 := HC.out.cell 4
        have x5 := HC.out.cell 5
        refine bodyPost_ret (v := .tuple #[kpV k.id k.time k.next (.slice A9 k.held.length c9) (.slice B9 k.marks.length d9) (.slice C9 k.inbox.length e9), .bool false]) (by simp [results, Tryz.results14, go_sem, x0, x1, x2, x3, x4, x5]) rfl ⟨k, false, _, _, _, rfl, HP.out, HZZ.out, HG.out⟩

      | true =>
        have HP := Lib.hid (HD1.out _ _ (recP_t HRP.out hok'))
        rw [hok'] at HOx
        have HKx := Lib.hid (fun V (hV : Below W.heap.size W V) => copyK_any V k' _ _ _ (HS4.out.later hV) (HZ3.out.few (by omega)))
        unfold KeepPost at HKx
        clear hok' HRP HD1 HK
        go_wp2_with fail
        refine HOx.out.mono ?_
        rintro e w5 ⟨rfl, hB5⟩
        have HT5 := Lib.hid (HT4.out.later hB5)
        have HX5 := Lib.hid (HX4.out.below hB5 HX4.out.lt)
        have HB5 := Lib.hid hB5
        clear HT4 hB5 HOx q0 q1 q2 q3 q4 q5
        obtain ⟨q0, q1, q2, q3, q4, q5, _, _, _, _, _, _⟩ := res_cells HX5.out
        have HZZ := HZ3
        clear b0 b1 b2 b3 b4 b5 g0 g1 g2 g3 g4 g5 r0 r1 r2 r3 r4 r5 f0 f1 f2 f3 f4 f5
        obtain ⟨b0, b1, b2, b3, b4, b5, g0, g1, g2, g3, g4, g5⟩ := res_cells HT5.out.box
        obtain ⟨r0, r1, r2, r3, r4, r5, f0, f1, f2, f3, f4, f5⟩ := res_cells HT5.out.res
        go_wp2_with fail
        refine (HKx.out _ HB5.out).mono ?_
        rintro e w9 ⟨vh, vm, vi, rfl, hO⟩
        obtain ⟨A9, c9, rfl⟩ := OwnR.form hO.held
        obtain ⟨B9, d9, rfl⟩ := OwnR.form hO.marks
        obtain ⟨C9, e9, rfl⟩ := OwnR.form hO.inbox
        have HT9 := Lib.hid (HT5.out.later hO.bel)
        have hsz := HT5.out.sz
        have HC := Lib.hid (put6_blk (V := w9) (a' := .int .i64 k'.id) (b' := .int .i64 k'.time) (c' := .int .i64 k'.next) (d' := .slice A9 k'.held.length c9) (e' := .slice B9 k'.marks.length d9) (f' := .slice C9 k'.inbox.length e9) HT9.out.res)
        have HD := Lib.hid (put6_below (V := w9) (B := w.heap.size) (R := w.heap.size + 1) (by omega) HT9.out.bel (.int .i64 k'.id) (.int .i64 k'.time) (.int .i64 k'.next) (.slice A9 k'.held.length c9) (.slice B9 k'.marks.length d9) (.slice C9 k'.inbox.length e9))
        have HG := Lib.hid (OwnK.put6 hO (by omega) (by omega) HD.out)
        clear hO HT5
        clear b0 b1 b2 b3 b4 b5 g0 g1 g2 g3 g4 g5 r0 r1 r2 r3 r4 r5 f0 f1 f2 f3 f4 f5
        obtain ⟨b0, b1, b2, b3, b4, b5, g0, g1, g2, g3, g4, g5⟩ := res_cells HT9.out.box
        obtain ⟨r0, r1, r2, r3, r4, r5, f0, f1, f2, f3, f4, f5⟩ := res_cells HT9.out.res
        go_wp2
        have x0 := HC.out.cell 0
        have x1 := HC.out.cell 1
        have x2 := HC.out.cell 2
        have x3 := HC.out.cell 3
        have x4 := HC.out.cell 4
        have x5 := HC.out.cell 5
        refine bodyPost_ret (v := .tuple #[kpV k'.id k'.time k'.next (.slice A9 k'.held.length c9) (.slice B9 k'.marks.length d9) (.slice C9 k'.inbox.length e9), .bool true]) (by simp [results, Tryz.results14, go_sem, x0, x1, x2, x3, x4, x5]) rfl ⟨k', true, _, _, _, rfl, HP.out, HZZ.out, HG.out⟩

end Go.Proofs.YtgihbilpimempabGreatDoor.kp

/-
  Contracts of impl.limitedNode and of (impl.limited).isOutside: a number with its limits.
-/
namespace Go.Proofs.YtgihbilpimempabGreatDoor.li
open Go.ChangeShapes Go.WideShapes Go.ChangeAt Go.RowKit
open Go.Proofs.YtgihbilpimempabGreatDoor.nb

abbrev lim (v a b : Int) : Value := .agg #[.int .i64 v, .int .i64 a, .int .i64 b]

theorem limited_any (n : Int) (w : World) :
    Calls Tryz.prog 32 #[.int .i64 n] w fun e w' => e = .returned (lim n 0 3) ∧ Below w.heap.size w w' := by
  go_enter Tryz.func32, Tryz.ntmps32
  go_wp2
  exact bodyPost_ret (v := lim n 0 3) (by simp [results, Tryz.results32, go_sem, lim]) rfl ⟨rfl, (Below.refl _ _).alloc (Nat.le_refl _) _⟩

theorem limNum_any (n : Int) (w : World) :
    Calls Tryz.prog 96 #[.int .i64 n] w fun e w' => e = .returned (lim n 1 99) ∧ Below w.heap.size w w' := by
  go_enter Tryz.func96, Tryz.ntmps96
  go_wp2
  exact bodyPost_ret (v := lim n 1 99) (by simp [results, Tryz.results96, go_sem, lim]) rfl ⟨rfl, (Below.refl _ _).alloc (Nat.le_refl _) _⟩
theorem limUntil_any (n : Int) (w : World) :
    Calls Tryz.prog 97 #[.int .i64 n] w fun e w' => e = .returned (lim n 1 999) ∧ Below w.heap.size w w' := by
  go_enter Tryz.func97, Tryz.ntmps97
  go_wp2
  exact bodyPost_ret (v := lim n 1 999) (by simp [results, Tryz.results97, go_sem, lim]) rfl ⟨rfl, (Below.refl _ _).alloc (Nat.le_refl _) _⟩
theorem outside_any (v a b : Int) (w : World) :
    Calls Tryz.prog 33 #[lim v a b] w fun e w' => e = .returned (.bool (!inB v a b)) ∧ Below w.heap.size w w' := by
  unfold lim
  by_cases h1 : v < a
  · rw [inB_f (.inl h1)]
    go_enter Tryz.func33, Tryz.ntmps33
    go_wp2
    go_ret
    exact ⟨rfl, (Below.refl _ _).alloc (Nat.le_refl _) _⟩
  · by_cases h2 : b < v
    · rw [inB_f (.inr h2)]
      go_enter Tryz.func33, Tryz.ntmps33
      go_wp2
      go_ret
      exact ⟨rfl, (Below.refl _ _).alloc (Nat.le_refl _) _⟩
    · rw [inB_t (by omega) (by omega)]
      go_enter Tryz.func33, Tryz.ntmps33
      go_wp2
      go_ret
      exact ⟨rfl, (Below.refl _ _).alloc (Nat.le_refl _) _⟩
end Go.Proofs.YtgihbilpimempabGreatDoor.li

/-
  Contracts of both NoteNext: one function of two numbers.
-/
namespace Go.Proofs.YtgihbilpimempabGreatDoor.nx
open Go.ChangeShapes Go.WideShapes Go.ChangeAt Go.RowKit
open Go.Proofs.YtgihbilpimempabGreatDoor.nb Go.Proofs.YtgihbilpimempabGreatDoor.li

def nxt (a t : Int) : Int := if a = t ∨ a < 0 ∨ 3 < a ∨ t < 0 ∨ 3 < t then -1 else if a < t then a + 1 else a - 1
theorem nxt_no {a t : Int} (h : a = t ∨ a < 0 ∨ 3 < a ∨ t < 0 ∨ 3 < t) : nxt a t = -1 := if_pos h
theorem nxt_up {a t : Int} (h0 : 0 ≤ a) (h : a < t) (h1 : t ≤ 3) : nxt a t = a + 1 := by unfold nxt; rw [if_neg (by omega), if_pos h]
theorem nxt_down {a t : Int} (h0 : 0 ≤ t) (h : t < a) (h1 : a ≤ 3) : nxt a t = a - 1 := by unfold nxt; rw [if_neg (by omega), if_neg (by omega)]

def cmpI (x y : Int) : Int := if x < y then -1 else if y < x then 1 else 0
theorem cmpI_lt {x y : Int} (h : x < y) : cmpI x y = -1 := if_pos h
theorem cmpI_gt {x y : Int} (h : y < x) : cmpI x y = 1 := by unfold cmpI; rw [if_neg (by omega), if_pos h]
theorem cmpI_eq {x y : Int} (h : x = y) : cmpI x y = 0 := by unfold cmpI; rw [if_neg (by omega), if_neg (by omega)]

theorem nan_any (x : Int) (w : World) :
    Calls Tryz.prog 131 #[.int .i64 x] w fun e w' => e = .returned (.bool false) ∧ w = w' := by
  go_enter Tryz.func131, Tryz.ntmps131
  go_wp2
  go_ret
  exact ⟨rfl, rfl⟩

theorem cmp_any (x y : Int) (w : World) :
    Calls Tryz.prog 110 #[.int .i64 x, .int .i64 y] w fun e w' => e = .returned (.int .i64 (cmpI x y)) ∧ w = w' := by
  rcases Int.lt_trichotomy x y with h | h | h
  · have hr := Lib.hid (cmpI_lt h)
    go_enter Tryz.func110, Tryz.ntmps110
    go_wp2_with ((go_at_call 131; refine (nan_any _ _).mono ?_; rintro e w' ⟨rfl, rfl⟩))
    go_ret
    exact ⟨ret_int hr.out.symm, rfl⟩
  · subst h
    have hr := Lib.hid (cmpI_eq (x := x) rfl)
    go_enter Tryz.func110, Tryz.ntmps110
    go_wp2_with ((go_at_call 131; refine (nan_any _ _).mono ?_; rintro e w' ⟨rfl, rfl⟩))
    go_ret
    exact ⟨ret_int hr.out.symm, rfl⟩
  · have hr := Lib.hid (cmpI_gt h)
    have h2 : ¬ x < y := by omega
    go_enter Tryz.func110, Tryz.ntmps110
    go_wp2_with ((go_at_call 131; refine (nan_any _ _).mono ?_; rintro e w' ⟨rfl, rfl⟩))
    go_ret
    exact ⟨ret_int hr.out.symm, rfl⟩

end Go.Proofs.YtgihbilpimempabGreatDoor.nx

