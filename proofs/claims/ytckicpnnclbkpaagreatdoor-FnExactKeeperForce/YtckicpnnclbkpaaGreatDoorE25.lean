/-
  Merged texts: SRec7, IRec3, IChg, ICatch.
-/
import Derived.Test.YtckicpnnclbkpaaGreatDoorE24
import Derived.Test.YtckicpnnclbkpaaGreatDoorE22
import Derived.Defers
import Derived.Recover
import Derived.Laws.Pointers
namespace Go.Proofs.YtckicpnnclbkpaaGreatDoor.kp
open Go.ChangeShapes Go.WideShapes Go.ChangeAt Go.RowKit
open wd ow rl ok nb dc
theorem word_not {l : List UInt8} {a b : List UInt8} (h : a ≠ (word l).1) (e : a = b) : ((str (word l).1).toList == b) = false := by
 rw [beq_eq_false_iff_ne, ByteArray.toList_eq, data_str]
 intro e'
 exact h (e.trans e'.symm)
set_option maxRecDepth 100000 in
set_option maxHeartbeats 4000000 in
theorem rec_none (w : World) (k : Kp) (a b c : Value) (x : ByteArray) (hs : x.size ≤ 1048576) (h : SeesK w k a b c) (ho : okK k = true) (hrm : Room a ∧ Room c) (hw : ∀ r : Rc, kw r ≠ (word x.data.toList).1) :
  Calls Tryz.prog 81 #[kpV k.id k.time k.next a b c, .string x] w (RecPost w k x.data.toList) := by
 have HZ := Lib.hid (sz_ok ho)
 have HS := Lib.hid h
 have HW := Lib.hid (fun W => sword_any x hs W)
 unfold WordPost at HW
 have hrl : (str (word x.data.toList).2).size ≤ 1048576 := by rw [str_size]; have := (word_len x.data.toList).2; rw [← Lib.size_eq] at this; omega
 have HRm := Lib.hid hrm
 have HR := Lib.hid (fun (i1 i2 i3 : Int) (hr : ReadK (word x.data.toList).2 [i1, i2, i3]) => (rec_other hw : RecP k x.data.toList k false))
 have HN := Lib.hid (fun W => nums3_any (str (word x.data.toList).2) hrl W)
 rw [data_str] at HN
 generalize (word x.data.toList).2 = rest at HW HR HN hrl
 have wTime := word_not (hw (.time 0)) (show kw (.time 0) = [116, 105, 109, 101] from rfl)
 have wOwn := word_not (hw (.own ⟨0, 0, 0, 0, ⟨#[]⟩⟩)) (show kw (.own ⟨0, 0, 0, 0, ⟨#[]⟩⟩) = [111, 119, 110] from rfl)
 have wTake := word_not (hw (.take ⟨0, 0, 0, 0, ⟨#[]⟩⟩)) (show kw (.take ⟨0, 0, 0, 0, ⟨#[]⟩⟩) = [116, 97, 107, 101] from rfl)
 have wNext := word_not (hw (.next 0)) (show kw (.next 0) = [110, 101, 120, 116] from rfl)
 have wHeld := word_not (hw (.held ⟨0, 0, 0, 0, ⟨#[]⟩⟩)) (show kw (.held ⟨0, 0, 0, 0, ⟨#[]⟩⟩) = [104, 101, 108, 100] from rfl)
 have wInbox := word_not (hw (.inbox ⟨0, 0, 0, 0, ⟨#[]⟩⟩)) (show kw (.inbox ⟨0, 0, 0, 0, ⟨#[]⟩⟩) = [105, 110, 98, 111, 120] from rfl)
 have wLet := word_not (hw (.lets ⟨0, 0, 0⟩)) (show kw (.lets ⟨0, 0, 0⟩) = [108, 101, 116] from rfl)
 have wEat := word_not (hw (.eat ⟨0, 0, 0⟩)) (show kw (.eat ⟨0, 0, 0⟩) = [101, 97, 116] from rfl)
 have wMark := word_not (hw (.mark ⟨0, 0, 0⟩)) (show kw (.mark ⟨0, 0, 0⟩) = [109, 97, 114, 107] from rfl)
 generalize str (word x.data.toList).1 = wd at HW wTime wOwn wTake wNext wHeld wInbox wLet wEat wMark
 obtain ⟨Aa, ca, rfl, _⟩ := h.held
 obtain ⟨Ab, cb, rfl, _⟩ := h.marks
 obtain ⟨Ac, cc, rfl, _⟩ := h.inbox
 have HT := Lib.hid (CB.new w k (.slice Aa k.held.length ca) (.slice Ab k.marks.length cb) (.slice Ac k.inbox.length cc))
 clear hrm
 clear h hw ho hrl
 go_enter Tryz.func81, Tryz.ntmps81
 go_upto_region 1 with (fail)
 generalize (w.alloc (.cells #[.int .i64 k.id, .int .i64 k.time, .int .i64 k.next, .slice Aa k.held.length ca, .slice Ab k.marks.length cb, .slice Ac k.inbox.length cc] 39)).alloc (.cells #[.int .i64 0, .int .i64 0, .int .i64 0, .slice none 0 0, .slice none 0 0, .slice none 0 0] 39) = V at HT ⊢
 go_wp2_with fail
 refine (HW.out _).mono ?_
 rintro e w1 ⟨rfl, hB1⟩
 have HT1 := Lib.hid (HT.out.later hB1)
 clear HT hB1 HW
 go_wp2_with fail
 refine (HN.out _).mono ?_
 rintro e w2 ⟨v, vs, rfl, hl3, hO, hrk⟩
 obtain ⟨i1, i2, i3, rfl⟩ := three3 hl3
 obtain ⟨q1, q2, q3⟩ := rd3 hrk
 obtain ⟨gI, capI, rfl, hg0, hg1, c0, c1, c2⟩ := own_three hO
 have HT2 := Lib.hid (HT1.out.later hO.2)
 have HT1z := Lib.hid HT1.out.sz
 have HRR := Lib.hid (HR.out i1 i2 i3 hrk)
 have HCI := Lib.hid (fun V (hV : Below w2.heap.size w2 V) => (show V.cell? ⟨gI, 0, none⟩ = some (.int .i64 i1) ∧ V.cell? ⟨gI, 1, none⟩ = some (.int .i64 i2) ∧ V.cell? ⟨gI, 2, none⟩ = some (.int .i64 i3) from ⟨(hV.cell (p := ⟨gI, 0, none⟩) hg1).trans c0, (hV.cell (p := ⟨gI, 1, none⟩) hg1).trans c1, (hV.cell (p := ⟨gI, 2, none⟩) hg1).trans c2⟩))
 have hmc := m3m_cat i1 i2 i3
 have hz1 := dlm_len q1
 have hz2 := dlm_len q2
 have hz3 := dlm_len q3
 have HD1 := Lib.hid (fun W => decM_any i1 q1 W)
 have HD2 := Lib.hid (fun W => decM_any i2 q2 W)
 have HD3 := Lib.hid (fun W => decM_any i3 q3 W)
 unfold dc.StrPost at HD1 HD2 HD3
 generalize str (dlm i1) = D1 at hmc hz1 HD1
 generalize str (dlm i2) = D2 at hmc hz2 HD2
 generalize str (dlm i3) = D3 at hmc hz3 HD3
 have hsp : (⟨#[32]⟩ : ByteArray).size = 1 := rfl
 obtain ⟨p1, y1, z1, s1⟩ := adds D1 ⟨#[32]⟩ (by omega)
 obtain ⟨p2, y2, z2, s2⟩ := adds p1 D2 (by omega)
 obtain ⟨p3, y3, z3, s3⟩ := adds p2 ⟨#[32]⟩ (by omega)
 obtain ⟨p4, y4, z4, s4⟩ := adds p3 D3 (by omega)
 have hp4 : p4 = str (m3m i1 i2 i3) := by rw [y4, y3, y2, y1]; exact hmc
 clear y1 y2 y3 y4 z1 z2 z3 z4 hz1 hz2 hz3 hsp hmc hO hl3 hrk HT1 HR HN c0 c1 c2
 have hZT := HT2.out.sz
 by_cases ht : restK rest 3 = []
 ·have hte : str (restK rest 3) = ⟨#[]⟩ := by rw [ht]; rfl
  rw [hte]
  clear hte
  have a0 : ∀ p : qa.After w2, p.W.cell? ⟨gI, 0, none⟩ = some (.int .i64 i1) := fun p => (HCI.out p.W p.h).1
  have a1 : ∀ p : qa.After w2, p.W.cell? ⟨gI, 1, none⟩ = some (.int .i64 i2) := fun p => (HCI.out p.W p.h).2.1
  have a2 : ∀ p : qa.After w2, p.W.cell? ⟨gI, 2, none⟩ = some (.int .i64 i3) := fun p => (HCI.out p.W p.h).2.2
  by_cases hq : p4 = str rest
  ·have HE : Hid (m3m i1 i2 i3 = rest) := str_inj (hp4.symm.trans hq)
   subst hq
   clear hp4
   go_upto_region 35 with (fail)
   refine qa.region (by kernel_rfl) (by kernel_rfl) ?_
   repeat (go_big_quiet_step (first | (go_at_call 104; with_reducible exact qa.of_below (HD1.out _)) | (go_at_call 104; with_reducible exact qa.of_below (HD2.out _)) | (go_at_call 104; with_reducible exact qa.of_below (HD3.out _))))
   refine wpQuiet_nil ?_
   rintro _ ⟨pp, rfl⟩
   have hW := pp.h
   generalize pp.W = W at hW ⊢
   clear pp
   have HT3 := Lib.hid (HT2.out.later hW)
   have HCJ := Lib.hid (fun V (hV : Below W.heap.size W V) => HCI.out V (hW.trans (hV.mono hW.size)))
   have hgW : gI < W.heap.size := Nat.lt_of_lt_of_le hg1 hW.size
   have HLt := Lib.hid hgW
   have HgB := Lib.hid (show w.heap.size + 2 ≤ gI by have := HT1z.out; omega)
   clear a0 a1 a2 HD1 HD2 HD3 s1 s2 s3 s4 hW HCI HT2 hg0 hg1 hgW
   have HP := Lib.hid HRR.out
   clear HRR HE
   obtain ⟨b0, b1, b2, b3, b4, b5, g0, g1, g2, g3, g4, g5⟩ := res_cells HT3.out.box
   obtain ⟨r0, r1, r2, r3, r4, r5, f0, f1, f2, f3, f4, f5⟩ := res_cells HT3.out.res
   have HZZ := Lib.hid (HZ.out.up (show 12 ≤ 14 by omega))
   have HC := Lib.hid (put6_blk (V := W) (a' := .int .i64 k.id) (b' := .int .i64 k.time) (c' := .int .i64 k.next) (d' := .slice Aa k.held.length ca) (e' := .slice Ab k.marks.length cb) (f' := .slice Ac k.inbox.length cc) HT3.out.res)
   have HD := Lib.hid (put6_below (V := W) (B := w.heap.size) (R := w.heap.size + 1) (by omega) HT3.out.bel (.int .i64 k.id) (.int .i64 k.time) (.int .i64 k.next) (.slice Aa k.held.length ca) (.slice Ab k.marks.length cb) (.slice Ac k.inbox.length cc))
   have HG := Lib.hid (show SeesK (put6 W (w.heap.size + 1) (.int .i64 k.id) (.int .i64 k.time) (.int .i64 k.next) (.slice Aa k.held.length ca) (.slice Ab k.marks.length cb) (.slice Ac k.inbox.length cc)) k (.slice Aa k.held.length ca) (.slice Ab k.marks.length cb) (.slice Ac k.inbox.length cc) from HS.out.later HD.out)
   go_wp2
   have x0 := HC.out.cell 0
   have x1 := HC.out.cell 1
   have x2 := HC.out.cell 2
   have x3 := HC.out.cell 3
   have x4 := HC.out.cell 4
   have x5 := HC.out.cell 5
   refine bodyPost_ret (v := .tuple #[kpV (k).id (k).time (k).next (.slice Aa k.held.length ca) (.slice Ab k.marks.length cb) (.slice Ac k.inbox.length cc), .bool false]) (by simp [results, Tryz.results81, go_sem, x0, x1, x2, x3, x4, x5]) rfl ⟨k, false, HP.out, HZZ.out, _, _, _, rfl, HG.out, HD.out⟩
  ·have HP := Lib.hid (HRR.out)
   have hne := toList_ne (fun e => hq e.symm)
   clear hq hp4 HRR
   go_upto_region 35 with (fail)
   refine qa.region (by kernel_rfl) (by kernel_rfl) ?_
   repeat (go_big_quiet_step (first | (go_at_call 104; with_reducible exact qa.of_below (HD1.out _)) | (go_at_call 104; with_reducible exact qa.of_below (HD2.out _)) | (go_at_call 104; with_reducible exact qa.of_below (HD3.out _))))
   refine wpQuiet_nil ?_
   rintro _ ⟨pp, rfl⟩
   have hW := pp.h
   generalize pp.W = W at hW ⊢
   clear pp
   have HT3 := Lib.hid (HT2.out.later hW)
   clear a0 a1 a2 HD1 HD2 HD3 s1 s2 s3 s4 hW HCI HT2 hg0 hg1
   obtain ⟨b0, b1, b2, b3, b4, b5, g0, g1, g2, g3, g4, g5⟩ := res_cells HT3.out.box
   obtain ⟨r0, r1, r2, r3, r4, r5, f0, f1, f2, f3, f4, f5⟩ := res_cells HT3.out.res
   have HZZ := Lib.hid (HZ.out.up (show 12 ≤ 14 by omega))
   have HC := Lib.hid (put6_blk (V := W) (a' := .int .i64 k.id) (b' := .int .i64 k.time) (c' := .int .i64 k.next) (d' := .slice Aa k.held.length ca) (e' := .slice Ab k.marks.length cb) (f' := .slice Ac k.inbox.length cc) HT3.out.res)
   have HD := Lib.hid (put6_below (V := W) (B := w.heap.size) (R := w.heap.size + 1) (by omega) HT3.out.bel (.int .i64 k.id) (.int .i64 k.time) (.int .i64 k.next) (.slice Aa k.held.length ca) (.slice Ab k.marks.length cb) (.slice Ac k.inbox.length cc))
   have HG := Lib.hid (show SeesK (put6 W (w.heap.size + 1) (.int .i64 k.id) (.int .i64 k.time) (.int .i64 k.next) (.slice Aa k.held.length ca) (.slice Ab k.marks.length cb) (.slice Ac k.inbox.length cc)) k (.slice Aa k.held.length ca) (.slice Ab k.marks.length cb) (.slice Ac k.inbox.length cc) from HS.out.later HD.out)
   go_wp2
   have x0 := HC.out.cell 0
   have x1 := HC.out.cell 1
   have x2 := HC.out.cell 2
   have x3 := HC.out.cell 3
   have x4 := HC.out.cell 4
   have x5 := HC.out.cell 5
   refine bodyPost_ret (v := .tuple #[kpV (k).id (k).time (k).next (.slice Aa k.held.length ca) (.slice Ab k.marks.length cb) (.slice Ac k.inbox.length cc), .bool false]) (by simp [results, Tryz.results81, go_sem, x0, x1, x2, x3, x4, x5]) rfl ⟨k, false, HP.out, HZZ.out, _, _, _, rfl, HG.out, HD.out⟩
 ·have HP := Lib.hid (HRR.out)
  obtain ⟨u0, u1⟩ := not_blank (fun e => ht (str_inj e) : str (restK rest 3) ≠ ⟨#[]⟩)
  generalize str (restK rest 3) = tl at u0 u1 ⊢
  clear ht HRR HD1 HD2 HD3 s1 s2 s3 s4 hp4 HCI
  go_upto_region 35 with (fail)
  refine qa.region (by kernel_rfl) (by kernel_rfl) ?_
  repeat (go_big_quiet_step (fail))
  refine wpQuiet_nil ?_
  rintro _ ⟨pp, rfl⟩
  have hW := pp.h
  generalize pp.W = W at hW ⊢
  clear pp
  have HT3 := Lib.hid (HT2.out.later hW)
  clear hW HT2 hg0 hg1
  obtain ⟨b0, b1, b2, b3, b4, b5, g0, g1, g2, g3, g4, g5⟩ := res_cells HT3.out.box
  obtain ⟨r0, r1, r2, r3, r4, r5, f0, f1, f2, f3, f4, f5⟩ := res_cells HT3.out.res
  have HZZ := Lib.hid (HZ.out.up (show 12 ≤ 14 by omega))
  have HC := Lib.hid (put6_blk (V := W) (a' := .int .i64 k.id) (b' := .int .i64 k.time) (c' := .int .i64 k.next) (d' := .slice Aa k.held.length ca) (e' := .slice Ab k.marks.length cb) (f' := .slice Ac k.inbox.length cc) HT3.out.res)
  have HD := Lib.hid (put6_below (V := W) (B := w.heap.size) (R := w.heap.size + 1) (by omega) HT3.out.bel (.int .i64 k.id) (.int .i64 k.time) (.int .i64 k.next) (.slice Aa k.held.length ca) (.slice Ab k.marks.length cb) (.slice Ac k.inbox.length cc))
  have HG := Lib.hid (show SeesK (put6 W (w.heap.size + 1) (.int .i64 k.id) (.int .i64 k.time) (.int .i64 k.next) (.slice Aa k.held.length ca) (.slice Ab k.marks.length cb) (.slice Ac k.inbox.length cc)) k (.slice Aa k.held.length ca) (.slice Ab k.marks.length cb) (.slice Ac k.inbox.length cc) from HS.out.later HD.out)
  go_wp2
  have x0 := HC.out.cell 0
  have x1 := HC.out.cell 1
  have x2 := HC.out.cell 2
  have x3 := HC.out.cell 3
  have x4 := HC.out.cell 4
  have x5 := HC.out.cell 5
  refine bodyPost_ret (v := .tuple #[kpV (k).id (k).time (k).next (.slice Aa k.held.length ca) (.slice Ab k.marks.length cb) (.slice Ac k.inbox.length cc), .bool false]) (by simp [results, Tryz.results81, go_sem, x0, x1, x2, x3, x4, x5]) rfl ⟨k, false, HP.out, HZZ.out, _, _, _, rfl, HG.out, HD.out⟩
end Go.Proofs.YtckicpnnclbkpaaGreatDoor.kp

namespace Go.Proofs.YtckicpnnclbkpaaGreatDoor.kp
open Go.ChangeShapes Go.WideShapes Go.ChangeAt Go.RowKit
open nb ok wd dc
def OfP (w : World) (a b : List UInt8) (e : Ending) (w' : World) : Prop := Below w.heap.size w w' ∧ ((∃ r, RO a b (some r) ∧ rcI r ∧ e = .returned (rcV r)) ∨ (RO a b none ∧ e = Imp))
theorem mkR_i64 (b : List UInt8) : i64M (mkR b) := ⟨atoi_i64 _, atoi_i64 _, atoi_i64 _⟩
set_option maxRecDepth 100000 in
set_option maxHeartbeats 800000 in
theorem of_time (b : List UInt8) (hs : b.length ≤ 1048576) (w : World) (hErr : Errs w) : Calls Tryz.prog 177 #[.string ⟨#[116, 105, 109, 101]⟩, .string (str b)] w (OfP w kwTime b) := by
 have HR := Lib.hid (rnum_any b hs w hErr)
 have HO := Lib.hid (ro_time b)
 have HI := Lib.hid (show rcI (.time (atoiV (word b).1)) from atoi_i64 _)
 have HV := Lib.hid (show rcV (.time (atoiV (word b).1)) = .iface 236 (.agg #[.int .i64 (rdV b 0)]) from rfl)
 generalize str b = s at HR ⊢
 go_enter Tryz.func177, Tryz.ntmps177
 go_wp2_with fail
 refine HR.out.mono ?_
 rintro e w2 ⟨rfl, hB2⟩
 have HB2 := Lib.hid hB2
 clear hB2 HR
 generalize rdV b 0 = v at HV
 go_wp2
 go_ret
 exact ⟨HB2.out, .inl ⟨_, HO.out, HI.out, congrArg Ending.returned HV.out.symm⟩⟩
set_option maxRecDepth 100000 in
set_option maxHeartbeats 800000 in
theorem of_next (b : List UInt8) (hs : b.length ≤ 1048576) (w : World) (hErr : Errs w) : Calls Tryz.prog 177 #[.string ⟨#[110, 101, 120, 116]⟩, .string (str b)] w (OfP w kwNext b) := by
 have HR := Lib.hid (rnum_any b hs w hErr)
 have HO := Lib.hid (ro_next b)
 have HI := Lib.hid (show rcI (.next (atoiV (word b).1)) from atoi_i64 _)
 have HV := Lib.hid (show rcV (.next (atoiV (word b).1)) = .iface 240 (.agg #[.int .i64 (rdV b 0)]) from rfl)
 generalize str b = s at HR ⊢
 go_enter Tryz.func177, Tryz.ntmps177
 go_wp2_with fail
 refine HR.out.mono ?_
 rintro e w2 ⟨rfl, hB2⟩
 have HB2 := Lib.hid hB2
 clear hB2 HR
 generalize rdV b 0 = v at HV
 go_wp2
 go_ret
 exact ⟨HB2.out, .inl ⟨_, HO.out, HI.out, congrArg Ending.returned HV.out.symm⟩⟩
set_option maxRecDepth 100000 in
set_option maxHeartbeats 800000 in
theorem of_own (b : List UInt8) (hs : b.length ≤ 1048576) (w : World) (hTab : Tab w) (hErr : Errs w) : Calls Tryz.prog 177 #[.string ⟨#[111, 119, 110]⟩, .string (str b)] w (OfP w kwOwn b) := by
 have HR := Lib.hid (rnote_any b hs w hTab hErr)
 have HO := Lib.hid (fun (y : Nt) (h : RD (str b) true y.f y.n y.t y.u y.s) => ro_own h)
 have HN := Lib.hid (fun (y : Nt) (h : RD (str b) false y.f y.n y.t y.u y.s) => ro_own_no h)
 unfold RNote at HR
 generalize str b = s at HR HO HN ⊢
 go_enter Tryz.func177, Tryz.ntmps177
 go_wp2_with fail
 refine HR.out.mono ?_
 rintro e w2 (⟨y, rfl, hrd, hB2⟩ | ⟨rfl, ⟨y, hrd⟩, hB2⟩)
 ·have HB2 := Lib.hid hB2
  have HO2 := Lib.hid (HO.out y hrd)
  have HV := Lib.hid (show rcV (.own y) = .iface 242 (ntV y) from rfl)
  unfold ntV note at HV ⊢
  clear hB2 HR HO HN hrd
  go_wp2
  go_ret
  exact ⟨HB2.out, .inl ⟨_, HO2.out, trivial, congrArg Ending.returned HV.out.symm⟩⟩
 ·have HB2 := Lib.hid hB2
  have HN2 := Lib.hid (HN.out y hrd)
  clear hB2 HR HO HN hrd
  go_wp2
  exact ⟨rfl, HB2.out, .inr ⟨HN2.out, rfl⟩⟩
set_option maxRecDepth 100000 in
set_option maxHeartbeats 800000 in
theorem of_take (b : List UInt8) (hs : b.length ≤ 1048576) (w : World) (hTab : Tab w) (hErr : Errs w) : Calls Tryz.prog 177 #[.string ⟨#[116, 97, 107, 101]⟩, .string (str b)] w (OfP w kwTake b) := by
 have HR := Lib.hid (rnote_any b hs w hTab hErr)
 have HO := Lib.hid (fun (y : Nt) (h : RD (str b) true y.f y.n y.t y.u y.s) => ro_take h)
 have HN := Lib.hid (fun (y : Nt) (h : RD (str b) false y.f y.n y.t y.u y.s) => ro_take_no h)
 unfold RNote at HR
 generalize str b = s at HR HO HN ⊢
 go_enter Tryz.func177, Tryz.ntmps177
 go_wp2_with fail
 refine HR.out.mono ?_
 rintro e w2 (⟨y, rfl, hrd, hB2⟩ | ⟨rfl, ⟨y, hrd⟩, hB2⟩)
 ·have HB2 := Lib.hid hB2
  have HO2 := Lib.hid (HO.out y hrd)
  have HV := Lib.hid (show rcV (.take y) = .iface 244 (ntV y) from rfl)
  unfold ntV note at HV ⊢
  clear hB2 HR HO HN hrd
  go_wp2
  go_ret
  exact ⟨HB2.out, .inl ⟨_, HO2.out, trivial, congrArg Ending.returned HV.out.symm⟩⟩
 ·have HB2 := Lib.hid hB2
  have HN2 := Lib.hid (HN.out y hrd)
  clear hB2 HR HO HN hrd
  go_wp2
  exact ⟨rfl, HB2.out, .inr ⟨HN2.out, rfl⟩⟩
set_option maxRecDepth 100000 in
set_option maxHeartbeats 800000 in
theorem of_held (b : List UInt8) (hs : b.length ≤ 1048576) (w : World) (hTab : Tab w) (hErr : Errs w) : Calls Tryz.prog 177 #[.string ⟨#[104, 101, 108, 100]⟩, .string (str b)] w (OfP w kwHeld b) := by
 have HR := Lib.hid (rnote_any b hs w hTab hErr)
 have HO := Lib.hid (fun (y : Nt) (h : RD (str b) true y.f y.n y.t y.u y.s) => ro_held h)
 have HN := Lib.hid (fun (y : Nt) (h : RD (str b) false y.f y.n y.t y.u y.s) => ro_held_no h)
 unfold RNote at HR
 generalize str b = s at HR HO HN ⊢
 go_enter Tryz.func177, Tryz.ntmps177
 go_wp2_with fail
 refine HR.out.mono ?_
 rintro e w2 (⟨y, rfl, hrd, hB2⟩ | ⟨rfl, ⟨y, hrd⟩, hB2⟩)
 ·have HB2 := Lib.hid hB2
  have HO2 := Lib.hid (HO.out y hrd)
  have HV := Lib.hid (show rcV (.held y) = .iface 250 (ntV y) from rfl)
  unfold ntV note at HV ⊢
  clear hB2 HR HO HN hrd
  go_wp2
  go_ret
  exact ⟨HB2.out, .inl ⟨_, HO2.out, trivial, congrArg Ending.returned HV.out.symm⟩⟩
 ·have HB2 := Lib.hid hB2
  have HN2 := Lib.hid (HN.out y hrd)
  clear hB2 HR HO HN hrd
  go_wp2
  exact ⟨rfl, HB2.out, .inr ⟨HN2.out, rfl⟩⟩
set_option maxRecDepth 100000 in
set_option maxHeartbeats 800000 in
theorem of_inbox (b : List UInt8) (hs : b.length ≤ 1048576) (w : World) (hTab : Tab w) (hErr : Errs w) : Calls Tryz.prog 177 #[.string ⟨#[105, 110, 98, 111, 120]⟩, .string (str b)] w (OfP w kwInbox b) := by
 have HR := Lib.hid (rnote_any b hs w hTab hErr)
 have HO := Lib.hid (fun (y : Nt) (h : RD (str b) true y.f y.n y.t y.u y.s) => ro_inbox h)
 have HN := Lib.hid (fun (y : Nt) (h : RD (str b) false y.f y.n y.t y.u y.s) => ro_inbox_no h)
 unfold RNote at HR
 generalize str b = s at HR HO HN ⊢
 go_enter Tryz.func177, Tryz.ntmps177
 go_wp2_with fail
 refine HR.out.mono ?_
 rintro e w2 (⟨y, rfl, hrd, hB2⟩ | ⟨rfl, ⟨y, hrd⟩, hB2⟩)
 ·have HB2 := Lib.hid hB2
  have HO2 := Lib.hid (HO.out y hrd)
  have HV := Lib.hid (show rcV (.inbox y) = .iface 251 (ntV y) from rfl)
  unfold ntV note at HV ⊢
  clear hB2 HR HO HN hrd
  go_wp2
  go_ret
  exact ⟨HB2.out, .inl ⟨_, HO2.out, trivial, congrArg Ending.returned HV.out.symm⟩⟩
 ·have HB2 := Lib.hid hB2
  have HN2 := Lib.hid (HN.out y hrd)
  clear hB2 HR HO HN hrd
  go_wp2
  exact ⟨rfl, HB2.out, .inr ⟨HN2.out, rfl⟩⟩
set_option maxRecDepth 100000 in
set_option maxHeartbeats 800000 in
theorem of_lets (b : List UInt8) (hs : b.length ≤ 1048576) (w : World) (hErr : Errs w) : Calls Tryz.prog 177 #[.string ⟨#[108, 101, 116]⟩, .string (str b)] w (OfP w kwLet b) := by
 have HR := Lib.hid (rmark_any b hs w hErr)
 have HO := Lib.hid (ro_let b)
 have HI := Lib.hid (show rcI (.lets (mkR b)) from mkR_i64 b)
 generalize mkR b = m at HR HO HI
 have HV := Lib.hid (show rcV (.lets m) = .iface 246 (mkV m) from rfl)
 unfold mkV mark at HR HV
 generalize str b = s at HR ⊢
 go_enter Tryz.func177, Tryz.ntmps177
 go_wp2_with fail
 refine HR.out.mono ?_
 rintro e w2 ⟨rfl, hB2⟩
 have HB2 := Lib.hid hB2
 clear hB2 HR
 go_wp2
 go_ret
 exact ⟨HB2.out, .inl ⟨_, HO.out, HI.out, congrArg Ending.returned HV.out.symm⟩⟩
set_option maxRecDepth 100000 in
set_option maxHeartbeats 800000 in
theorem of_eat (b : List UInt8) (hs : b.length ≤ 1048576) (w : World) (hErr : Errs w) : Calls Tryz.prog 177 #[.string ⟨#[101, 97, 116]⟩, .string (str b)] w (OfP w kwEat b) := by
 have HR := Lib.hid (rmark_any b hs w hErr)
 have HO := Lib.hid (ro_eat b)
 have HI := Lib.hid (show rcI (.eat (mkR b)) from mkR_i64 b)
 generalize mkR b = m at HR HO HI
 have HV := Lib.hid (show rcV (.eat m) = .iface 248 (mkV m) from rfl)
 unfold mkV mark at HR HV
 generalize str b = s at HR ⊢
 go_enter Tryz.func177, Tryz.ntmps177
 go_wp2_with fail
 refine HR.out.mono ?_
 rintro e w2 ⟨rfl, hB2⟩
 have HB2 := Lib.hid hB2
 clear hB2 HR
 go_wp2
 go_ret
 exact ⟨HB2.out, .inl ⟨_, HO.out, HI.out, congrArg Ending.returned HV.out.symm⟩⟩
set_option maxRecDepth 100000 in
set_option maxHeartbeats 800000 in
theorem of_mark (b : List UInt8) (hs : b.length ≤ 1048576) (w : World) (hErr : Errs w) : Calls Tryz.prog 177 #[.string ⟨#[109, 97, 114, 107]⟩, .string (str b)] w (OfP w kwMark b) := by
 have HR := Lib.hid (rmark_any b hs w hErr)
 have HO := Lib.hid (ro_mark b)
 have HI := Lib.hid (show rcI (.mark (mkR b)) from mkR_i64 b)
 generalize mkR b = m at HR HO HI
 have HV := Lib.hid (show rcV (.mark m) = .iface 249 (mkV m) from rfl)
 unfold mkV mark at HR HV
 generalize str b = s at HR ⊢
 go_enter Tryz.func177, Tryz.ntmps177
 go_wp2_with fail
 refine HR.out.mono ?_
 rintro e w2 ⟨rfl, hB2⟩
 have HB2 := Lib.hid hB2
 clear hB2 HR
 go_wp2
 go_ret
 exact ⟨HB2.out, .inl ⟨_, HO.out, HI.out, congrArg Ending.returned HV.out.symm⟩⟩
set_option maxRecDepth 100000 in
set_option maxHeartbeats 800000 in
theorem of_none (l b : List UInt8) (w : World) (hw : ∀ r : Rc, kw r ≠ (word l).1) : Calls Tryz.prog 177 #[.string (str (word l).1), .string (str b)] w (OfP w (word l).1 b) := by
 have wTime := word_not (hw (.time 0)) (show kw (.time 0) = [116, 105, 109, 101] from rfl)
 have wNext := word_not (hw (.next 0)) (show kw (.next 0) = [110, 101, 120, 116] from rfl)
 have wOwn := word_not (hw (.own ⟨0, 0, 0, 0, ⟨#[]⟩⟩)) (show kw (.own ⟨0, 0, 0, 0, ⟨#[]⟩⟩) = [111, 119, 110] from rfl)
 have wTake := word_not (hw (.take ⟨0, 0, 0, 0, ⟨#[]⟩⟩)) (show kw (.take ⟨0, 0, 0, 0, ⟨#[]⟩⟩) = [116, 97, 107, 101] from rfl)
 have wHeld := word_not (hw (.held ⟨0, 0, 0, 0, ⟨#[]⟩⟩)) (show kw (.held ⟨0, 0, 0, 0, ⟨#[]⟩⟩) = [104, 101, 108, 100] from rfl)
 have wInbox := word_not (hw (.inbox ⟨0, 0, 0, 0, ⟨#[]⟩⟩)) (show kw (.inbox ⟨0, 0, 0, 0, ⟨#[]⟩⟩) = [105, 110, 98, 111, 120] from rfl)
 have wLet := word_not (hw (.lets ⟨0, 0, 0⟩)) (show kw (.lets ⟨0, 0, 0⟩) = [108, 101, 116] from rfl)
 have wEat := word_not (hw (.eat ⟨0, 0, 0⟩)) (show kw (.eat ⟨0, 0, 0⟩) = [101, 97, 116] from rfl)
 have wMark := word_not (hw (.mark ⟨0, 0, 0⟩)) (show kw (.mark ⟨0, 0, 0⟩) = [109, 97, 114, 107] from rfl)
 have HO := Lib.hid (ro_other (b := b) hw)
 clear hw
 generalize str (word l).1 = wd at wTime wNext wOwn wTake wHeld wInbox wLet wEat wMark ⊢
 generalize str b = s
 go_enter Tryz.func177, Tryz.ntmps177
 go_wp2
 exact ⟨rfl, Below.refl _ _, .inr ⟨HO.out, rfl⟩⟩
theorem recordOf_any (l b : List UInt8) (hs : b.length ≤ 1048576) (w : World) (hTab : Tab w) (hErr : Errs w) : Calls Tryz.prog 177 #[.string (str (word l).1), .string (str b)] w (OfP w (word l).1 b) := by
 by_cases h0 : (word l).1 = kwTime
 ·rw [h0]; exact of_time b hs w hErr
 by_cases h1 : (word l).1 = kwNext
 ·rw [h1]; exact of_next b hs w hErr
 by_cases h2 : (word l).1 = kwOwn
 ·rw [h2]; exact of_own b hs w hTab hErr
 by_cases h3 : (word l).1 = kwTake
 ·rw [h3]; exact of_take b hs w hTab hErr
 by_cases h4 : (word l).1 = kwHeld
 ·rw [h4]; exact of_held b hs w hTab hErr
 by_cases h5 : (word l).1 = kwInbox
 ·rw [h5]; exact of_inbox b hs w hTab hErr
 by_cases h6 : (word l).1 = kwLet
 ·rw [h6]; exact of_lets b hs w hErr
 by_cases h7 : (word l).1 = kwEat
 ·rw [h7]; exact of_eat b hs w hErr
 by_cases h8 : (word l).1 = kwMark
 ·rw [h8]; exact of_mark b hs w hErr
 refine of_none l b w fun r e => ?_
 cases r
 ·exact h0 e.symm
 ·exact h1 e.symm
 ·exact h2 e.symm
 ·exact h3 e.symm
 ·exact h4 e.symm
 ·exact h5 e.symm
 ·exact h6 e.symm
 ·exact h7 e.symm
 ·exact h8 e.symm
def RrP (w : World) (l : List UInt8) (e : Ending) (w' : World) : Prop := Below w.heap.size w w' ∧ ((∃ r, RR l (some r) ∧ e = .returned (rcV r)) ∨ (RR l none ∧ e = Imp))
set_option maxRecDepth 100000 in
set_option maxHeartbeats 800000 in
theorem readRecord_any (l : List UInt8) (hs : l.length ≤ 1048576) (w : World) (hTab : Tab w) (hErr : Errs w) : Calls Tryz.prog 141 #[.string (str l)] w (RrP w l) := by
 have hwl := word_len l
 have HW := Lib.hid (fun W => cut_any (str l) (by rw [str_size]; omega) W)
 unfold CutPost at HW
 rw [data_str] at HW
 have HR := Lib.hid (fun V h1 h2 => recordOf_any l (word l).2 (by omega) V h1 h2)
 unfold OfP at HR
 have H1 := Lib.hid (fun r (h : RO (word l).1 (word l).2 (some r)) (e : l = txL r) => rr_some h e)
 have H2 := Lib.hid (fun (h : RO (word l).1 (word l).2 none) => rr_none h)
 have H3 := Lib.hid (fun r (h : RO (word l).1 (word l).2 (some r)) (e : l ≠ txL r) => rr_other h e)
 have HX := Lib.hid (fun r (h : RO (word l).1 (word l).2 (some r)) => (show ntIn r from h.1))
 have HM := Lib.hid mText
 have HC := Lib.hid callRc
 have hsl : (str l).size ≤ maxLen := by rw [str_size]; unfold maxLen; omega
 clear hwl
 generalize RO (word l).1 (word l).2 = ro at HR H1 H2 H3 HX
 generalize str (word l).1 = s1 at HW HR
 generalize str (word l).2 = s2 at HW HR
 go_enter Tryz.func141, Tryz.ntmps141
 go_wp2_with fail
 refine (HW.out _).mono ?_
 rintro e w1 ⟨fb, rfl, hB1⟩
 have HB1 := Lib.hid hB1
 have HT1 := Lib.hid (hTab.later hB1)
 have HE1 := Lib.hid (hErr.later hB1)
 clear hB1 HW hTab hErr
 go_wp2_with fail
 refine (HR.out _ HT1.out HE1.out).mono ?_
 rintro e w2 ⟨hB2, ⟨r, hro, hri, rfl⟩ | ⟨hro, rfl⟩⟩
 case inr =>
  have HB2 := Lib.hid (HB1.out.trans (hB2.mono HB1.out.size))
  have HQ := Lib.hid (H2.out hro)
  clear hB2 hro HR H1 H2 H3 HX
  go_wp2
  exact ⟨rfl, HB2.out, .inr ⟨HQ.out, rfl⟩⟩
 have hni := HX.out r hro
 have HT2 := Lib.hid (HT1.out.later hB2)
 have HB2 := Lib.hid (HB1.out.trans (hB2.mono HB1.out.size))
 have HX2 := Lib.hid (text_any r hni hri w2 HT2.out)
 unfold StrPost at HX2
 have hlx := txL_len hni hri
 have hm := fun V => HM.out r V
 have HV := Lib.hid (show rcV r = .iface (rcT r) (rcP r) from rfl)
 by_cases e1 : l = txL r
 ·have HQ := Lib.hid (H1.out r hro e1)
  have hq : ((str (txL r)).toList == (str l).toList) = true := by rw [← e1]; exact beq_self_eq_true _
  clear e1 hro hri HR H1 H2 H3 HX hB2 hni HM
  generalize str (txL r) = tx at HX2 hlx hq
  generalize str l = sl at hq hsl ⊢
  have hcf := fun V => HC.out r V
  rw [HV.out]
  clear HC
  generalize rcT r = tt at hm HV ⊢
  generalize rcP r = pp at hm HX2 hcf HV ⊢
  generalize rcFn r = ff at hm HX2 hcf
  go_wp2_with fail
  refine HX2.out.mono ?_
  rintro e w3 ⟨rfl, hB3⟩
  have HB3 := Lib.hid (HB2.out.trans (hB3.mono HB2.out.size))
  clear hB3 HX2 hm hcf
  go_wp2_with fail
  refine (require_t _).mono ?_
  rintro e w4 ⟨rfl, rfl⟩
  go_wp2
  go_ret
  exact ⟨HB3.out, .inl ⟨r, HQ.out, congrArg Ending.returned HV.out.symm⟩⟩
 ·have HQ := Lib.hid (H3.out r hro e1)
  have hq : ((str (txL r)).toList == (str l).toList) = false := toList_ne (fun e => e1 (str_inj e).symm)
  clear e1 hro hri HR H1 H2 H3 HX hB2 hni HM
  generalize str (txL r) = tx at HX2 hlx hq
  generalize str l = sl at hq hsl ⊢
  have hcf := fun V => HC.out r V
  rw [HV.out]
  clear HC HV
  generalize rcT r = tt at hm ⊢
  generalize rcP r = pp at hm HX2 hcf ⊢
  generalize rcFn r = ff at hm HX2 hcf
  go_wp2_with fail
  refine HX2.out.mono ?_
  rintro e w3 ⟨rfl, hB3⟩
  have HB3 := Lib.hid (HB2.out.trans (hB3.mono HB2.out.size))
  clear hB3 HX2 hm hcf
  go_wp2_with fail
  refine (require_f _).mono ?_
  rintro e w4 ⟨rfl, rfl⟩
  go_wp2
  exact ⟨rfl, HB3.out, .inr ⟨HQ.out, rfl⟩⟩
end Go.Proofs.YtckicpnnclbkpaaGreatDoor.kp

namespace Go.Proofs.YtckicpnnclbkpaaGreatDoor.kp
open Go.ChangeShapes Go.WideShapes Go.ChangeAt Go.RowKit
open wd ow rl ok nb nx
theorem change_any (B : Nat) (W : World) (g q : Nat) (k : Kp) (a b c : Value) (r : Rc) (h : MK B W g k a b c) (hk : okK k = true) (hn : ntIn r) (hr : q < W.heap.size) (hng : q ≠ g) (hro : Off q a b c) :
  Calls Tryz.prog 140 #[.pointer (some ⟨g, 0, none⟩), rcV r] W (ChPost B W g q (applyS k r)) := by
 have hz := (sz_ok hk).up (show 12 ≤ 14 by omega)
 cases r with
 | time v => exact chg_time B W g q k a b c v h hz hr hng hro
 | next v => exact chg_next B W g q k a b c v h hz hr hng hro
 | own x => exact chg_own B W g q k a b c x h hz hr hng hro hk hn
 | take x => exact chg_take B W g q k a b c x h hz hr hng hro hn
 | held x => exact chg_held B W g q k a b c x h hz hr hng hro
 | inbox x => exact chg_inbox B W g q k a b c x h hz hr hng hro
 | lets m => exact chg_lets B W g q k a b c m h hz hr hng hro
 | eat m => exact chg_eat B W g q k a b c m h hz hr hng hro
 | mark m => exact chg_mark B W g q k a b c m h hz hr hng hro
end Go.Proofs.YtckicpnnclbkpaaGreatDoor.kp

namespace Go.Proofs.YtckicpnnclbkpaaGreatDoor.kp
open Go.ChangeShapes Go.WideShapes Go.ChangeAt Go.RowKit
open wd
theorem ta_imp (w : World) : (Instr.typeAssert (.iface 198 (.agg #[])) 20 198 true).run Tryz.prog w = .ok (.tuple #[.agg #[], .bool true]) w := by kernel_rfl
theorem ta_nil (w : World) : (Instr.typeAssert .nilIface 20 198 true).run Tryz.prog w = .ok (.tuple #[.agg #[], .bool false]) w := by kernel_rfl
theorem alloc_cell {w : World} {p : Addr} {v : Value} (hp : p.block < w.heap.size) (hc : w.cell? p = some v) (o : Obj) : (w.alloc o).cell? p = some v :=
 (((Below.refl w.heap.size w).alloc (Nat.le_refl _) o).cell hp).trans hc
theorem alloc_frozen {w : World} {p : Addr} (hp : p.block < w.heap.size) (hz : w.frozen? p = false) (o : Obj) : (w.alloc o).frozen? p = false := by
 rw [World.frozen?_alloc_old w o p (by omega)]; exact hz
theorem catch_p (p : Addr) (x : Bool) (w : World) (hc : w.cell? p = some (.bool x)) (hz : w.frozen? p = false) (hp : p.block < w.heap.size) :
  CallsD Tryz.prog 139 #[.pointer (some p)] (.panicking [{ v := .iface 198 (.agg #[]), recovered := false }]) w fun e u' w' =>
   e = .returned (.tuple #[]) ∧ u' = .panicking [{ v := .iface 198 (.agg #[]), recovered := true }] ∧ w' = (w.alloc (.cells #[] 198)).setCell p (.bool false) := by
 have h1 := ta_imp
 have c1 := alloc_cell hp hc (.cells #[] 198)
 have z1 := alloc_frozen hp hz (.cells #[] 198)
 refine callsD_of_wpS Tryz.func139 rfl fun c₀ cs hu => ?_
 apply wpS_seq
 apply wpS_region
 simp [wpOpsS, go_sem, recoverD, hu, Tryz.ntmps139, Exit.thenS, h1]
 generalize w.alloc (.cells #[] 198) = V at c1 z1 ⊢
 apply wpS_seq
 apply wpS_region
 simp [wpOpsS, go_sem, Exit.thenS]
 refine wpS_cond (t := true) (by simp [Act.eval, Array.replicate]) ?_
 simp only [if_true]
 apply wpS_region
 simp [wpOpsS, go_sem, c1, z1, bodyPostS, results, Tryz.results139]
theorem catch_i (p : Addr) (w : World) :
  CallsD Tryz.prog 139 #[.pointer (some p)] .returning w fun e u' w' => e = .returned (.tuple #[]) ∧ u' = .returning ∧ w' = w.alloc (.cells #[] 198) := by
 have h1 := ta_nil
 refine callsD_of_wpS Tryz.func139 rfl fun c₀ cs hu => ?_
 apply wpS_seq
 apply wpS_region
 simp [wpOpsS, go_sem, recoverD, hu, Tryz.ntmps139, Exit.thenS, h1]
 generalize w.alloc (.cells #[] 198) = V
 apply wpS_seq
 apply wpS_region
 simp [wpOpsS, go_sem, Exit.thenS]
 refine wpS_cond (t := false) (by simp [Act.eval, Array.replicate]) ?_
 simp only [Bool.false_eq_true, if_false]
 refine wpS_of_wp (wp_skip ?_)
 cases c₀
 simp_all [bodyPostS, results, Tryz.results139]
end Go.Proofs.YtckicpnnclbkpaaGreatDoor.kp

