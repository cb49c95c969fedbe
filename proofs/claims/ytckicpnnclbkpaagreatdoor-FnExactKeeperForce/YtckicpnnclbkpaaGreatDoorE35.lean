/-
  Merged texts: SRec6, SRecAny, SDo, IClone, ICopy, IDo, IStart.
-/
import Derived.Test.YtckicpnnclbkpaaGreatDoorE31
import Derived.Test.YtckicpnnclbkpaaGreatDoorE34
namespace Go.Proofs.YtckicpnnclbkpaaGreatDoor.kp
open Go.ChangeShapes Go.WideShapes Go.ChangeAt Go.RowKit
open wd ow rl ok nb dc
set_option maxRecDepth 100000 in
set_option maxHeartbeats 4000000 in
theorem rec_mark (w : World) (k : Kp) (a b c : Value) (x : ByteArray) (hs : x.size ≤ 1048576) (h : SeesK w k a b c) (ho : okK k = true) (hrm : Room a ∧ Room c) (hw : (word x.data.toList).1 = kwMark) :
  Calls Tryz.prog 81 #[kpV k.id k.time k.next a b c, .string x] w (RecPost w k x.data.toList) := by
 have HZ := Lib.hid (sz_ok ho)
 have HS := Lib.hid h
 have HW := Lib.hid (fun W => sword_any x hs W)
 unfold WordPost at HW
 have hrl : (str (word x.data.toList).2).size ≤ 1048576 := by rw [str_size]; have := (word_len x.data.toList).2; rw [← Lib.size_eq] at this; omega
 have HRm := Lib.hid hrm
 have HR := Lib.hid (fun i1 i2 i3 (hr : ReadK (word x.data.toList).2 [i1, i2, i3]) => (⟨fun hv => rec_three_no (fun _ _ => by rw [hw]; exact .inr (.inr rfl)) hr hv, fun he => (⟨fun hv => rec_mark_no (m := ⟨i1, i2, i3⟩) hw hr hv, fun hv => rec_mark_yes (m := ⟨i1, i2, i3⟩) hw hr he hv⟩ : (hasM k.marks i1 i2 = true → RecP k x.data.toList k false) ∧ (hasM k.marks i1 i2 = false → RecP k x.data.toList { k with marks := putM k.marks ⟨i1, i2, i3⟩ } true))⟩ : (restK (word x.data.toList).2 3 ≠ [] ∨ m3m i1 i2 i3 ≠ (word x.data.toList).2 → RecP k x.data.toList k false) ∧ (m3m i1 i2 i3 = (word x.data.toList).2 → (hasM k.marks i1 i2 = true → RecP k x.data.toList k false) ∧ (hasM k.marks i1 i2 = false → RecP k x.data.toList { k with marks := putM k.marks ⟨i1, i2, i3⟩ } true))))
 have HN := Lib.hid (fun W => nums3_any (str (word x.data.toList).2) hrl W)
 rw [data_str] at HN
 generalize (word x.data.toList).2 = rest at HW HR HN hrl
 have hkw : str kwMark = ⟨#[109, 97, 114, 107]⟩ := rfl
 rw [hw, hkw] at HW
 clear hkw
 obtain ⟨Aa, ca, rfl, _⟩ := h.held
 obtain ⟨Ab, cb, rfl, _⟩ := h.marks
 obtain ⟨Ac, cc, rfl, _⟩ := h.inbox
 have HT := Lib.hid (CB.new w k (.slice Aa k.held.length ca) (.slice Ab k.marks.length cb) (.slice Ac k.inbox.length cc))
 clear hrm
 clear h hw ho hrl
 go_enter Tryz.func81, Tryz.ntmps81
 go_upto_region 1 with (fail)
 generalize (w.alloc (.cells #[.int .i64 k.id, .int .i64 k.time, .int .i64 k.next, .slice Aa k.held.length ca, .slice Ab k.marks.length cb, .slice Ac k.inbox.length cc] 39)).alloc (.cells #[.int .i64 0, .int .i64 0, .int .i64 0, .slice none 0 0, .slice none 0 0, .slice none 0 0] 39) = V at HT ⊢
 go_wp2_with fail
 refine (HW.out _).mono ?_
 rintro e w1 ⟨rfl, hB1⟩
 have HT1 := Lib.hid (HT.out.later hB1)
 clear HT hB1 HW
 go_wp2_with fail
 refine (HN.out _).mono ?_
 rintro e w2 ⟨v, vs, rfl, hl3, hO, hrk⟩
 obtain ⟨i1, i2, i3, rfl⟩ := three3 hl3
 obtain ⟨q1, q2, q3⟩ := rd3 hrk
 obtain ⟨gI, capI, rfl, hg0, hg1, c0, c1, c2⟩ := own_three hO
 have HT2 := Lib.hid (HT1.out.later hO.2)
 have HT1z := Lib.hid HT1.out.sz
 have HRR := Lib.hid (HR.out i1 i2 i3 hrk)
 have HCI := Lib.hid (fun V (hV : Below w2.heap.size w2 V) => (show V.cell? ⟨gI, 0, none⟩ = some (.int .i64 i1) ∧ V.cell? ⟨gI, 1, none⟩ = some (.int .i64 i2) ∧ V.cell? ⟨gI, 2, none⟩ = some (.int .i64 i3) from ⟨(hV.cell (p := ⟨gI, 0, none⟩) hg1).trans c0, (hV.cell (p := ⟨gI, 1, none⟩) hg1).trans c1, (hV.cell (p := ⟨gI, 2, none⟩) hg1).trans c2⟩))
 have hmc := m3m_cat i1 i2 i3
 have hz1 := dlm_len q1
 have hz2 := dlm_len q2
 have hz3 := dlm_len q3
 have HD1 := Lib.hid (fun W => decM_any i1 q1 W)
 have HD2 := Lib.hid (fun W => decM_any i2 q2 W)
 have HD3 := Lib.hid (fun W => decM_any i3 q3 W)
 unfold dc.StrPost at HD1 HD2 HD3
 generalize str (dlm i1) = D1 at hmc hz1 HD1
 generalize str (dlm i2) = D2 at hmc hz2 HD2
 generalize str (dlm i3) = D3 at hmc hz3 HD3
 have hsp : (⟨#[32]⟩ : ByteArray).size = 1 := rfl
 obtain ⟨p1, y1, z1, s1⟩ := adds D1 ⟨#[32]⟩ (by omega)
 obtain ⟨p2, y2, z2, s2⟩ := adds p1 D2 (by omega)
 obtain ⟨p3, y3, z3, s3⟩ := adds p2 ⟨#[32]⟩ (by omega)
 obtain ⟨p4, y4, z4, s4⟩ := adds p3 D3 (by omega)
 have hp4 : p4 = str (m3m i1 i2 i3) := by rw [y4, y3, y2, y1]; exact hmc
 clear y1 y2 y3 y4 z1 z2 z3 z4 hz1 hz2 hz3 hsp hmc hO hl3 hrk HT1 HR HN c0 c1 c2
 have hZT := HT2.out.sz
 by_cases ht : restK rest 3 = []
 ·have hte : str (restK rest 3) = ⟨#[]⟩ := by rw [ht]; rfl
  rw [hte]
  clear hte
  have a0 : ∀ p : qa.After w2, p.W.cell? ⟨gI, 0, none⟩ = some (.int .i64 i1) := fun p => (HCI.out p.W p.h).1
  have a1 : ∀ p : qa.After w2, p.W.cell? ⟨gI, 1, none⟩ = some (.int .i64 i2) := fun p => (HCI.out p.W p.h).2.1
  have a2 : ∀ p : qa.After w2, p.W.cell? ⟨gI, 2, none⟩ = some (.int .i64 i3) := fun p => (HCI.out p.W p.h).2.2
  by_cases hq : p4 = str rest
  ·have HE : Hid (m3m i1 i2 i3 = rest) := str_inj (hp4.symm.trans hq)
   subst hq
   clear hp4
   go_upto_region 35 with (fail)
   refine qa.region (by kernel_rfl) (by kernel_rfl) ?_
   repeat (go_big_quiet_step (first | (go_at_call 104; with_reducible exact qa.of_below (HD1.out _)) | (go_at_call 104; with_reducible exact qa.of_below (HD2.out _)) | (go_at_call 104; with_reducible exact qa.of_below (HD3.out _))))
   refine wpQuiet_nil ?_
   rintro _ ⟨pp, rfl⟩
   have hW := pp.h
   generalize pp.W = W at hW ⊢
   clear pp
   have HT3 := Lib.hid (HT2.out.later hW)
   have HCJ := Lib.hid (fun V (hV : Below W.heap.size W V) => HCI.out V (hW.trans (hV.mono hW.size)))
   have hgW : gI < W.heap.size := Nat.lt_of_lt_of_le hg1 hW.size
   have HLt := Lib.hid hgW
   have HgB := Lib.hid (show w.heap.size + 2 ≤ gI by have := HT1z.out; omega)
   clear a0 a1 a2 HD1 HD2 HD3 s1 s2 s3 s4 hW HCI HT2 hg0 hg1 hgW
   have hRR := HRR.out.2 HE.out
   have HIx := Lib.hid (fun V (hV : Below W.heap.size W V) => ixM_any V _ k.marks i1 i2 ((HS.out.marks.later HT3.out.bel).later hV) (HZ.out.few (by omega)).2.1)
   unfold IsI at HIx
   clear HRR HE
   have hj0 : (0 : Int) < 3 := by omega
   have hj1 : (1 : Int) < 3 := by omega
   have hj2 : (2 : Int) < 3 := by omega
   rcases ixM_cases k.marks i1 i2 with ⟨hn1, he1⟩ | ⟨hn1, i, x1, he1, _, _, _⟩
   ·have HP := Lib.hid (hRR.2 hn1)
    have HZZ := Lib.hid ((sz_mark HZ.out ⟨i1, i2, i3⟩).up (show 12 + 1 ≤ 14 by omega))
    rw [he1] at HIx
    clear hRR hn1 he1
    have a0 : ∀ p : qa.After W, p.W.cell? ⟨gI, 0, none⟩ = some (.int .i64 i1) := fun p => (HCJ.out p.W p.h).1
    have a1 : ∀ p : qa.After W, p.W.cell? ⟨gI, 1, none⟩ = some (.int .i64 i2) := fun p => (HCJ.out p.W p.h).2.1
    have d3 : ∀ p : qa.After W, p.W.cell? ⟨w.heap.size, 4, none⟩ = some (.slice Ab k.marks.length cb) := fun p => (qa.blk HT3.out.box p).cell 4
    go_upto_region 49 with (fail)
    refine qa.region (by kernel_rfl) (by kernel_rfl) ?_
    repeat (go_big_quiet_step (first | (go_at_call 108; with_reducible exact qa.of_same (HIx.out _ (qa.After.h _)))))
    refine wpQuiet_nil ?_
    rintro _ ⟨pp, rfl⟩
    have hW2 := pp.h
    generalize pp.W = W2 at hW2 ⊢
    clear pp
    have HT4 := Lib.hid (HT3.out.later hW2)
    have HCK := Lib.hid (fun V (hV : Below W2.heap.size W2 V) => HCJ.out V (hW2.trans (hV.mono hW2.size)))
    have HLe := Lib.hid hW2.size
    clear hW2 a0 a1 d3 HIx HCJ HT3
    obtain ⟨c0, c1, c2⟩ := HCK.out W2 (Below.refl _ _)
    obtain ⟨_, _, _, _, b4, _, _, _, _, _, _, _⟩ := res_cells HT4.out.box
    have hs5 := HT4.out.sz
    have hgB := HgB.out
    have HPM := Lib.hid (fun V (hV : Below w.heap.size w V) => putM_any V _ k.marks ⟨i1, i2, i3⟩ (HS.out.marks.later hV) (HZ.out.few (by omega)).2.1)
    unfold ListM mkV mark at HPM
    go_upto_region 51 with (fail)
    refine wp_region_held_drew (S := (fun w' : World => w'.cell? ⟨gI, 0, none⟩ = some (.int .i64 i1) ∧ w'.cell? ⟨gI, 1, none⟩ = some (.int .i64 i2) ∧ w'.cell? ⟨gI, 2, none⟩ = some (.int .i64 i3))) (by kernel_rfl) ⟨c0, c1, c2⟩ (fun hHeld => ?_)
    refine rs.w 0 263 ?_ rfl ?_ ?_
    rotate_left 1
    ·(intro w hSw; (try dsimp only at hSw); go_simp; try with_reducible rfl)
    simp only [rs.a, rs.b, rs.c]
    refine rs.w 2 265 ?_ rfl ?_ ?_
    rotate_left 1
    ·(intro w hSw; (try dsimp only at hSw); go_simp; try with_reducible rfl)
    simp only [rs.a, rs.b, rs.c]
    refine rs.w 3 266 ?_ rfl ?_ ?_
    rotate_left 1
    ·(intro w hSw; (try dsimp only at hSw); go_simp; try with_reducible rfl)
    simp only [rs.a, rs.b, rs.c]
    refine rs.w 4 267 ?_ rfl ?_ ?_
    rotate_left 1
    ·(intro w hSw; (try dsimp only at hSw); go_simp; try with_reducible rfl)
    simp only [rs.a, rs.b, rs.c]
    refine rs.w 5 268 ?_ rfl ?_ ?_
    rotate_left 1
    ·(intro w hSw; (try dsimp only at hSw); go_simp; try with_reducible rfl)
    simp only [rs.a, rs.b, rs.c]
    refine rs.w 6 269 ?_ rfl ?_ ?_
    rotate_left 1
    ·(intro w hSw; (try dsimp only at hSw); go_simp; try with_reducible rfl)
    simp only [rs.a, rs.b, rs.c]
    refine rs.w 7 270 ?_ rfl ?_ ?_
    rotate_left 1
    ·(intro w hSw; (try dsimp only at hSw); go_simp; try with_reducible rfl)
    simp only [rs.a, rs.b, rs.c]
    refine rs.w 8 271 ?_ rfl ?_ ?_
    rotate_left 1
    ·(intro w hSw; (try dsimp only at hSw); go_simp; try with_reducible rfl)
    simp only [rs.a, rs.b, rs.c]
    refine rs.w 9 272 ?_ rfl ?_ ?_
    rotate_left 1
    ·(intro w hSw; (try dsimp only at hSw); go_simp; try with_reducible rfl)
    simp only [rs.a, rs.b, rs.c]
    refine rs.w 10 273 ?_ rfl ?_ ?_
    rotate_left 1
    ·(intro w hSw; (try dsimp only at hSw); go_simp; try with_reducible rfl)
    simp only [rs.a, rs.b, rs.c]
    refine rs.w 11 274 ?_ rfl ?_ ?_
    rotate_left 1
    ·(intro w hSw; (try dsimp only at hSw); go_simp; try with_reducible rfl)
    simp only [rs.a, rs.b, rs.c]
    refine wpAnyH_ready (rs := [1]) (by kernel_rfl) (by simp) ?_
    refine AllReadyH.cons rfl (fun K hK => ?_) AllReadyH.nil
    go_simp
    refine hK.out _ _ ?_ (fun hHeld1 => ?_)
    ·exact ⟨c0, c1, c2⟩
    clear hK K
    refine wpAnyH_ready (rs := [12]) (by kernel_rfl) (by simp) ?_
    refine AllReadyH.cons rfl (fun K hK => ?_) AllReadyH.nil
    go_simp
    refine (HPM.out _ (by exact ⟨HT4.out.bel.os, HT4.out.bel.tape, HT4.out.bel.output, HT4.out.bel.size, HT4.out.bel.block⟩)).mono ?_
    rintro e w3 ⟨vm, rfl, hO⟩
    have D3 : Below W2.heap.size W2 w3 := ⟨hO.2.os, hO.2.tape, hO.2.output, hO.2.size, hO.2.block⟩
    obtain ⟨A2, d2, rfl⟩ := OwnR.form hO
    have O2 : OwnAt mkS 108 W2.heap.size w3 (.slice A2 (putM k.marks ⟨i1, i2, i3⟩).length d2) (putM k.marks ⟨i1, i2, i3⟩) := hO.1
    have HT5 := Lib.hid ((HT4.out.later D3).put4 (.slice A2 (putM k.marks ⟨i1, i2, i3⟩).length d2))
    have P2 := Lib.hid (OwnAt.set O2 (p := ⟨w.heap.size, 4, none⟩) (by show w.heap.size < W2.heap.size; omega) (.slice A2 (putM k.marks ⟨i1, i2, i3⟩).length d2))
    obtain ⟨_, _, _, _, e4, _, _, _, _, _, h4, _⟩ := res_cells (HT4.out.later D3).box
    obtain ⟨s6, s7, s8⟩ := HCK.out w3 D3
    have hgR : gI ≠ w.heap.size := by omega
    clear hO O2 D3 hHeld hHeld1 b4 c0 c1 c2 HPM HCK
    obtain ⟨n2, hn2⟩ : ∃ n2, n2 = (putM k.marks ⟨i1, i2, i3⟩).length := ⟨_, rfl⟩
    rw [← hn2] at HT5 P2 ⊢
    clear hn2
    refine hK.out _ _ ?_ (fun hHeld => ?_)
    ·exact ⟨s6, s7, s8⟩
    clear hK K
    refine rs.w 13 276 ?_ rfl ?_ ?_
    rotate_left 1
    ·(intro w hSw; (try dsimp only at hSw); go_simp; try with_reducible rfl)
    simp only [rs.a, rs.b, rs.c]
    refine wpAnyH_ready (rs := [14]) (by kernel_rfl) (by simp) ?_
    refine AllReadyH.cons rfl (fun K hK => ?_) AllReadyH.nil
    go_simp
    refine hK.out _ _ ?_ (fun hHeld2 => ?_)
    ·exact ⟨(cell_set hgR _).trans s6, (cell_set hgR _).trans s7, (cell_set hgR _).trans s8⟩
    clear hK K
    refine wpAnyH_done (by kernel_rfl) ?_ _
    clear hHeld hHeld2 s6 s7 s8 e4 h4
    generalize w3.setCell ⟨w.heap.size, 4, none⟩ (.slice A2 n2 d2) = V3 at HT5 P2 ⊢
    obtain ⟨b0, b1, b2, b3, b4, b5, g0, g1, g2, g3, g4, g5⟩ := res_cells HT5.out.box
    obtain ⟨r0, r1, r2, r3, r4, r5, f0, f1, f2, f3, f4, f5⟩ := res_cells HT5.out.res
    have HC := Lib.hid (put6_blk (V := V3) (a' := .int .i64 k.id) (b' := .int .i64 k.time) (c' := .int .i64 k.next) (d' := .slice Aa k.held.length ca) (e' := .slice A2 n2 d2) (f' := .slice Ac k.inbox.length cc) HT5.out.res)
    have HD := Lib.hid (put6_below (V := V3) (B := w.heap.size) (R := w.heap.size + 1) (by omega) HT5.out.bel (.int .i64 k.id) (.int .i64 k.time) (.int .i64 k.next) (.slice Aa k.held.length ca) (.slice A2 n2 d2) (.slice Ac k.inbox.length cc))
    have HG := Lib.hid (show SeesK (put6 V3 (w.heap.size + 1) (.int .i64 k.id) (.int .i64 k.time) (.int .i64 k.next) (.slice Aa k.held.length ca) (.slice A2 n2 d2) (.slice Ac k.inbox.length cc)) { k with marks := putM k.marks ⟨i1, i2, i3⟩ } (.slice Aa k.held.length ca) (.slice A2 n2 d2) (.slice Ac k.inbox.length cc) from ⟨HS.out.held.later HD.out, OwnAt.sees (OwnAt.put6 (W := V3) P2.out (R := w.heap.size + 1) (by omega) _ _ _ _ _ _), HS.out.inbox.later HD.out⟩)
    go_wp2
    have x0 := HC.out.cell 0
    have x1 := HC.out.cell 1
    have x2 := HC.out.cell 2
    have x3 := HC.out.cell 3
    have x4 := HC.out.cell 4
    have x5 := HC.out.cell 5
    refine bodyPost_ret (v := .tuple #[kpV ({ k with marks := putM k.marks ⟨i1, i2, i3⟩ }).id ({ k with marks := putM k.marks ⟨i1, i2, i3⟩ }).time ({ k with marks := putM k.marks ⟨i1, i2, i3⟩ }).next (.slice Aa k.held.length ca) (.slice A2 n2 d2) (.slice Ac k.inbox.length cc), .bool true]) (by simp [results, Tryz.results81, go_sem, x0, x1, x2, x3, x4, x5]) rfl ⟨{ k with marks := putM k.marks ⟨i1, i2, i3⟩ }, true, HP.out, HZZ.out, _, _, _, rfl, HG.out, HD.out⟩
   ·have HP := Lib.hid (hRR.1 hn1)
    rw [he1] at HIx
    have hk0 : (0 : Int) ≤ (i : Int) := by omega
    clear hRR hn1 he1
    have a0 : ∀ p : qa.After W, p.W.cell? ⟨gI, 0, none⟩ = some (.int .i64 i1) := fun p => (HCJ.out p.W p.h).1
    have a1 : ∀ p : qa.After W, p.W.cell? ⟨gI, 1, none⟩ = some (.int .i64 i2) := fun p => (HCJ.out p.W p.h).2.1
    have d3 : ∀ p : qa.After W, p.W.cell? ⟨w.heap.size, 4, none⟩ = some (.slice Ab k.marks.length cb) := fun p => (qa.blk HT3.out.box p).cell 4
    go_upto_region 49 with (fail)
    refine qa.region (by kernel_rfl) (by kernel_rfl) ?_
    repeat (go_big_quiet_step (first | (go_at_call 108; with_reducible exact qa.of_same (HIx.out _ (qa.After.h _)))))
    refine wpQuiet_nil ?_
    rintro _ ⟨pp, rfl⟩
    have hW2 := pp.h
    generalize pp.W = W2 at hW2 ⊢
    clear pp
    have HT4 := Lib.hid (HT3.out.later hW2)
    have HCK := Lib.hid (fun V (hV : Below W2.heap.size W2 V) => HCJ.out V (hW2.trans (hV.mono hW2.size)))
    have HLe := Lib.hid hW2.size
    clear hW2 a0 a1 d3 HIx HCJ HT3
    obtain ⟨b0, b1, b2, b3, b4, b5, g0, g1, g2, g3, g4, g5⟩ := res_cells HT4.out.box
    obtain ⟨r0, r1, r2, r3, r4, r5, f0, f1, f2, f3, f4, f5⟩ := res_cells HT4.out.res
    have HZZ := Lib.hid (HZ.out.up (show 12 ≤ 14 by omega))
    have HC := Lib.hid (put6_blk (V := W2) (a' := .int .i64 k.id) (b' := .int .i64 k.time) (c' := .int .i64 k.next) (d' := .slice Aa k.held.length ca) (e' := .slice Ab k.marks.length cb) (f' := .slice Ac k.inbox.length cc) HT4.out.res)
    have HD := Lib.hid (put6_below (V := W2) (B := w.heap.size) (R := w.heap.size + 1) (by omega) HT4.out.bel (.int .i64 k.id) (.int .i64 k.time) (.int .i64 k.next) (.slice Aa k.held.length ca) (.slice Ab k.marks.length cb) (.slice Ac k.inbox.length cc))
    have HG := Lib.hid (show SeesK (put6 W2 (w.heap.size + 1) (.int .i64 k.id) (.int .i64 k.time) (.int .i64 k.next) (.slice Aa k.held.length ca) (.slice Ab k.marks.length cb) (.slice Ac k.inbox.length cc)) k (.slice Aa k.held.length ca) (.slice Ab k.marks.length cb) (.slice Ac k.inbox.length cc) from HS.out.later HD.out)
    go_wp2
    have x0 := HC.out.cell 0
    have x1 := HC.out.cell 1
    have x2 := HC.out.cell 2
    have x3 := HC.out.cell 3
    have x4 := HC.out.cell 4
    have x5 := HC.out.cell 5
    refine bodyPost_ret (v := .tuple #[kpV (k).id (k).time (k).next (.slice Aa k.held.length ca) (.slice Ab k.marks.length cb) (.slice Ac k.inbox.length cc), .bool false]) (by simp [results, Tryz.results81, go_sem, x0, x1, x2, x3, x4, x5]) rfl ⟨k, false, HP.out, HZZ.out, _, _, _, rfl, HG.out, HD.out⟩
  ·have HP := Lib.hid (HRR.out.1 (.inr (fun e => hq (by rw [hp4, e]))))
   have hne := toList_ne (fun e => hq e.symm)
   clear hq hp4 HRR
   go_upto_region 35 with (fail)
   refine qa.region (by kernel_rfl) (by kernel_rfl) ?_
   repeat (go_big_quiet_step (first | (go_at_call 104; with_reducible exact qa.of_below (HD1.out _)) | (go_at_call 104; with_reducible exact qa.of_below (HD2.out _)) | (go_at_call 104; with_reducible exact qa.of_below (HD3.out _))))
   refine wpQuiet_nil ?_
   rintro _ ⟨pp, rfl⟩
   have hW := pp.h
   generalize pp.W = W at hW ⊢
   clear pp
   have HT3 := Lib.hid (HT2.out.later hW)
   clear a0 a1 a2 HD1 HD2 HD3 s1 s2 s3 s4 hW HCI HT2 hg0 hg1
   obtain ⟨b0, b1, b2, b3, b4, b5, g0, g1, g2, g3, g4, g5⟩ := res_cells HT3.out.box
   obtain ⟨r0, r1, r2, r3, r4, r5, f0, f1, f2, f3, f4, f5⟩ := res_cells HT3.out.res
   have HZZ := Lib.hid (HZ.out.up (show 12 ≤ 14 by omega))
   have HC := Lib.hid (put6_blk (V := W) (a' := .int .i64 k.id) (b' := .int .i64 k.time) (c' := .int .i64 k.next) (d' := .slice Aa k.held.length ca) (e' := .slice Ab k.marks.length cb) (f' := .slice Ac k.inbox.length cc) HT3.out.res)
   have HD := Lib.hid (put6_below (V := W) (B := w.heap.size) (R := w.heap.size + 1) (by omega) HT3.out.bel (.int .i64 k.id) (.int .i64 k.time) (.int .i64 k.next) (.slice Aa k.held.length ca) (.slice Ab k.marks.length cb) (.slice Ac k.inbox.length cc))
   have HG := Lib.hid (show SeesK (put6 W (w.heap.size + 1) (.int .i64 k.id) (.int .i64 k.time) (.int .i64 k.next) (.slice Aa k.held.length ca) (.slice Ab k.marks.length cb) (.slice Ac k.inbox.length cc)) k (.slice Aa k.held.length ca) (.slice Ab k.marks.length cb) (.slice Ac k.inbox.length cc) from HS.out.later HD.out)
   go_wp2
   have x0 := HC.out.cell 0
   have x1 := HC.out.cell 1
   have x2 := HC.out.cell 2
   have x3 := HC.out.cell 3
   have x4 := HC.out.cell 4
   have x5 := HC.out.cell 5
   refine bodyPost_ret (v := .tuple #[kpV (k).id (k).time (k).next (.slice Aa k.held.length ca) (.slice Ab k.marks.length cb) (.slice Ac k.inbox.length cc), .bool false]) (by simp [results, Tryz.results81, go_sem, x0, x1, x2, x3, x4, x5]) rfl ⟨k, false, HP.out, HZZ.out, _, _, _, rfl, HG.out, HD.out⟩
 ·have HP := Lib.hid (HRR.out.1 (.inl ht))
  obtain ⟨u0, u1⟩ := not_blank (fun e => ht (str_inj e) : str (restK rest 3) ≠ ⟨#[]⟩)
  generalize str (restK rest 3) = tl at u0 u1 ⊢
  clear ht HRR HD1 HD2 HD3 s1 s2 s3 s4 hp4 HCI
  go_upto_region 35 with (fail)
  refine qa.region (by kernel_rfl) (by kernel_rfl) ?_
  repeat (go_big_quiet_step (fail))
  refine wpQuiet_nil ?_
  rintro _ ⟨pp, rfl⟩
  have hW := pp.h
  generalize pp.W = W at hW ⊢
  clear pp
  have HT3 := Lib.hid (HT2.out.later hW)
  clear hW HT2 hg0 hg1
  obtain ⟨b0, b1, b2, b3, b4, b5, g0, g1, g2, g3, g4, g5⟩ := res_cells HT3.out.box
  obtain ⟨r0, r1, r2, r3, r4, r5, f0, f1, f2, f3, f4, f5⟩ := res_cells HT3.out.res
  have HZZ := Lib.hid (HZ.out.up (show 12 ≤ 14 by omega))
  have HC := Lib.hid (put6_blk (V := W) (a' := .int .i64 k.id) (b' := .int .i64 k.time) (c' := .int .i64 k.next) (d' := .slice Aa k.held.length ca) (e' := .slice Ab k.marks.length cb) (f' := .slice Ac k.inbox.length cc) HT3.out.res)
  have HD := Lib.hid (put6_below (V := W) (B := w.heap.size) (R := w.heap.size + 1) (by omega) HT3.out.bel (.int .i64 k.id) (.int .i64 k.time) (.int .i64 k.next) (.slice Aa k.held.length ca) (.slice Ab k.marks.length cb) (.slice Ac k.inbox.length cc))
  have HG := Lib.hid (show SeesK (put6 W (w.heap.size + 1) (.int .i64 k.id) (.int .i64 k.time) (.int .i64 k.next) (.slice Aa k.held.length ca) (.slice Ab k.marks.length cb) (.slice Ac k.inbox.length cc)) k (.slice Aa k.held.length ca) (.slice Ab k.marks.length cb) (.slice Ac k.inbox.length cc) from HS.out.later HD.out)
  go_wp2
  have x0 := HC.out.cell 0
  have x1 := HC.out.cell 1
  have x2 := HC.out.cell 2
  have x3 := HC.out.cell 3
  have x4 := HC.out.cell 4
  have x5 := HC.out.cell 5
  refine bodyPost_ret (v := .tuple #[kpV (k).id (k).time (k).next (.slice Aa k.held.length ca) (.slice Ab k.marks.length cb) (.slice Ac k.inbox.length cc), .bool false]) (by simp [results, Tryz.results81, go_sem, x0, x1, x2, x3, x4, x5]) rfl ⟨k, false, HP.out, HZZ.out, _, _, _, rfl, HG.out, HD.out⟩
end Go.Proofs.YtckicpnnclbkpaaGreatDoor.kp

namespace Go.Proofs.YtckicpnnclbkpaaGreatDoor.kp
open Go.ChangeShapes Go.WideShapes Go.ChangeAt Go.RowKit
open wd ow rl ok nb dc
theorem rec_any (w : World) (k : Kp) (a b c : Value) (x : ByteArray) (hs : x.size ≤ 1048576) (h : SeesK w k a b c) (ho : okK k = true) (hrm : Room a ∧ Room c) :
  Calls Tryz.prog 81 #[kpV k.id k.time k.next a b c, .string x] w (RecPost w k x.data.toList) := by
 by_cases h1 : (word x.data.toList).1 = kwTime
 ·exact rec_time w k a b c x hs h ho h1
 by_cases h2 : (word x.data.toList).1 = kwNext
 ·exact rec_next w k a b c x hs h ho h2
 by_cases h3 : (word x.data.toList).1 = kwOwn
 ·exact rec_own w k a b c x hs h ho h3
 by_cases h4 : (word x.data.toList).1 = kwTake
 ·exact rec_take w k a b c x hs h ho h4
 by_cases h5 : (word x.data.toList).1 = kwHeld
 ·exact rec_held w k a b c x hs h ho h5
 by_cases h6 : (word x.data.toList).1 = kwInbox
 ·exact rec_inbox w k a b c x hs h ho h6
 by_cases h7 : (word x.data.toList).1 = kwLet
 ·exact rec_let w k a b c x hs h ho hrm h7
 by_cases h8 : (word x.data.toList).1 = kwEat
 ·exact rec_eat w k a b c x hs h ho hrm h8
 by_cases h9 : (word x.data.toList).1 = kwMark
 ·exact rec_mark w k a b c x hs h ho hrm h9
 refine rec_none w k a b c x hs h ho hrm fun r e => ?_
 cases r
 ·exact h1 e.symm
 ·exact h2 e.symm
 ·exact h3 e.symm
 ·exact h4 e.symm
 ·exact h5 e.symm
 ·exact h6 e.symm
 ·exact h7 e.symm
 ·exact h8 e.symm
 ·exact h9 e.symm
end Go.Proofs.YtckicpnnclbkpaaGreatDoor.kp

namespace Go.Proofs.YtckicpnnclbkpaaGreatDoor.kp
open Go.ChangeShapes Go.WideShapes Go.ChangeAt Go.RowKit
open wd ow rl ok nb dc
theorem OwnK.put6 {w w1 w2 : World} {k : Kp} {a b c : Value} {R : Nat} {x0 x1 x2 x3 x4 x5 : Value} (h : OwnK w1 w2 k a b c) (hw : w.heap.size ≤ w1.heap.size) (hR : R < w1.heap.size) (hB : Below w.heap.size w (put6 w2 R x0 x1 x2 x3 x4 x5)) : OwnK w (put6 w2 R x0 x1 x2 x3 x4 x5) k a b c :=
 ⟨⟨OwnAt.down (OwnAt.put6 h.held.1 hR _ _ _ _ _ _) hw, hB⟩, ⟨OwnAt.down (OwnAt.put6 h.marks.1 hR _ _ _ _ _ _) hw, hB⟩, ⟨OwnAt.down (OwnAt.put6 h.inbox.1 hR _ _ _ _ _ _) hw, hB⟩, h.hm, h.hi, h.mi⟩
def DoPost (w : World) (k : Kp) (l : List UInt8) (e : Ending) (w' : World) : Prop :=
 ∃ (k' : Kp) (b : Bool) (vh vm vi : Value), e = .returned (.tuple #[kpV k'.id k'.time k'.next vh vm vi, .bool b]) ∧ DoK k l k' b ∧ Sz 14 k' ∧ OwnK w w' k' vh vm vi
set_option maxRecDepth 100000 in
set_option maxHeartbeats 4000000 in
theorem keepDo_any (w : World) (k : Kp) (a b c : Value) (x : ByteArray) (hs : x.size ≤ 1048576) (h : SeesK w k a b c) (hl : k.held.length ≤ 1048576 ∧ k.marks.length ≤ 1048576 ∧ k.inbox.length ≤ 1048576) (hz : (∀ x ∈ k.held, x.s.size ≤ maxLen) ∧ ∀ x ∈ k.inbox, x.s.size ≤ maxLen) :
  Calls Tryz.prog 59 #[kpV k.id k.time k.next a b c, .string x] w (DoPost w k x.data.toList) := by
 have HS := Lib.hid h
 have HO := Lib.hid (fun V (hV : Below w.heap.size w V) => keepOk_any V k a b c (h.later hV) hl hz)
 have HK := Lib.hid (fun V (hV : Below w.heap.size w V) => copyK_any V k a b c (h.later hV) hl)
 unfold BoolK at HO
 unfold KeepPost at HK
 obtain ⟨Aa, ca, rfl, _⟩ := h.held
 obtain ⟨Ab, cb, rfl, _⟩ := h.marks
 obtain ⟨Ac, cc, rfl, _⟩ := h.inbox
 have HT := Lib.hid (CB.new w k (.slice Aa k.held.length ca) (.slice Ab k.marks.length cb) (.slice Ac k.inbox.length cc))
 clear h
 cases hok : okK k with
 | false =>
  have hP : DoK k x.data.toList zeroK false := .inl ⟨hok, rfl, rfl⟩
  have HP := Lib.hid hP
  clear hP
  rw [hok] at HO
  clear hok HK
  go_enter Tryz.func59, Tryz.ntmps59
  go_upto_region 1 with (fail)
  generalize (w.alloc (.cells #[.int .i64 k.id, .int .i64 k.time, .int .i64 k.next, .slice Aa k.held.length ca, .slice Ab k.marks.length cb, .slice Ac k.inbox.length cc] 39)).alloc (.cells #[.int .i64 0, .int .i64 0, .int .i64 0, .slice none 0 0, .slice none 0 0, .slice none 0 0] 39) = V at HT ⊢
  obtain ⟨b0, b1, b2, b3, b4, b5, g0, g1, g2, g3, g4, g5⟩ := res_cells HT.out.box
  obtain ⟨r0, r1, r2, r3, r4, r5, f0, f1, f2, f3, f4, f5⟩ := res_cells HT.out.res
  go_wp2_with fail
  refine (HO.out _ HT.out.bel).mono ?_
  rintro e w1 ⟨rfl, hB1⟩
  have HT1 := Lib.hid (HT.out.later hB1)
  clear HT hB1 HO
  clear b0 b1 b2 b3 b4 b5 g0 g1 g2 g3 g4 g5 r0 r1 r2 r3 r4 r5 f0 f1 f2 f3 f4 f5
  obtain ⟨b0, b1, b2, b3, b4, b5, g0, g1, g2, g3, g4, g5⟩ := res_cells HT1.out.box
  obtain ⟨r0, r1, r2, r3, r4, r5, f0, f1, f2, f3, f4, f5⟩ := res_cells HT1.out.res
  have HC := Lib.hid (put6_blk (V := w1) (a' := .int .i64 0) (b' := .int .i64 0) (c' := .int .i64 0) (d' := .slice none 0 0) (e' := .slice none 0 0) (f' := .slice none 0 0) HT1.out.res)
  have HD := Lib.hid (put6_below (V := w1) (B := w.heap.size) (R := w.heap.size + 1) (by omega) HT1.out.bel (.int .i64 0) (.int .i64 0) (.int .i64 0) (.slice none 0 0) (.slice none 0 0) (.slice none 0 0))
  go_wp2
  have x0 := HC.out.cell 0
  have x1 := HC.out.cell 1
  have x2 := HC.out.cell 2
  have x3 := HC.out.cell 3
  have x4 := HC.out.cell 4
  have x5 := HC.out.cell 5
  refine bodyPost_ret (v := .tuple #[kpV 0 0 0 (.slice none 0 0) (.slice none 0 0) (.slice none 0 0), .bool false]) (by simp [results, Tryz.results59, go_sem, x0, x1, x2, x3, x4, x5]) rfl ⟨zeroK, false, _, _, _, rfl, HP.out, ⟨Nat.zero_le _, Nat.zero_le _, Nat.zero_le _, (fun _ h => by cases h), (fun _ h => by cases h)⟩, nil_own HD.out rfl rfl rfl⟩
 | true =>
  have HZ := Lib.hid (sz_ok hok)
  have HR := Lib.hid (fun V va vb vc (hS : SeesK V k va vb vc) (hr : Room va ∧ Room vc) => rec_any V k va vb vc x hs hS hok hr)
  unfold RecPost at HR
  have hD1 : ∀ k' b, Does k x.data.toList k' b → DoK k x.data.toList k' b := fun k' b h => .inr ⟨hok, h⟩
  have HD1 := Lib.hid hD1
  clear hD1
  rw [hok] at HO
  clear hok hl hz
  go_enter Tryz.func59, Tryz.ntmps59
  go_upto_region 1 with (fail)
  generalize (w.alloc (.cells #[.int .i64 k.id, .int .i64 k.time, .int .i64 k.next, .slice Aa k.held.length ca, .slice Ab k.marks.length cb, .slice Ac k.inbox.length cc] 39)).alloc (.cells #[.int .i64 0, .int .i64 0, .int .i64 0, .slice none 0 0, .slice none 0 0, .slice none 0 0] 39) = V at HT ⊢
  obtain ⟨b0, b1, b2, b3, b4, b5, g0, g1, g2, g3, g4, g5⟩ := res_cells HT.out.box
  obtain ⟨r0, r1, r2, r3, r4, r5, f0, f1, f2, f3, f4, f5⟩ := res_cells HT.out.res
  go_wp2_with fail
  refine (HO.out _ HT.out.bel).mono ?_
  rintro e w1 ⟨rfl, hB1⟩
  have HT1 := Lib.hid (HT.out.later hB1)
  clear HT hB1 HO
  clear b0 b1 b2 b3 b4 b5 g0 g1 g2 g3 g4 g5 r0 r1 r2 r3 r4 r5 f0 f1 f2 f3 f4 f5
  obtain ⟨b0, b1, b2, b3, b4, b5, g0, g1, g2, g3, g4, g5⟩ := res_cells HT1.out.box
  obtain ⟨r0, r1, r2, r3, r4, r5, f0, f1, f2, f3, f4, f5⟩ := res_cells HT1.out.res
  go_wp2_with fail
  refine (HK.out _ HT1.out.bel).mono ?_
  rintro e w2 ⟨vh, vm, vi, rfl, hO2⟩
  have HT2 := Lib.hid (HT1.out.later hO2.bel)
  have HS2 := Lib.hid hO2.sees
  have HRo := Lib.hid (And.intro (ownAt_room hO2.held.1) (ownAt_room hO2.inbox.1))
  obtain ⟨A2, c2, rfl⟩ := OwnR.form hO2.held
  obtain ⟨B2, d2, rfl⟩ := OwnR.form hO2.marks
  obtain ⟨C2, e2, rfl⟩ := OwnR.form hO2.inbox
  clear hO2 HT1
  clear b0 b1 b2 b3 b4 b5 g0 g1 g2 g3 g4 g5 r0 r1 r2 r3 r4 r5 f0 f1 f2 f3 f4 f5
  obtain ⟨b0, b1, b2, b3, b4, b5, g0, g1, g2, g3, g4, g5⟩ := res_cells HT2.out.box
  obtain ⟨r0, r1, r2, r3, r4, r5, f0, f1, f2, f3, f4, f5⟩ := res_cells HT2.out.res
  go_wp2_with fail
  refine (HR.out _ _ _ _ HS2.out HRo.out).mono ?_
  rintro e w3 ⟨k', bb, hrp, hz', vh, vm, vi, rfl, hS3, hB3⟩
  have HT3 := Lib.hid (HT2.out.later hB3)
  have HRP := Lib.hid hrp
  have HZ3 := Lib.hid hz'
  have HS3 := Lib.hid hS3
  obtain ⟨A3, c3, rfl, _⟩ := hS3.held
  obtain ⟨B3, d3, rfl, _⟩ := hS3.marks
  obtain ⟨C3, e3, rfl, _⟩ := hS3.inbox
  clear hrp hz' hS3 hB3 HT2 HR HS2 HRo
  have B4 := (Below.refl w3.heap.size w3).alloc (Nat.le_refl _) (.cells #[.int .i64 k'.id, .int .i64 k'.time, .int .i64 k'.next, (.slice A3 k'.held.length c3), (.slice B3 k'.marks.length d3), (.slice C3 k'.inbox.length e3)] 39)
  have HT4 := Lib.hid (HT3.out.later B4)
  have HX4 := Lib.hid (Blk.new w3 39 #[.int .i64 k'.id, .int .i64 k'.time, .int .i64 k'.next, (.slice A3 k'.held.length c3), (.slice B3 k'.marks.length d3), (.slice C3 k'.inbox.length e3)])
  have HS4 := Lib.hid (HS3.out.later B4)
  clear B4 HT3 HS3
  clear b0 b1 b2 b3 b4 b5 g0 g1 g2 g3 g4 g5 r0 r1 r2 r3 r4 r5 f0 f1 f2 f3 f4 f5
  go_upto_region 4 with (fail)
  generalize w3.alloc (.cells #[.int .i64 k'.id, .int .i64 k'.time, .int .i64 k'.next, (.slice A3 k'.held.length c3), (.slice B3 k'.marks.length d3), (.slice C3 k'.inbox.length e3)] 39) = W at HT4 HX4 HS4 ⊢
  generalize w3.heap.size = XB at HX4 ⊢
  obtain ⟨b0, b1, b2, b3, b4, b5, g0, g1, g2, g3, g4, g5⟩ := res_cells HT4.out.box
  obtain ⟨r0, r1, r2, r3, r4, r5, f0, f1, f2, f3, f4, f5⟩ := res_cells HT4.out.res
  cases bb with
  | false =>
   have HP := Lib.hid (HD1.out _ _ (recP_f HRP.out))
   clear HRP HD1
   have HZZ := Lib.hid (HZ.out.up (show 12 ≤ 14 by omega))
   go_wp2_with fail
   refine (HK.out _ HT4.out.bel).mono ?_
   rintro e w9 ⟨vh, vm, vi, rfl, hO⟩
   obtain ⟨A9, c9, rfl⟩ := OwnR.form hO.held
   obtain ⟨B9, d9, rfl⟩ := OwnR.form hO.marks
   obtain ⟨C9, e9, rfl⟩ := OwnR.form hO.inbox
   have HT9 := Lib.hid (HT4.out.later hO.bel)
   have hsz := HT4.out.sz
   have HC := Lib.hid (put6_blk (V := w9) (a' := .int .i64 k.id) (b' := .int .i64 k.time) (c' := .int .i64 k.next) (d' := .slice A9 k.held.length c9) (e' := .slice B9 k.marks.length d9) (f' := .slice C9 k.inbox.length e9) HT9.out.res)
   have HD := Lib.hid (put6_below (V := w9) (B := w.heap.size) (R := w.heap.size + 1) (by omega) HT9.out.bel (.int .i64 k.id) (.int .i64 k.time) (.int .i64 k.next) (.slice A9 k.held.length c9) (.slice B9 k.marks.length d9) (.slice C9 k.inbox.length e9))
   have HG := Lib.hid (OwnK.put6 hO (by omega) (by omega) HD.out)
   clear hO HT4
   clear b0 b1 b2 b3 b4 b5 g0 g1 g2 g3 g4 g5 r0 r1 r2 r3 r4 r5 f0 f1 f2 f3 f4 f5
   obtain ⟨b0, b1, b2, b3, b4, b5, g0, g1, g2, g3, g4, g5⟩ := res_cells HT9.out.box
   obtain ⟨r0, r1, r2, r3, r4, r5, f0, f1, f2, f3, f4, f5⟩ := res_cells HT9.out.res
   go_wp2
   have x0 := HC.out.cell 0
   have x1 := HC.out.cell 1
   have x2 := HC.out.cell 2
   have x3 := HC.out.cell 3
   have x4 := HC.out.cell 4
   have x5 := HC.out.cell 5
   refine bodyPost_ret (v := .tuple #[kpV k.id k.time k.next (.slice A9 k.held.length c9) (.slice B9 k.marks.length d9) (.slice C9 k.inbox.length e9), .bool false]) (by simp [results, Tryz.results59, go_sem, x0, x1, x2, x3, x4, x5]) rfl ⟨k, false, _, _, _, rfl, HP.out, HZZ.out, HG.out⟩
  | true =>
   obtain ⟨q0, q1, q2, q3, q4, q5, _, _, _, _, _, _⟩ := res_cells HX4.out
   have HOx := Lib.hid (keepOk_any W k' _ _ _ HS4.out (HZ3.out.few (by omega)) HZ3.out.texts)
   unfold BoolK at HOx
   cases hok' : okK k' with
   | false =>
    have HP := Lib.hid (HD1.out _ _ (recP_bad HRP.out hok'))
    rw [hok'] at HOx
    clear hok' HRP HD1
    go_wp2_with fail
    refine HOx.out.mono ?_
    rintro e w5 ⟨rfl, hB5⟩
    have HT5 := Lib.hid (HT4.out.later hB5)
    clear HT4 hB5 HOx q0 q1 q2 q3 q4 q5
    clear b0 b1 b2 b3 b4 b5 g0 g1 g2 g3 g4 g5 r0 r1 r2 r3 r4 r5 f0 f1 f2 f3 f4 f5
    obtain ⟨b0, b1, b2, b3, b4, b5, g0, g1, g2, g3, g4, g5⟩ := res_cells HT5.out.box
    obtain ⟨r0, r1, r2, r3, r4, r5, f0, f1, f2, f3, f4, f5⟩ := res_cells HT5.out.res
    have HZZ := Lib.hid (HZ.out.up (show 12 ≤ 14 by omega))
    go_wp2_with fail
    refine (HK.out _ HT5.out.bel).mono ?_
    rintro e w9 ⟨vh, vm, vi, rfl, hO⟩
    obtain ⟨A9, c9, rfl⟩ := OwnR.form hO.held
    obtain ⟨B9, d9, rfl⟩ := OwnR.form hO.marks
    obtain ⟨C9, e9, rfl⟩ := OwnR.form hO.inbox
    have HT9 := Lib.hid (HT5.out.later hO.bel)
    have hsz := HT5.out.sz
    have HC := Lib.hid (put6_blk (V := w9) (a' := .int .i64 k.id) (b' := .int .i64 k.time) (c' := .int .i64 k.next) (d' := .slice A9 k.held.length c9) (e' := .slice B9 k.marks.length d9) (f' := .slice C9 k.inbox.length e9) HT9.out.res)
    have HD := Lib.hid (put6_below (V := w9) (B := w.heap.size) (R := w.heap.size + 1) (by omega) HT9.out.bel (.int .i64 k.id) (.int .i64 k.time) (.int .i64 k.next) (.slice A9 k.held.length c9) (.slice B9 k.marks.length d9) (.slice C9 k.inbox.length e9))
    have HG := Lib.hid (OwnK.put6 hO (by omega) (by omega) HD.out)
    clear hO HT5
    clear b0 b1 b2 b3 b4 b5 g0 g1 g2 g3 g4 g5 r0 r1 r2 r3 r4 r5 f0 f1 f2 f3 f4 f5
    obtain ⟨b0, b1, b2, b3, b4, b5, g0, g1, g2, g3, g4, g5⟩ := res_cells HT9.out.box
    obtain ⟨r0, r1, r2, r3, r4, r5, f0, f1, f2, f3, f4, f5⟩ := res_cells HT9.out.res
    go_wp2
    have x0 := HC.out.cell 0
    have x1 := HC.out.cell 1
    have x2 := HC.out.cell 2
    have x3 := HC.out.cell 3
    have x4 := HC.out.cell 4
    have x5 := HC.out.cell 5
    refine bodyPost_ret (v := .tuple #[kpV k.id k.time k.next (.slice A9 k.held.length c9) (.slice B9 k.marks.length d9) (.slice C9 k.inbox.length e9), .bool false]) (by simp [results, Tryz.results59, go_sem, x0, x1, x2, x3, x4, x5]) rfl ⟨k, false, _, _, _, rfl, HP.out, HZZ.out, HG.out⟩
   | true =>
    have HP := Lib.hid (HD1.out _ _ (recP_t HRP.out hok'))
    rw [hok'] at HOx
    have HKx := Lib.hid (fun V (hV : Below W.heap.size W V) => copyK_any V k' _ _ _ (HS4.out.later hV) (HZ3.out.few (by omega)))
    unfold KeepPost at HKx
    clear hok' HRP HD1 HK
    go_wp2_with fail
    refine HOx.out.mono ?_
    rintro e w5 ⟨rfl, hB5⟩
    have HT5 := Lib.hid (HT4.out.later hB5)
    have HX5 := Lib.hid (HX4.out.below hB5 HX4.out.lt)
    have HB5 := Lib.hid hB5
    clear HT4 hB5 HOx q0 q1 q2 q3 q4 q5
    obtain ⟨q0, q1, q2, q3, q4, q5, _, _, _, _, _, _⟩ := res_cells HX5.out
    have HZZ := HZ3
    clear b0 b1 b2 b3 b4 b5 g0 g1 g2 g3 g4 g5 r0 r1 r2 r3 r4 r5 f0 f1 f2 f3 f4 f5
    obtain ⟨b0, b1, b2, b3, b4, b5, g0, g1, g2, g3, g4, g5⟩ := res_cells HT5.out.box
    obtain ⟨r0, r1, r2, r3, r4, r5, f0, f1, f2, f3, f4, f5⟩ := res_cells HT5.out.res
    go_wp2_with fail
    refine (HKx.out _ HB5.out).mono ?_
    rintro e w9 ⟨vh, vm, vi, rfl, hO⟩
    obtain ⟨A9, c9, rfl⟩ := OwnR.form hO.held
    obtain ⟨B9, d9, rfl⟩ := OwnR.form hO.marks
    obtain ⟨C9, e9, rfl⟩ := OwnR.form hO.inbox
    have HT9 := Lib.hid (HT5.out.later hO.bel)
    have hsz := HT5.out.sz
    have HC := Lib.hid (put6_blk (V := w9) (a' := .int .i64 k'.id) (b' := .int .i64 k'.time) (c' := .int .i64 k'.next) (d' := .slice A9 k'.held.length c9) (e' := .slice B9 k'.marks.length d9) (f' := .slice C9 k'.inbox.length e9) HT9.out.res)
    have HD := Lib.hid (put6_below (V := w9) (B := w.heap.size) (R := w.heap.size + 1) (by omega) HT9.out.bel (.int .i64 k'.id) (.int .i64 k'.time) (.int .i64 k'.next) (.slice A9 k'.held.length c9) (.slice B9 k'.marks.length d9) (.slice C9 k'.inbox.length e9))
    have HG := Lib.hid (OwnK.put6 hO (by omega) (by omega) HD.out)
    clear hO HT5
    clear b0 b1 b2 b3 b4 b5 g0 g1 g2 g3 g4 g5 r0 r1 r2 r3 r4 r5 f0 f1 f2 f3 f4 f5
    obtain ⟨b0, b1, b2, b3, b4, b5, g0, g1, g2, g3, g4, g5⟩ := res_cells HT9.out.box
    obtain ⟨r0, r1, r2, r3, r4, r5, f0, f1, f2, f3, f4, f5⟩ := res_cells HT9.out.res
    go_wp2
    have x0 := HC.out.cell 0
    have x1 := HC.out.cell 1
    have x2 := HC.out.cell 2
    have x3 := HC.out.cell 3
    have x4 := HC.out.cell 4
    have x5 := HC.out.cell 5
    refine bodyPost_ret (v := .tuple #[kpV k'.id k'.time k'.next (.slice A9 k'.held.length c9) (.slice B9 k'.marks.length d9) (.slice C9 k'.inbox.length e9), .bool true]) (by simp [results, Tryz.results59, go_sem, x0, x1, x2, x3, x4, x5]) rfl ⟨k', true, _, _, _, rfl, HP.out, HZZ.out, HG.out⟩
end Go.Proofs.YtckicpnnclbkpaaGreatDoor.kp

namespace Go.Proofs.YtckicpnnclbkpaaGreatDoor.kp
open Go.ChangeShapes Go.WideShapes Go.ChangeAt Go.RowKit
open wd ow rl ok nb
end Go.Proofs.YtckicpnnclbkpaaGreatDoor.kp

namespace Go.Proofs.YtckicpnnclbkpaaGreatDoor.kp
open Go.ChangeShapes Go.WideShapes Go.ChangeAt Go.RowKit
open wd ow rl ok nb
end Go.Proofs.YtckicpnnclbkpaaGreatDoor.kp

namespace Go.Proofs.YtckicpnnclbkpaaGreatDoor.kp
open Go.ChangeShapes Go.WideShapes Go.ChangeAt Go.RowKit
open wd ow rl ok nb nx dc
theorem MK.ownK {w V : World} {g : Nat} {k : Kp} {a b c : Value} (h : MK w.heap.size V g k a b c) (hB : Below w.heap.size w V) : OwnK w V k a b c :=
 ⟨⟨h.own.held, hB⟩, ⟨h.own.marks, hB⟩, ⟨h.own.inbox, hB⟩, h.own.hm, h.own.hi, h.own.mi⟩
theorem OwnK.toMK {w V : World} {k : Kp} {a b c : Value} (h : OwnK w V k a b c) : MK w.heap.size (V.alloc (.cells #[.int .i64 k.id, .int .i64 k.time, .int .i64 k.next, a, b, c] 39)) V.heap.size k a b c := by
 have hb := (Below.refl V.heap.size V).alloc (Nat.le_refl _) (.cells #[.int .i64 k.id, .int .i64 k.time, .int .i64 k.next, a, b, c] 39)
 exact ⟨Blk.new V _ _, (h.three).later hb, h.off (Nat.le_refl _), h.bel.size, Nat.le_trans h.bel.size hb.size⟩
end Go.Proofs.YtckicpnnclbkpaaGreatDoor.kp

namespace Go.Proofs.YtckicpnnclbkpaaGreatDoor.kp
open Go.ChangeShapes Go.WideShapes Go.ChangeAt Go.RowKit
open wd ow rl ok nb li
set_option maxRecDepth 100000 in
theorem istart_any (id : Int) (w : World) : Calls Tryz.prog 91 #[.int .i64 id] w (KeepPost w (startK id)) := by
 have H1 := Lib.hid (fun V => outside_any id 0 3 V)
 have k0 := Blk.new w 39 #[.int .i64 0, .int .i64 0, .int .i64 0, .slice none 0 0, .slice none 0 0, .slice none 0 0]
 have B0 := (Below.refl w.heap.size w).alloc (Nat.le_refl _) (.cells #[.int .i64 0, .int .i64 0, .int .i64 0, .slice none 0 0, .slice none 0 0, .slice none 0 0] 39)
 cases hb : inB id 0 3 with
 | false =>
  have HE := Lib.hid (show startK id = zeroK by unfold startK; rw [hb]; rfl)
  rw [hb] at H1
  go_enter Tryz.func91, Tryz.ntmps91
  go_wp2_with fail
  generalize w.alloc (.cells #[.int .i64 0, .int .i64 0, .int .i64 0, .slice none 0 0, .slice none 0 0, .slice none 0 0] 39) = V at k0 B0 ⊢
  refine (limited_any _ _).mono ?_
  rintro e w1 ⟨rfl, b1⟩
  have k1 := k0.below b1 k0.lt
  have B1 := B0.trans (b1.mono B0.size)
  clear k0 B0 b1
  go_wp2_with fail
  refine (H1.out _).mono ?_
  rintro e w2 ⟨rfl, b2⟩
  have k2 := k1.below b2 k1.lt
  have B2 := B1.trans (b2.mono B1.size)
  obtain ⟨r0, r1, r2, r3, r4, r5, f0, f1, f2, f3, f4, f5⟩ := res_cells k2
  have HC := Lib.hid (put6_blk (a' := .int .i64 0) (b' := .int .i64 0) (c' := .int .i64 0) (d' := .slice none 0 0) (e' := .slice none 0 0) (f' := .slice none 0 0) k2)
  have HD := Lib.hid (put6_below (B := w.heap.size) (R := w.heap.size) (Nat.le_refl _) B2 (.int .i64 0) (.int .i64 0) (.int .i64 0) (.slice none 0 0) (.slice none 0 0) (.slice none 0 0))
  clear k1 B1 b2 k2 B2
  go_wp2
  have x0 := HC.out.cell 0
  have x1 := HC.out.cell 1
  have x2 := HC.out.cell 2
  have x3 := HC.out.cell 3
  have x4 := HC.out.cell 4
  have x5 := HC.out.cell 5
  refine bodyPost_ret (v := kpV 0 0 0 (.slice none 0 0) (.slice none 0 0) (.slice none 0 0)) (by simp [results, Tryz.results91, go_sem, x0, x1, x2, x3, x4, x5]) rfl ⟨_, _, _, by rw [HE.out] <;> rfl, ?_⟩
  rw [HE.out]
  exact nil_own HD.out rfl rfl rfl
 | true =>
  have HE := Lib.hid (show startK id = ⟨id, 0, 1, [], [], []⟩ by unfold startK; rw [hb]; rfl)
  rw [hb] at H1
  go_enter Tryz.func91, Tryz.ntmps91
  go_wp2_with fail
  generalize w.alloc (.cells #[.int .i64 0, .int .i64 0, .int .i64 0, .slice none 0 0, .slice none 0 0, .slice none 0 0] 39) = V at k0 B0 ⊢
  refine (limited_any _ _).mono ?_
  rintro e w1 ⟨rfl, b1⟩
  have k1 := k0.below b1 k0.lt
  have B1 := B0.trans (b1.mono B0.size)
  clear k0 B0 b1
  go_wp2_with fail
  refine (H1.out _).mono ?_
  rintro e w2 ⟨rfl, b2⟩
  have k2 := k1.below b2 k1.lt
  have B2 := B1.trans (b2.mono B1.size)
  obtain ⟨r0, r1, r2, r3, r4, r5, f0, f1, f2, f3, f4, f5⟩ := res_cells k2
  have HC := Lib.hid (put6_blk (a' := .int .i64 id) (b' := .int .i64 0) (c' := .int .i64 1) (d' := .slice none 0 0) (e' := .slice none 0 0) (f' := .slice none 0 0) k2)
  have HD := Lib.hid (put6_below (B := w.heap.size) (R := w.heap.size) (Nat.le_refl _) B2 (.int .i64 id) (.int .i64 0) (.int .i64 1) (.slice none 0 0) (.slice none 0 0) (.slice none 0 0))
  clear k1 B1 b2 k2 B2
  go_wp2
  have x0 := HC.out.cell 0
  have x1 := HC.out.cell 1
  have x2 := HC.out.cell 2
  have x3 := HC.out.cell 3
  have x4 := HC.out.cell 4
  have x5 := HC.out.cell 5
  refine bodyPost_ret (v := kpV id 0 1 (.slice none 0 0) (.slice none 0 0) (.slice none 0 0)) (by simp [results, Tryz.results91, go_sem, x0, x1, x2, x3, x4, x5]) rfl ⟨_, _, _, by rw [HE.out] <;> rfl, ?_⟩
  rw [HE.out]
  exact nil_own HD.out rfl rfl rfl
end Go.Proofs.YtckicpnnclbkpaaGreatDoor.kp

