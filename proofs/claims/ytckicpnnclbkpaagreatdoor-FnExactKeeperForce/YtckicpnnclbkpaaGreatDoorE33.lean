/-
  Merged texts: SRec4, SEat.
-/
import Derived.Test.YtckicpnnclbkpaaGreatDoorE24
import Derived.Test.YtckicpnnclbkpaaGreatDoorE32
namespace Go.Proofs.YtckicpnnclbkpaaGreatDoor.kp
open Go.ChangeShapes Go.WideShapes Go.ChangeAt Go.RowKit
open wd ow rl ok nb dc
set_option maxRecDepth 100000 in
set_option maxHeartbeats 4000000 in
theorem rec_let (w : World) (k : Kp) (a b c : Value) (x : ByteArray) (hs : x.size ≤ 1048576) (h : SeesK w k a b c) (ho : okK k = true) (hrm : Room a ∧ Room c) (hw : (word x.data.toList).1 = kwLet) :
  Calls Tryz.prog 81 #[kpV k.id k.time k.next a b c, .string x] w (RecPost w k x.data.toList) := by
 have HZ := Lib.hid (sz_ok ho)
 have HS := Lib.hid h
 have HW := Lib.hid (fun W => sword_any x hs W)
 unfold WordPost at HW
 have hrl : (str (word x.data.toList).2).size ≤ 1048576 := by rw [str_size]; have := (word_len x.data.toList).2; rw [← Lib.size_eq] at this; omega
 have HRm := Lib.hid hrm
 have HR := Lib.hid (fun i1 i2 i3 (hr : ReadK (word x.data.toList).2 [i1, i2, i3]) => (⟨fun hv => rec_three_no (fun _ _ => by rw [hw]; exact .inl rfl) hr hv, fun he => (⟨fun hv => rec_let_no (m := ⟨i1, i2, i3⟩) hw hr hv, fun i hv => rec_let_yes (m := ⟨i1, i2, i3⟩) ho hw he hv⟩ : (k.held.findIdx? (isM ⟨i1, i2, i3⟩) = none → RecP k x.data.toList k false) ∧ (∀ i, k.held.findIdx? (isM ⟨i1, i2, i3⟩) = some i → RecP k x.data.toList (letS k i ⟨i1, i2, i3⟩) true))⟩ : (restK (word x.data.toList).2 3 ≠ [] ∨ m3m i1 i2 i3 ≠ (word x.data.toList).2 → RecP k x.data.toList k false) ∧ (m3m i1 i2 i3 = (word x.data.toList).2 → (k.held.findIdx? (isM ⟨i1, i2, i3⟩) = none → RecP k x.data.toList k false) ∧ ∀ i, k.held.findIdx? (isM ⟨i1, i2, i3⟩) = some i → RecP k x.data.toList (letS k i ⟨i1, i2, i3⟩) true)))
 have HO6 := Lib.hid (show okNts k.held 6 = true from (okK_parts ho).2.2.2.1)
 have HN := Lib.hid (fun W => nums3_any (str (word x.data.toList).2) hrl W)
 rw [data_str] at HN
 generalize (word x.data.toList).2 = rest at HW HR HN hrl
 have hkw : str kwLet = ⟨#[108, 101, 116]⟩ := rfl
 rw [hw, hkw] at HW
 clear hkw
 obtain ⟨Aa, ca, rfl, _⟩ := h.held
 obtain ⟨Ab, cb, rfl, _⟩ := h.marks
 obtain ⟨Ac, cc, rfl, _⟩ := h.inbox
 have HT := Lib.hid (CB.new w k (.slice Aa k.held.length ca) (.slice Ab k.marks.length cb) (.slice Ac k.inbox.length cc))
 clear hrm
 clear h hw ho hrl
 go_enter Tryz.func81, Tryz.ntmps81
 go_upto_region 1 with (fail)
 generalize (w.alloc (.cells #[.int .i64 k.id, .int .i64 k.time, .int .i64 k.next, .slice Aa k.held.length ca, .slice Ab k.marks.length cb, .slice Ac k.inbox.length cc] 39)).alloc (.cells #[.int .i64 0, .int .i64 0, .int .i64 0, .slice none 0 0, .slice none 0 0, .slice none 0 0] 39) = V at HT ⊢
 go_wp2_with fail
 refine (HW.out _).mono ?_
 rintro e w1 ⟨rfl, hB1⟩
 have HT1 := Lib.hid (HT.out.later hB1)
 clear HT hB1 HW
 go_wp2_with fail
 refine (HN.out _).mono ?_
 rintro e w2 ⟨v, vs, rfl, hl3, hO, hrk⟩
 obtain ⟨i1, i2, i3, rfl⟩ := three3 hl3
 obtain ⟨q1, q2, q3⟩ := rd3 hrk
 obtain ⟨gI, capI, rfl, hg0, hg1, c0, c1, c2⟩ := own_three hO
 have HT2 := Lib.hid (HT1.out.later hO.2)
 have HT1z := Lib.hid HT1.out.sz
 have HRR := Lib.hid (HR.out i1 i2 i3 hrk)
 have HCI := Lib.hid (fun V (hV : Below w2.heap.size w2 V) => (show V.cell? ⟨gI, 0, none⟩ = some (.int .i64 i1) ∧ V.cell? ⟨gI, 1, none⟩ = some (.int .i64 i2) ∧ V.cell? ⟨gI, 2, none⟩ = some (.int .i64 i3) from ⟨(hV.cell (p := ⟨gI, 0, none⟩) hg1).trans c0, (hV.cell (p := ⟨gI, 1, none⟩) hg1).trans c1, (hV.cell (p := ⟨gI, 2, none⟩) hg1).trans c2⟩))
 have hmc := m3m_cat i1 i2 i3
 have hz1 := dlm_len q1
 have hz2 := dlm_len q2
 have hz3 := dlm_len q3
 have HD1 := Lib.hid (fun W => decM_any i1 q1 W)
 have HD2 := Lib.hid (fun W => decM_any i2 q2 W)
 have HD3 := Lib.hid (fun W => decM_any i3 q3 W)
 unfold dc.StrPost at HD1 HD2 HD3
 generalize str (dlm i1) = D1 at hmc hz1 HD1
 generalize str (dlm i2) = D2 at hmc hz2 HD2
 generalize str (dlm i3) = D3 at hmc hz3 HD3
 have hsp : (⟨#[32]⟩ : ByteArray).size = 1 := rfl
 obtain ⟨p1, y1, z1, s1⟩ := adds D1 ⟨#[32]⟩ (by omega)
 obtain ⟨p2, y2, z2, s2⟩ := adds p1 D2 (by omega)
 obtain ⟨p3, y3, z3, s3⟩ := adds p2 ⟨#[32]⟩ (by omega)
 obtain ⟨p4, y4, z4, s4⟩ := adds p3 D3 (by omega)
 have hp4 : p4 = str (m3m i1 i2 i3) := by rw [y4, y3, y2, y1]; exact hmc
 clear y1 y2 y3 y4 z1 z2 z3 z4 hz1 hz2 hz3 hsp hmc hO hl3 hrk HT1 HR HN c0 c1 c2
 have hZT := HT2.out.sz
 by_cases ht : restK rest 3 = []
 ·have hte : str (restK rest 3) = ⟨#[]⟩ := by rw [ht]; rfl
  rw [hte]
  clear hte
  have a0 : ∀ p : qa.After w2, p.W.cell? ⟨gI, 0, none⟩ = some (.int .i64 i1) := fun p => (HCI.out p.W p.h).1
  have a1 : ∀ p : qa.After w2, p.W.cell? ⟨gI, 1, none⟩ = some (.int .i64 i2) := fun p => (HCI.out p.W p.h).2.1
  have a2 : ∀ p : qa.After w2, p.W.cell? ⟨gI, 2, none⟩ = some (.int .i64 i3) := fun p => (HCI.out p.W p.h).2.2
  by_cases hq : p4 = str rest
  ·have HE : Hid (m3m i1 i2 i3 = rest) := str_inj (hp4.symm.trans hq)
   subst hq
   clear hp4
   go_upto_region 35 with (fail)
   refine qa.region (by kernel_rfl) (by kernel_rfl) ?_
   repeat (go_big_quiet_step (first | (go_at_call 104; with_reducible exact qa.of_below (HD1.out _)) | (go_at_call 104; with_reducible exact qa.of_below (HD2.out _)) | (go_at_call 104; with_reducible exact qa.of_below (HD3.out _))))
   refine wpQuiet_nil ?_
   rintro _ ⟨pp, rfl⟩
   have hW := pp.h
   generalize pp.W = W at hW ⊢
   clear pp
   have HT3 := Lib.hid (HT2.out.later hW)
   have HCJ := Lib.hid (fun V (hV : Below W.heap.size W V) => HCI.out V (hW.trans (hV.mono hW.size)))
   have hgW : gI < W.heap.size := Nat.lt_of_lt_of_le hg1 hW.size
   have HLt := Lib.hid hgW
   have HgB := Lib.hid (show w.heap.size + 2 ≤ gI by have := HT1z.out; omega)
   clear a0 a1 a2 HD1 HD2 HD3 s1 s2 s3 s4 hW HCI HT2 hg0 hg1 hgW
   have hRR := HRR.out.2 HE.out
   have HIx := Lib.hid (fun V (hV : Below W.heap.size W V) => ixN_any V _ k.held i1 i2 ((HS.out.held.later HT3.out.bel).later hV) (by have := HZ.out.few (show 12 ≤ 1048576 by omega); omega))
   unfold IsI at HIx
   obtain ⟨hX1, hX2⟩ := ixN_isM (m := ⟨i1, i2, i3⟩) HO6.out
   clear HRR HE
   have hj0 : (0 : Int) < 3 := by omega
   have hj1 : (1 : Int) < 3 := by omega
   have hj2 : (2 : Int) < 3 := by omega
   rcases ixN_cases k.held i1 i2 with ⟨hn1, he1⟩ | ⟨hn1, i, x1, he1, hx1, hf1, hg1⟩
   ·have HP := Lib.hid (hRR.1 (hX1 he1))
    rw [he1] at HIx
    clear hRR hX1 hX2 hn1 he1
    have a0 : ∀ p : qa.After W, p.W.cell? ⟨gI, 0, none⟩ = some (.int .i64 i1) := fun p => (HCJ.out p.W p.h).1
    have a1 : ∀ p : qa.After W, p.W.cell? ⟨gI, 1, none⟩ = some (.int .i64 i2) := fun p => (HCJ.out p.W p.h).2.1
    have a2 : ∀ p : qa.After W, p.W.cell? ⟨gI, 2, none⟩ = some (.int .i64 i3) := fun p => (HCJ.out p.W p.h).2.2
    have d3 : ∀ p : qa.After W, p.W.cell? ⟨w.heap.size, 3, none⟩ = some (.slice Aa k.held.length ca) := fun p => (qa.blk HT3.out.box p).cell 3
    go_upto_region 39 with (fail)
    refine qa.region (by kernel_rfl) (by kernel_rfl) ?_
    repeat (go_big_quiet_step (first | (go_at_call 113; with_reducible exact qa.of_same (HIx.out _ (qa.After.h _)))))
    refine wpQuiet_nil ?_
    rintro _ ⟨pp, rfl⟩
    have hW2 := pp.h
    generalize pp.W = W2 at hW2 ⊢
    clear pp
    have HT4 := Lib.hid (HT3.out.later hW2)
    have HCK := Lib.hid (fun V (hV : Below W2.heap.size W2 V) => HCJ.out V (hW2.trans (hV.mono hW2.size)))
    have HLe1 := Lib.hid hW2.size
    clear hW2 a0 a1 a2 d3 HIx HCJ HT3
    have a0 : ∀ p : qa.After W2, p.W.cell? ⟨gI, 0, none⟩ = some (.int .i64 i1) := fun p => (HCK.out p.W p.h).1
    have a1 : ∀ p : qa.After W2, p.W.cell? ⟨gI, 1, none⟩ = some (.int .i64 i2) := fun p => (HCK.out p.W p.h).2.1
    have a2 : ∀ p : qa.After W2, p.W.cell? ⟨gI, 2, none⟩ = some (.int .i64 i3) := fun p => (HCK.out p.W p.h).2.2
    have d3 : ∀ p : qa.After W2, p.W.cell? ⟨w.heap.size, 3, none⟩ = some (.slice Aa k.held.length ca) := fun p => (qa.blk HT4.out.box p).cell 3
    go_upto_region 40 with (fail)
    refine qa.region (by kernel_rfl) (by kernel_rfl) ?_
    repeat (go_big_quiet_step (fail))
    refine wpQuiet_nil ?_
    rintro _ ⟨pp, rfl⟩
    have hW2 := pp.h
    generalize pp.W = W3 at hW2 ⊢
    clear pp
    have HT5 := Lib.hid (HT4.out.later hW2)
    have HCL := Lib.hid (fun V (hV : Below W3.heap.size W3 V) => HCK.out V (hW2.trans (hV.mono hW2.size)))
    have HLe := Lib.hid (Nat.le_trans HLe1.out hW2.size)
    clear hW2 a0 a1 a2 d3 HCK HT4
    obtain ⟨b0, b1, b2, b3, b4, b5, g0, g1, g2, g3, g4, g5⟩ := res_cells HT5.out.box
    obtain ⟨r0, r1, r2, r3, r4, r5, f0, f1, f2, f3, f4, f5⟩ := res_cells HT5.out.res
    have HZZ := Lib.hid (HZ.out.up (show 12 ≤ 14 by omega))
    have HC := Lib.hid (put6_blk (V := W3) (a' := .int .i64 k.id) (b' := .int .i64 k.time) (c' := .int .i64 k.next) (d' := .slice Aa k.held.length ca) (e' := .slice Ab k.marks.length cb) (f' := .slice Ac k.inbox.length cc) HT5.out.res)
    have HD := Lib.hid (put6_below (V := W3) (B := w.heap.size) (R := w.heap.size + 1) (by omega) HT5.out.bel (.int .i64 k.id) (.int .i64 k.time) (.int .i64 k.next) (.slice Aa k.held.length ca) (.slice Ab k.marks.length cb) (.slice Ac k.inbox.length cc))
    have HG := Lib.hid (show SeesK (put6 W3 (w.heap.size + 1) (.int .i64 k.id) (.int .i64 k.time) (.int .i64 k.next) (.slice Aa k.held.length ca) (.slice Ab k.marks.length cb) (.slice Ac k.inbox.length cc)) k (.slice Aa k.held.length ca) (.slice Ab k.marks.length cb) (.slice Ac k.inbox.length cc) from HS.out.later HD.out)
    go_wp2
    have x0 := HC.out.cell 0
    have x1 := HC.out.cell 1
    have x2 := HC.out.cell 2
    have x3 := HC.out.cell 3
    have x4 := HC.out.cell 4
    have x5 := HC.out.cell 5
    refine bodyPost_ret (v := .tuple #[kpV (k).id (k).time (k).next (.slice Aa k.held.length ca) (.slice Ab k.marks.length cb) (.slice Ac k.inbox.length cc), .bool false]) (by simp [results, Tryz.results81, go_sem, x0, x1, x2, x3, x4, x5]) rfl ⟨k, false, HP.out, HZZ.out, _, _, _, rfl, HG.out, HD.out⟩
   ·rw [he1] at HIx
    have hil : i < k.held.length := (List.getElem?_eq_some_iff.1 hx1).1
    have hk0 : (0 : Int) ≤ (i : Int) := by omega
    have hk1 : (i : Int) < (k.held.length : Int) := by omega
    have hk2 : ¬ ((i : Int) < 0) := by omega
    obtain ⟨gH, hgH⟩ : ∃ gH, Aa = some ⟨gH, 0, none⟩ := by
     obtain ⟨g', c', e, _⟩ := note_at HS.out.held hx1
     injection e with e1 e2 e3
     exact ⟨g', e1⟩
    subst hgH
    by_cases hu : x1.u = i3
    ·have hfx := (hX2 i x1 he1 hx1).1 hu
     have hR := hRR.2 i hfx
     have ku : (x1.u != i3) = false := by simpa using hu
     have HL := Lib.hid (fun V (hV : Below w.heap.size w V) => let_any V k _ _ _ i1 i2 i x1 (HS.out.later hV) (HZ.out.few (by omega)) HRm.out.1 he1 hx1)
     have hZ3 := sz_let HZ.out i ⟨i1, i2, i3⟩
     rw [hu] at HL
     generalize (letS k i ⟨i1, i2, i3⟩) = k3 at hR hZ3 HL
     have HP := Lib.hid hR
     have HZZ := Lib.hid (hZ3.up (show 12 + 1 ≤ 14 by omega))
     unfold ResK at HL
     have HX1 := Lib.hid hx1
     clear hRR hX1 hX2 hn1 hfx hR hZ3 hu he1 hf1 hg1
     have a0 : ∀ p : qa.After W, p.W.cell? ⟨gI, 0, none⟩ = some (.int .i64 i1) := fun p => (HCJ.out p.W p.h).1
     have a1 : ∀ p : qa.After W, p.W.cell? ⟨gI, 1, none⟩ = some (.int .i64 i2) := fun p => (HCJ.out p.W p.h).2.1
     have a2 : ∀ p : qa.After W, p.W.cell? ⟨gI, 2, none⟩ = some (.int .i64 i3) := fun p => (HCJ.out p.W p.h).2.2
     have d3 : ∀ p : qa.After W, p.W.cell? ⟨w.heap.size, 3, none⟩ = some (.slice (some ⟨gH, 0, none⟩) k.held.length ca) := fun p => (qa.blk HT3.out.box p).cell 3
     go_upto_region 39 with (fail)
     refine qa.region (by kernel_rfl) (by kernel_rfl) ?_
     repeat (go_big_quiet_step (first | (go_at_call 113; with_reducible exact qa.of_same (HIx.out _ (qa.After.h _)))))
     refine wpQuiet_nil ?_
     rintro _ ⟨pp, rfl⟩
     have hW2 := pp.h
     generalize pp.W = W2 at hW2 ⊢
     clear pp
     have HT4 := Lib.hid (HT3.out.later hW2)
     have HCK := Lib.hid (fun V (hV : Below W2.heap.size W2 V) => HCJ.out V (hW2.trans (hV.mono hW2.size)))
     have HLe1 := Lib.hid hW2.size
     clear hW2 a0 a1 a2 d3 HIx HCJ HT3
     have hx1 := HX1.out
     have hnA : ∀ p : qa.After W2, p.W.cell? ⟨gH, i * 5 + 3, none⟩ = some (.int .i64 x1.u) := fun p => ((HS.out.held.later (HT4.out.bel.trans (p.h.mono HT4.out.bel.size)) |> fun h => note_at h hx1) |> fun ⟨g', c', e, _, _, _, _, _, t3, _⟩ => by
      injection e with e1 e2 e3
      injection e1 with e1
      injection e1 with e1
      subst e1
      exact t3)
     clear hx1
     have a0 : ∀ p : qa.After W2, p.W.cell? ⟨gI, 0, none⟩ = some (.int .i64 i1) := fun p => (HCK.out p.W p.h).1
     have a1 : ∀ p : qa.After W2, p.W.cell? ⟨gI, 1, none⟩ = some (.int .i64 i2) := fun p => (HCK.out p.W p.h).2.1
     have a2 : ∀ p : qa.After W2, p.W.cell? ⟨gI, 2, none⟩ = some (.int .i64 i3) := fun p => (HCK.out p.W p.h).2.2
     have d3 : ∀ p : qa.After W2, p.W.cell? ⟨w.heap.size, 3, none⟩ = some (.slice (some ⟨gH, 0, none⟩) k.held.length ca) := fun p => (qa.blk HT4.out.box p).cell 3
     go_upto_region 40 with (fail)
     refine qa.region (by kernel_rfl) (by kernel_rfl) ?_
     repeat (go_big_quiet_step (fail))
     refine wpQuiet_nil ?_
     rintro _ ⟨pp, rfl⟩
     have hW2 := pp.h
     generalize pp.W = W3 at hW2 ⊢
     clear pp
     have HT5 := Lib.hid (HT4.out.later hW2)
     have HCL := Lib.hid (fun V (hV : Below W3.heap.size W3 V) => HCK.out V (hW2.trans (hV.mono hW2.size)))
     have HLe := Lib.hid (Nat.le_trans HLe1.out hW2.size)
     clear hW2 a0 a1 a2 d3 HCK HT4 hnA ku
     obtain ⟨c0, c1, c2⟩ := HCL.out W3 (Below.refl _ _)
     obtain ⟨b0, b1, b2, b3, b4, b5, _, _, _, _, _, _⟩ := res_cells HT5.out.box
     have hgL := Nat.lt_of_lt_of_le HLt.out HLe.out
     have hbL := HT5.out.box.lt
     have hs5 := HT5.out.sz
     have hgB := HgB.out
     go_upto_region 42 with (fail)
     refine wp_region_held_drew (S := (fun w' : World => w'.cell? ⟨w.heap.size, 0, none⟩ = some (.int .i64 k.id) ∧ w'.cell? ⟨w.heap.size, 1, none⟩ = some (.int .i64 k.time) ∧ w'.cell? ⟨w.heap.size, 2, none⟩ = some (.int .i64 k.next) ∧ w'.cell? ⟨w.heap.size, 3, none⟩ = some (.slice (some ⟨gH, 0, none⟩) k.held.length ca) ∧ w'.cell? ⟨w.heap.size, 4, none⟩ = some (.slice Ab k.marks.length cb) ∧ w'.cell? ⟨w.heap.size, 5, none⟩ = some (.slice Ac k.inbox.length cc) ∧ w'.cell? ⟨gI, 0, none⟩ = some (.int .i64 i1) ∧ w'.cell? ⟨gI, 1, none⟩ = some (.int .i64 i2))) (by kernel_rfl) ⟨b0, b1, b2, b3, b4, b5, c0, c1⟩ (fun hHeld => ?_)
     refine rs.w 0 204 ?_ rfl ?_ ?_
     rotate_left 1
     ·(intro w hSw; (try dsimp only at hSw); go_simp; try with_reducible rfl)
     simp only [rs.a, rs.b, rs.c]
     refine rs.w 1 205 ?_ rfl ?_ ?_
     rotate_left 1
     ·(intro w hSw; (try dsimp only at hSw); go_simp; try with_reducible rfl)
     simp only [rs.a, rs.b, rs.c]
     refine rs.w 2 206 ?_ rfl ?_ ?_
     rotate_left 1
     ·(intro w hSw; (try dsimp only at hSw); go_simp; try with_reducible rfl)
     simp only [rs.a, rs.b, rs.c]
     refine rs.w 3 207 ?_ rfl ?_ ?_
     rotate_left 1
     ·(intro w hSw; (try dsimp only at hSw); go_simp; try with_reducible rfl)
     simp only [rs.a, rs.b, rs.c]
     refine rs.w 4 208 ?_ rfl ?_ ?_
     rotate_left 1
     ·(intro w hSw; (try dsimp only at hSw); go_simp; try with_reducible rfl)
     simp only [rs.a, rs.b, rs.c]
     refine rs.w 5 209 ?_ rfl ?_ ?_
     rotate_left 1
     ·(intro w hSw; (try dsimp only at hSw); go_simp; try with_reducible rfl)
     simp only [rs.a, rs.b, rs.c]
     refine rs.w 6 210 ?_ rfl ?_ ?_
     rotate_left 1
     ·(intro w hSw; (try dsimp only at hSw); go_simp; try with_reducible rfl)
     simp only [rs.a, rs.b, rs.c]
     refine wpAnyH_ready (rs := [7]) (by kernel_rfl) (by simp) ?_
     refine AllReadyH.cons rfl (fun K hK => ?_) AllReadyH.nil
     go_simp
     refine (HL.out _ (by exact ⟨HT5.out.bel.os, HT5.out.bel.tape, HT5.out.bel.output, HT5.out.bel.size, HT5.out.bel.block⟩)).mono ?_
     rintro e w3 ⟨vh, vm, vi, rfl, hO3⟩
     have D3 : Below W3.heap.size W3 w3 := ⟨hO3.bel.os, hO3.bel.tape, hO3.bel.output, hO3.bel.size, hO3.bel.block⟩
     have HT6 := Lib.hid (HT5.out.later D3)
     have HG3 := Lib.hid (fun x0 x1 x2 x3 x4 x5 => hO3.put6 HS.out (show w.heap.size ≤ w.heap.size + 1 by omega) (show w.heap.size + 1 < W3.heap.size by omega) x0 x1 x2 x3 x4 x5)
     obtain ⟨A3, d1, rfl, _⟩ := id hO3.sees.held
     obtain ⟨A4, d2, rfl, _⟩ := id hO3.sees.marks
     obtain ⟨A5, d3, rfl, _⟩ := id hO3.sees.inbox
     obtain ⟨s0, s1, s2, s3, s4, s5, _, _, _, _, _, _⟩ := res_cells HT6.out.box
     obtain ⟨s6, s7, _⟩ := HCL.out w3 D3
     obtain ⟨r0, r1, r2, r3, r4, r5, f0, f1, f2, f3, f4, f5⟩ := res_cells HT6.out.res
     have hgR : gI ≠ w.heap.size + 1 := by omega
     clear hO3 D3 hHeld b0 b1 b2 b3 b4 b5 c0 c1 c2
     refine hK.out _ _ ?_ (fun hHeld => ?_)
     ·exact ⟨s0, s1, s2, s3, s4, s5, s6, s7⟩
     clear hK K
     refine rs.w 8 212 ?_ rfl ?_ ?_
     rotate_left 1
     ·(intro w hSw; (try dsimp only at hSw); go_simp; try with_reducible rfl)
     simp only [rs.a, rs.b, rs.c]
     refine rs.w 9 213 ?_ rfl ?_ ?_
     rotate_left 1
     ·(intro w hSw; (try dsimp only at hSw); go_simp; try with_reducible rfl)
     simp only [rs.a, rs.b, rs.c]
     refine wpAnyH_ready (rs := [10]) (by kernel_rfl) (by simp) ?_
     refine AllReadyH.cons rfl (fun K hK => ?_) AllReadyH.nil
     go_simp
     refine hK.out _ _ ?_ (fun hHeld2 => ?_)
     ·have hne : w.heap.size ≠ w.heap.size + 1 := by omega
      exact ⟨(cell_put6 hne _ _ _ _ _ _).trans s0, (cell_put6 hne _ _ _ _ _ _).trans s1, (cell_put6 hne _ _ _ _ _ _).trans s2, (cell_put6 hne _ _ _ _ _ _).trans s3, (cell_put6 hne _ _ _ _ _ _).trans s4, (cell_put6 hne _ _ _ _ _ _).trans s5, (cell_put6 hgR _ _ _ _ _ _).trans s6, (cell_put6 hgR _ _ _ _ _ _).trans s7⟩
     clear hK K
     refine rs.w 11 5 ?_ rfl ?_ ?_
     rotate_left 1
     ·(intro w hSw; (try dsimp only at hSw); go_simp; try with_reducible rfl)
     simp only [rs.a, rs.b, rs.c]
     refine wpAnyH_done (by kernel_rfl) ?_ _
     clear hHeld hHeld2 s0 s1 s2 s3 s4 s5 s6 s7
     have HT3 := HT6
     clear HL
     have HC := Lib.hid (put6_blk (V := w3) (a' := .int .i64 k3.id) (b' := .int .i64 k3.time) (c' := .int .i64 k3.next) (d' := .slice A3 k3.held.length d1) (e' := .slice A4 k3.marks.length d2) (f' := .slice A5 k3.inbox.length d3) HT3.out.res)
     have HD := Lib.hid (put6_below (V := w3) (B := w.heap.size) (R := w.heap.size + 1) (by omega) HT3.out.bel (.int .i64 k3.id) (.int .i64 k3.time) (.int .i64 k3.next) (.slice A3 k3.held.length d1) (.slice A4 k3.marks.length d2) (.slice A5 k3.inbox.length d3))
     have HG := Lib.hid (show SeesK (put6 w3 (w.heap.size + 1) (.int .i64 k3.id) (.int .i64 k3.time) (.int .i64 k3.next) (.slice A3 k3.held.length d1) (.slice A4 k3.marks.length d2) (.slice A5 k3.inbox.length d3)) k3 (.slice A3 k3.held.length d1) (.slice A4 k3.marks.length d2) (.slice A5 k3.inbox.length d3) from HG3.out _ _ _ _ _ _)
     go_wp2
     have x0 := HC.out.cell 0
     have x1 := HC.out.cell 1
     have x2 := HC.out.cell 2
     have x3 := HC.out.cell 3
     have x4 := HC.out.cell 4
     have x5 := HC.out.cell 5
     refine bodyPost_ret (v := .tuple #[kpV (k3).id (k3).time (k3).next (.slice A3 k3.held.length d1) (.slice A4 k3.marks.length d2) (.slice A5 k3.inbox.length d3), .bool true]) (by simp [results, Tryz.results81, go_sem, x0, x1, x2, x3, x4, x5]) rfl ⟨k3, true, HP.out, HZZ.out, _, _, _, rfl, HG.out, HD.out⟩
    ·have HP := Lib.hid (hRR.1 ((hX2 i x1 he1 hx1).2 hu))
     have ku : (x1.u != i3) = true := by simpa using hu
     have HX1 := Lib.hid hx1
     clear hRR hX1 hX2 hn1 he1 hu hf1 hg1
     have a0 : ∀ p : qa.After W, p.W.cell? ⟨gI, 0, none⟩ = some (.int .i64 i1) := fun p => (HCJ.out p.W p.h).1
     have a1 : ∀ p : qa.After W, p.W.cell? ⟨gI, 1, none⟩ = some (.int .i64 i2) := fun p => (HCJ.out p.W p.h).2.1
     have a2 : ∀ p : qa.After W, p.W.cell? ⟨gI, 2, none⟩ = some (.int .i64 i3) := fun p => (HCJ.out p.W p.h).2.2
     have d3 : ∀ p : qa.After W, p.W.cell? ⟨w.heap.size, 3, none⟩ = some (.slice (some ⟨gH, 0, none⟩) k.held.length ca) := fun p => (qa.blk HT3.out.box p).cell 3
     go_upto_region 39 with (fail)
     refine qa.region (by kernel_rfl) (by kernel_rfl) ?_
     repeat (go_big_quiet_step (first | (go_at_call 113; with_reducible exact qa.of_same (HIx.out _ (qa.After.h _)))))
     refine wpQuiet_nil ?_
     rintro _ ⟨pp, rfl⟩
     have hW2 := pp.h
     generalize pp.W = W2 at hW2 ⊢
     clear pp
     have HT4 := Lib.hid (HT3.out.later hW2)
     have HCK := Lib.hid (fun V (hV : Below W2.heap.size W2 V) => HCJ.out V (hW2.trans (hV.mono hW2.size)))
     have HLe1 := Lib.hid hW2.size
     clear hW2 a0 a1 a2 d3 HIx HCJ HT3
     have hx1 := HX1.out
     have hnA : ∀ p : qa.After W2, p.W.cell? ⟨gH, i * 5 + 3, none⟩ = some (.int .i64 x1.u) := fun p => ((HS.out.held.later (HT4.out.bel.trans (p.h.mono HT4.out.bel.size)) |> fun h => note_at h hx1) |> fun ⟨g', c', e, _, _, _, _, _, t3, _⟩ => by
      injection e with e1 e2 e3
      injection e1 with e1
      injection e1 with e1
      subst e1
      exact t3)
     clear hx1
     have a0 : ∀ p : qa.After W2, p.W.cell? ⟨gI, 0, none⟩ = some (.int .i64 i1) := fun p => (HCK.out p.W p.h).1
     have a1 : ∀ p : qa.After W2, p.W.cell? ⟨gI, 1, none⟩ = some (.int .i64 i2) := fun p => (HCK.out p.W p.h).2.1
     have a2 : ∀ p : qa.After W2, p.W.cell? ⟨gI, 2, none⟩ = some (.int .i64 i3) := fun p => (HCK.out p.W p.h).2.2
     have d3 : ∀ p : qa.After W2, p.W.cell? ⟨w.heap.size, 3, none⟩ = some (.slice (some ⟨gH, 0, none⟩) k.held.length ca) := fun p => (qa.blk HT4.out.box p).cell 3
     go_upto_region 40 with (fail)
     refine qa.region (by kernel_rfl) (by kernel_rfl) ?_
     repeat (go_big_quiet_step (fail))
     refine wpQuiet_nil ?_
     rintro _ ⟨pp, rfl⟩
     have hW2 := pp.h
     generalize pp.W = W3 at hW2 ⊢
     clear pp
     have HT5 := Lib.hid (HT4.out.later hW2)
     have HCL := Lib.hid (fun V (hV : Below W3.heap.size W3 V) => HCK.out V (hW2.trans (hV.mono hW2.size)))
     have HLe := Lib.hid (Nat.le_trans HLe1.out hW2.size)
     clear hW2 a0 a1 a2 d3 HCK HT4 hnA ku
     obtain ⟨b0, b1, b2, b3, b4, b5, g0, g1, g2, g3, g4, g5⟩ := res_cells HT5.out.box
     obtain ⟨r0, r1, r2, r3, r4, r5, f0, f1, f2, f3, f4, f5⟩ := res_cells HT5.out.res
     have HZZ := Lib.hid (HZ.out.up (show 12 ≤ 14 by omega))
     have HC := Lib.hid (put6_blk (V := W3) (a' := .int .i64 k.id) (b' := .int .i64 k.time) (c' := .int .i64 k.next) (d' := .slice (some ⟨gH, 0, none⟩) k.held.length ca) (e' := .slice Ab k.marks.length cb) (f' := .slice Ac k.inbox.length cc) HT5.out.res)
     have HD := Lib.hid (put6_below (V := W3) (B := w.heap.size) (R := w.heap.size + 1) (by omega) HT5.out.bel (.int .i64 k.id) (.int .i64 k.time) (.int .i64 k.next) (.slice (some ⟨gH, 0, none⟩) k.held.length ca) (.slice Ab k.marks.length cb) (.slice Ac k.inbox.length cc))
     have HG := Lib.hid (show SeesK (put6 W3 (w.heap.size + 1) (.int .i64 k.id) (.int .i64 k.time) (.int .i64 k.next) (.slice (some ⟨gH, 0, none⟩) k.held.length ca) (.slice Ab k.marks.length cb) (.slice Ac k.inbox.length cc)) k (.slice (some ⟨gH, 0, none⟩) k.held.length ca) (.slice Ab k.marks.length cb) (.slice Ac k.inbox.length cc) from HS.out.later HD.out)
     go_wp2
     have x0 := HC.out.cell 0
     have x1 := HC.out.cell 1
     have x2 := HC.out.cell 2
     have x3 := HC.out.cell 3
     have x4 := HC.out.cell 4
     have x5 := HC.out.cell 5
     refine bodyPost_ret (v := .tuple #[kpV (k).id (k).time (k).next (.slice (some ⟨gH, 0, none⟩) k.held.length ca) (.slice Ab k.marks.length cb) (.slice Ac k.inbox.length cc), .bool false]) (by simp [results, Tryz.results81, go_sem, x0, x1, x2, x3, x4, x5]) rfl ⟨k, false, HP.out, HZZ.out, _, _, _, rfl, HG.out, HD.out⟩
  ·have HP := Lib.hid (HRR.out.1 (.inr (fun e => hq (by rw [hp4, e]))))
   have hne := toList_ne (fun e => hq e.symm)
   clear hq hp4 HRR
   go_upto_region 35 with (fail)
   refine qa.region (by kernel_rfl) (by kernel_rfl) ?_
   repeat (go_big_quiet_step (first | (go_at_call 104; with_reducible exact qa.of_below (HD1.out _)) | (go_at_call 104; with_reducible exact qa.of_below (HD2.out _)) | (go_at_call 104; with_reducible exact qa.of_below (HD3.out _))))
   refine wpQuiet_nil ?_
   rintro _ ⟨pp, rfl⟩
   have hW := pp.h
   generalize pp.W = W at hW ⊢
   clear pp
   have HT3 := Lib.hid (HT2.out.later hW)
   clear a0 a1 a2 HD1 HD2 HD3 s1 s2 s3 s4 hW HCI HT2 hg0 hg1
   obtain ⟨b0, b1, b2, b3, b4, b5, g0, g1, g2, g3, g4, g5⟩ := res_cells HT3.out.box
   obtain ⟨r0, r1, r2, r3, r4, r5, f0, f1, f2, f3, f4, f5⟩ := res_cells HT3.out.res
   have HZZ := Lib.hid (HZ.out.up (show 12 ≤ 14 by omega))
   have HC := Lib.hid (put6_blk (V := W) (a' := .int .i64 k.id) (b' := .int .i64 k.time) (c' := .int .i64 k.next) (d' := .slice Aa k.held.length ca) (e' := .slice Ab k.marks.length cb) (f' := .slice Ac k.inbox.length cc) HT3.out.res)
   have HD := Lib.hid (put6_below (V := W) (B := w.heap.size) (R := w.heap.size + 1) (by omega) HT3.out.bel (.int .i64 k.id) (.int .i64 k.time) (.int .i64 k.next) (.slice Aa k.held.length ca) (.slice Ab k.marks.length cb) (.slice Ac k.inbox.length cc))
   have HG := Lib.hid (show SeesK (put6 W (w.heap.size + 1) (.int .i64 k.id) (.int .i64 k.time) (.int .i64 k.next) (.slice Aa k.held.length ca) (.slice Ab k.marks.length cb) (.slice Ac k.inbox.length cc)) k (.slice Aa k.held.length ca) (.slice Ab k.marks.length cb) (.slice Ac k.inbox.length cc) from HS.out.later HD.out)
   go_wp2
   have x0 := HC.out.cell 0
   have x1 := HC.out.cell 1
   have x2 := HC.out.cell 2
   have x3 := HC.out.cell 3
   have x4 := HC.out.cell 4
   have x5 := HC.out.cell 5
   refine bodyPost_ret (v := .tuple #[kpV (k).id (k).time (k).next (.slice Aa k.held.length ca) (.slice Ab k.marks.length cb) (.slice Ac k.inbox.length cc), .bool false]) (by simp [results, Tryz.results81, go_sem, x0, x1, x2, x3, x4, x5]) rfl ⟨k, false, HP.out, HZZ.out, _, _, _, rfl, HG.out, HD.out⟩
 ·have HP := Lib.hid (HRR.out.1 (.inl ht))
  obtain ⟨u0, u1⟩ := not_blank (fun e => ht (str_inj e) : str (restK rest 3) ≠ ⟨#[]⟩)
  generalize str (restK rest 3) = tl at u0 u1 ⊢
  clear ht HRR HD1 HD2 HD3 s1 s2 s3 s4 hp4 HCI
  go_upto_region 35 with (fail)
  refine qa.region (by kernel_rfl) (by kernel_rfl) ?_
  repeat (go_big_quiet_step (fail))
  refine wpQuiet_nil ?_
  rintro _ ⟨pp, rfl⟩
  have hW := pp.h
  generalize pp.W = W at hW ⊢
  clear pp
  have HT3 := Lib.hid (HT2.out.later hW)
  clear hW HT2 hg0 hg1
  obtain ⟨b0, b1, b2, b3, b4, b5, g0, g1, g2, g3, g4, g5⟩ := res_cells HT3.out.box
  obtain ⟨r0, r1, r2, r3, r4, r5, f0, f1, f2, f3, f4, f5⟩ := res_cells HT3.out.res
  have HZZ := Lib.hid (HZ.out.up (show 12 ≤ 14 by omega))
  have HC := Lib.hid (put6_blk (V := W) (a' := .int .i64 k.id) (b' := .int .i64 k.time) (c' := .int .i64 k.next) (d' := .slice Aa k.held.length ca) (e' := .slice Ab k.marks.length cb) (f' := .slice Ac k.inbox.length cc) HT3.out.res)
  have HD := Lib.hid (put6_below (V := W) (B := w.heap.size) (R := w.heap.size + 1) (by omega) HT3.out.bel (.int .i64 k.id) (.int .i64 k.time) (.int .i64 k.next) (.slice Aa k.held.length ca) (.slice Ab k.marks.length cb) (.slice Ac k.inbox.length cc))
  have HG := Lib.hid (show SeesK (put6 W (w.heap.size + 1) (.int .i64 k.id) (.int .i64 k.time) (.int .i64 k.next) (.slice Aa k.held.length ca) (.slice Ab k.marks.length cb) (.slice Ac k.inbox.length cc)) k (.slice Aa k.held.length ca) (.slice Ab k.marks.length cb) (.slice Ac k.inbox.length cc) from HS.out.later HD.out)
  go_wp2
  have x0 := HC.out.cell 0
  have x1 := HC.out.cell 1
  have x2 := HC.out.cell 2
  have x3 := HC.out.cell 3
  have x4 := HC.out.cell 4
  have x5 := HC.out.cell 5
  refine bodyPost_ret (v := .tuple #[kpV (k).id (k).time (k).next (.slice Aa k.held.length ca) (.slice Ab k.marks.length cb) (.slice Ac k.inbox.length cc), .bool false]) (by simp [results, Tryz.results81, go_sem, x0, x1, x2, x3, x4, x5]) rfl ⟨k, false, HP.out, HZZ.out, _, _, _, rfl, HG.out, HD.out⟩
end Go.Proofs.YtckicpnnclbkpaaGreatDoor.kp

namespace Go.Proofs.YtckicpnnclbkpaaGreatDoor.kp
open Go.ChangeShapes Go.WideShapes Go.ChangeAt Go.RowKit
open wd ow rl ok nb
set_option maxRecDepth 100000 in
set_option maxHeartbeats 4000000 in
theorem eat_any (w : World) (k : Kp) (a b c : Value) (f n : Int) (i : Nat) (x : Nt) (h : SeesK w k a b c) (hl : k.held.length ≤ 1048576 ∧ k.marks.length ≤ 1048576 ∧ k.inbox.length ≤ 1048576) (hr : Room c) (hix : ixN k.inbox f n = (i : Nat)) (hx : k.inbox[i]? = some x) :
  Calls Tryz.prog 117 #[kpV k.id k.time k.next a b c, .int .i64 f, .int .i64 n] w (ResK w (eatS k i) true a b c) := by
 obtain ⟨hl1, hl2, hl3⟩ := hl
 obtain ⟨i0, hi, hz0, hz1, hz2⟩ := info_parts infoNote
 obtain ⟨Aa, ca, rfl, _⟩ := h.held
 obtain ⟨Ab, cb, rfl, _⟩ := h.marks
 have HS := Lib.hid h
 have hin := h.inbox
 have hil : i < k.inbox.length := (List.getElem?_eq_some_iff.1 hx).1
 obtain ⟨Ac, cc, rfl, hcc⟩ := hin
 rcases hcc with ⟨_, _, e⟩ | ⟨g, rfl, hg, hcell⟩
 ·rw [e] at hil; simp at hil
 obtain ⟨_, _, _, e, hr1, hr2⟩ := hr
 injection e with e1 e2 e3
 subst e1; subst e2; subst e3
 have HIx := Lib.hid (fun V (hV : Below w.heap.size w V) => ixN_any V _ k.inbox f n (h.inbox.later hV) hl3)
 rw [hix] at HIx
 unfold IsI at HIx
 have HT := Lib.hid (CB.new w k (.slice Aa k.held.length ca) (.slice Ab k.marks.length cb) (.slice (some ⟨g, 0, none⟩) k.inbox.length cc))
 have HCell := Lib.hid hcell
 unfold maxLen at hr2
 have hA0 : (0 : Int) ≤ (i : Int) := by omega
 have hA2 : (i : Int) ≤ (cc : Int) := by omega
 have hA3 : IntKind.i64.wrap ((i : Int) + 1) = (i : Int) + 1 := by rw [IntKind.wrap_i64]; omega
 have hA4 : (0 : Int) ≤ (i : Int) + 1 := by omega
 have hA5 : (i : Int) + 1 ≤ (k.inbox.length : Int) := by omega
 have hA6 : (i : Int) + 1 ≤ (cc : Int) := by omega
 have hA7 : (k.inbox.length : Int) ≤ (cc : Int) := by omega
 have htl : (k.inbox.take i).length = i := by rw [List.length_take]; omega
 have hdl : (k.inbox.drop (i + 1)).length = k.inbox.length - (i + 1) := by rw [List.length_drop]
 clear h hcell hix hx
 go_enter Tryz.func117, Tryz.ntmps117
 go_upto_region 1 with (fail)
 generalize (w.alloc (.cells #[.int .i64 k.id, .int .i64 k.time, .int .i64 k.next, .slice Aa k.held.length ca, .slice Ab k.marks.length cb, .slice (some ⟨g, 0, none⟩) k.inbox.length cc] 39)).alloc (.cells #[.int .i64 0, .int .i64 0, .int .i64 0, .slice none 0 0, .slice none 0 0, .slice none 0 0] 39) = V at HT ⊢
 obtain ⟨b0, b1, b2, b3, b4, b5, _, _, _, g3, g4, g5⟩ := res_cells HT.out.box
 have hs1 := HT.out.sz
 go_wp2_with fail
 refine (HIx.out _ HT.out.bel).mono ?_
 rintro e w1 ⟨rfl, rfl⟩
 clear HIx
 go_upto_region 4 with (fail)
 have hOE : OwnAt ntS 105 V.heap.size (V.alloc (.cells #[] 105)) (.slice (some ⟨V.heap.size, 0, none⟩) 0 0) [] := ownAt_new (S := ntS) (t := 105) (B := V.heap.size) V (Nat.le_refl _)
 have HBA := Lib.hid (HT.out.bel.alloc HT.out.bel.size (.cells #[] 105))
 have HF := Lib.hid (fun W (hW : Below V.heap.size V W) => show W.cell? ⟨w.heap.size, 5, none⟩ = some (.slice (some ⟨g, 0, none⟩) k.inbox.length cc) from (res_cells (HT.out.box.below hW HT.out.box.lt)).2.2.2.2.2.1)
 have HFz := Lib.hid (fun W (hW : Below V.heap.size V W) => show W.frozen? ⟨w.heap.size, 5, none⟩ = false from (HT.out.box.below hW HT.out.box.lt).frozen 5)
 have d5 := HF.out _ ((Below.refl _ V).alloc (Nat.le_refl _) (.cells #[] 105))
 have HPart := Lib.hid (fun W (hW : Below V.heap.size V W) => show PartR ntS W (if cc = i + 1 then some ⟨g, 0, none⟩ else some ⟨g, (i + 1) * 5, none⟩) (cc - (i + 1)) (k.inbox.drop (i + 1)) from by
  by_cases hce : cc = i + 1
  ·rw [if_pos hce]; exact rpart_none g (List.drop_eq_nil_of_le (by omega))
  ·rw [if_neg hce]; exact rpart_drop hg HCell.out (HT.out.bel.trans (hW.mono HT.out.bel.size)) (i + 1))
 have hlc : i + (k.inbox.drop (i + 1)).length = (cutL k.inbox i).length := by unfold cutL; rw [List.length_append, htl]
 by_cases hce : cc = i + 1
 ·have hif : (if cc = i + 1 then (some ⟨g, 0, none⟩ : Option Addr) else some ⟨g, (i + 1) * 5, none⟩) = some ⟨g, 0, none⟩ := if_pos hce
  rw [hif] at HPart
  clear hce
  go_cut [8] from 17 to 29 (fun p wx => p = .int .i64 i ∧ ∃ A10 n10 c10, Hid (CB w wx k (.slice Aa k.held.length ca) (.slice Ab k.marks.length cb) (.slice A10 n10 c10)) ∧ Hid (OwnAt ntS 105 V.heap.size wx (.slice A10 n10 c10) (cutL k.inbox i)))
  case first =>
   go_region_law (first | (refine step_append_recs ntS (by decide) rfl (.tmp 17) (.tmp 21) 36 rfl V.heap.size 105 i0 _ 48 Tryz.underlying36 hi hz0 hz1 hz2 rfl _ 0 [] (by simp [Act.eval, Act.put]) hOE (some ⟨g, 0, none⟩) i cc (k.inbox.take i) (by simp [Act.eval, Act.put]) htl.symm ?_ (by unfold maxLen; omega) (by omega) (by simp) ?_; (exact rpart_take hg HCell.out HBA.out i); intro v9 w9 hown9 hgrow9; rw [Nat.zero_add, htl] at hown9; have D9 : Below V.heap.size V w9 := app_below (o := .cells #[] 105) (n := 0) (c := 0) ⟨hgrow9.os, hgrow9.tape, hgrow9.output, hgrow9.size, hgrow9.block⟩; have d9 := HF.out w9 D9; have z9 := D9.size; obtain ⟨A9, c9, e9⟩ := row_form hown9; subst e9) | (refine step_append_recs ntS (by decide) rfl (.tmp 22) (.tmp 27) 36 rfl V.heap.size 105 i0 _ 48 Tryz.underlying36 hi hz0 hz1 hz2 rfl (.slice A9 i c9) i ([] ++ (k.inbox.take i).flatMap (ntS).f) (by simp [Act.eval, Act.put]) hown9 (some ⟨g, 0, none⟩) (k.inbox.length - (i + 1)) (cc - (i + 1)) (k.inbox.drop (i + 1)) (by simp [Act.eval, Act.put]) hdl.symm ?_ (by unfold maxLen; omega) (by omega) z9 ?_; (exact HPart.out _ D9); intro v10 w10 hown10 hgrow10; have D10 : Below V.heap.size V w10 := own_below D9 hown9 ⟨hgrow10.os, hgrow10.tape, hgrow10.output, hgrow10.size, hgrow10.block⟩ z9; have d10 := HF.out w10 D10; have e10' := HFz.out w10 D10; have HO10 := Lib.hid (ownAt_cut hown10 hlc); rw [hlc] at hown10; generalize (cutL k.inbox i).length = n10 at hown10; obtain ⟨A10, c10, e10⟩ := row_form hown10; subst e10; have HD10 := Lib.hid D10; clear hown9 hgrow9 hown10 hgrow10 d9 D9 D10 z9))
   all_goals
    have HTn := Lib.hid ((HT.out.later HD10.out).put5 (.slice A10 n10 c10))
    have HP := Lib.hid (OwnAt.set HO10.out (p := ⟨w.heap.size, 5, none⟩) (by show w.heap.size < V.heap.size; omega) (.slice A10 n10 c10))
    go_wp2_with fail
    go_meet
    exact ⟨rfl, A10, n10, c10, HTn, HP⟩
  case rest =>
   obtain ⟨rfl, A10, n10, c10, HTn, HP⟩ := hcut
   clear b0 b1 b2 b3 b4 b5 g3 g4 g5 d5 hOE
   obtain ⟨b0, b1, b2, b3, b4, b5, _, _, _, _, _, _⟩ := res_cells HTn.out.box
   obtain ⟨r0, r1, r2, r3, r4, r5, f0, f1, f2, f3, f4, f5⟩ := res_cells HTn.out.res
   have HC := Lib.hid (put6_blk (V := wc) (a' := .int .i64 k.id) (b' := .int .i64 k.time) (c' := .int .i64 k.next) (d' := .slice Aa k.held.length ca) (e' := .slice Ab k.marks.length cb) (f' := .slice A10 n10 c10) HTn.out.res)
   have HD := Lib.hid (put6_below (V := wc) (B := w.heap.size) (R := w.heap.size + 1) (by omega) HTn.out.bel (.int .i64 k.id) (.int .i64 k.time) (.int .i64 k.next) (.slice Aa k.held.length ca) (.slice Ab k.marks.length cb) (.slice A10 n10 c10))
   have HG := Lib.hid (show SeesK (put6 wc (w.heap.size + 1) (.int .i64 k.id) (.int .i64 k.time) (.int .i64 k.next) (.slice Aa k.held.length ca) (.slice Ab k.marks.length cb) (.slice A10 n10 c10)) (eatS k i) (.slice Aa k.held.length ca) (.slice Ab k.marks.length cb) (.slice A10 n10 c10) from
    ⟨HS.out.held.later HD.out, HS.out.marks.later HD.out, OwnAt.sees (OwnAt.put6 (W := wc) HP.out (R := w.heap.size + 1) (by omega) _ _ _ _ _ _)⟩)
   have HF := Lib.hid (From.own (w := w) (v0 := .slice (some ⟨g, 0, none⟩) k.inbox.length cc) HP.out (by omega))
   clear HTn HP
   go_wp2
   have x0 := HC.out.cell 0
   have x1 := HC.out.cell 1
   have x2 := HC.out.cell 2
   have x3 := HC.out.cell 3
   have x4 := HC.out.cell 4
   have x5 := HC.out.cell 5
   refine bodyPost_ret (v := .tuple #[kpV k.id k.time k.next (.slice Aa k.held.length ca) (.slice Ab k.marks.length cb) (.slice A10 n10 c10), .bool true]) (by simp [results, Tryz.results117, go_sem, x0, x1, x2, x3, x4, x5]) rfl ⟨_, _, _, rfl, HG.out, HD.out, From.refl _ _, From.refl _ _, HF.out⟩
 ·rw [if_neg hce] at HPart
  go_cut [8] from 17 to 29 (fun p wx => p = .int .i64 i ∧ ∃ A10 n10 c10, Hid (CB w wx k (.slice Aa k.held.length ca) (.slice Ab k.marks.length cb) (.slice A10 n10 c10)) ∧ Hid (OwnAt ntS 105 V.heap.size wx (.slice A10 n10 c10) (cutL k.inbox i)))
  case first =>
   go_region_law (first | (refine step_append_recs ntS (by decide) rfl (.tmp 17) (.tmp 21) 36 rfl V.heap.size 105 i0 _ 48 Tryz.underlying36 hi hz0 hz1 hz2 rfl _ 0 [] (by simp [Act.eval, Act.put]) hOE (some ⟨g, 0, none⟩) i cc (k.inbox.take i) (by simp [Act.eval, Act.put]) htl.symm ?_ (by unfold maxLen; omega) (by omega) (by simp) ?_; (exact rpart_take hg HCell.out HBA.out i); intro v9 w9 hown9 hgrow9; rw [Nat.zero_add, htl] at hown9; have D9 : Below V.heap.size V w9 := app_below (o := .cells #[] 105) (n := 0) (c := 0) ⟨hgrow9.os, hgrow9.tape, hgrow9.output, hgrow9.size, hgrow9.block⟩; have d9 := HF.out w9 D9; have z9 := D9.size; obtain ⟨A9, c9, e9⟩ := row_form hown9; subst e9) | (refine step_append_recs ntS (by decide) rfl (.tmp 22) (.tmp 27) 36 rfl V.heap.size 105 i0 _ 48 Tryz.underlying36 hi hz0 hz1 hz2 rfl (.slice A9 i c9) i ([] ++ (k.inbox.take i).flatMap (ntS).f) (by simp [Act.eval, Act.put]) hown9 (some ⟨g, (i + 1) * 5, none⟩) (k.inbox.length - (i + 1)) (cc - (i + 1)) (k.inbox.drop (i + 1)) (by simp [Act.eval, Act.put]) hdl.symm ?_ (by unfold maxLen; omega) (by omega) z9 ?_; (exact HPart.out _ D9); intro v10 w10 hown10 hgrow10; have D10 : Below V.heap.size V w10 := own_below D9 hown9 ⟨hgrow10.os, hgrow10.tape, hgrow10.output, hgrow10.size, hgrow10.block⟩ z9; have d10 := HF.out w10 D10; have e10' := HFz.out w10 D10; have HO10 := Lib.hid (ownAt_cut hown10 hlc); rw [hlc] at hown10; generalize (cutL k.inbox i).length = n10 at hown10; obtain ⟨A10, c10, e10⟩ := row_form hown10; subst e10; have HD10 := Lib.hid D10; clear hown9 hgrow9 hown10 hgrow10 d9 D9 D10 z9))
   all_goals
    have HTn := Lib.hid ((HT.out.later HD10.out).put5 (.slice A10 n10 c10))
    have HP := Lib.hid (OwnAt.set HO10.out (p := ⟨w.heap.size, 5, none⟩) (by show w.heap.size < V.heap.size; omega) (.slice A10 n10 c10))
    go_wp2_with fail
    go_meet
    exact ⟨rfl, A10, n10, c10, HTn, HP⟩
  case rest =>
   obtain ⟨rfl, A10, n10, c10, HTn, HP⟩ := hcut
   clear b0 b1 b2 b3 b4 b5 g3 g4 g5 d5 hOE
   obtain ⟨b0, b1, b2, b3, b4, b5, _, _, _, _, _, _⟩ := res_cells HTn.out.box
   obtain ⟨r0, r1, r2, r3, r4, r5, f0, f1, f2, f3, f4, f5⟩ := res_cells HTn.out.res
   have HC := Lib.hid (put6_blk (V := wc) (a' := .int .i64 k.id) (b' := .int .i64 k.time) (c' := .int .i64 k.next) (d' := .slice Aa k.held.length ca) (e' := .slice Ab k.marks.length cb) (f' := .slice A10 n10 c10) HTn.out.res)
   have HD := Lib.hid (put6_below (V := wc) (B := w.heap.size) (R := w.heap.size + 1) (by omega) HTn.out.bel (.int .i64 k.id) (.int .i64 k.time) (.int .i64 k.next) (.slice Aa k.held.length ca) (.slice Ab k.marks.length cb) (.slice A10 n10 c10))
   have HG := Lib.hid (show SeesK (put6 wc (w.heap.size + 1) (.int .i64 k.id) (.int .i64 k.time) (.int .i64 k.next) (.slice Aa k.held.length ca) (.slice Ab k.marks.length cb) (.slice A10 n10 c10)) (eatS k i) (.slice Aa k.held.length ca) (.slice Ab k.marks.length cb) (.slice A10 n10 c10) from
    ⟨HS.out.held.later HD.out, HS.out.marks.later HD.out, OwnAt.sees (OwnAt.put6 (W := wc) HP.out (R := w.heap.size + 1) (by omega) _ _ _ _ _ _)⟩)
   have HF := Lib.hid (From.own (w := w) (v0 := .slice (some ⟨g, 0, none⟩) k.inbox.length cc) HP.out (by omega))
   clear HTn HP
   go_wp2
   have x0 := HC.out.cell 0
   have x1 := HC.out.cell 1
   have x2 := HC.out.cell 2
   have x3 := HC.out.cell 3
   have x4 := HC.out.cell 4
   have x5 := HC.out.cell 5
   refine bodyPost_ret (v := .tuple #[kpV k.id k.time k.next (.slice Aa k.held.length ca) (.slice Ab k.marks.length cb) (.slice A10 n10 c10), .bool true]) (by simp [results, Tryz.results117, go_sem, x0, x1, x2, x3, x4, x5]) rfl ⟨_, _, _, rfl, HG.out, HD.out, From.refl _ _, From.refl _ _, HF.out⟩
end Go.Proofs.YtckicpnnclbkpaaGreatDoor.kp

