/-
  Merged texts: SLet, After.
-/
import Derived.Test.YtjmmojjjopjdpaaGreatDoorGFnKeepOf14
import Derived.Test.YtjmmojjjopjdpaaGreatDoorGFnKeepOf12
import Derived.Test.YtjmmojjjopjdpaaGreatDoorGFnKeepOf1
import Derived.Deep.CutRange
import Derived.BigQuiet
/-
  Contract of spec.l12Let.
-/
namespace Go.Proofs.YtjmmojjjopjdpaaGreatDoor.kp
open Go.ChangeShapes Go.WideShapes Go.ChangeAt Go.RowKit
open Go.Proofs.YtjmmojjjopjdpaaGreatDoor.wd Go.Proofs.YtjmmojjjopjdpaaGreatDoor.ow Go.Proofs.YtjmmojjjopjdpaaGreatDoor.rl Go.Proofs.YtjmmojjjopjdpaaGreatDoor.ok Go.Proofs.YtjmmojjjopjdpaaGreatDoor.nb

set_option maxRecDepth 100000 in
set_option maxHeartbeats 4000000 in
/-- what is held, and is let go of -/
theorem let_any (w : World) (k : Kp) (a b c : Value) (f n : Int) (i : Nat) (x : Nt) (h : SeesK w k a b c) (hl : k.held.length ≤ 1048576 ∧ k.marks.length ≤ 1048576 ∧ k.inbox.length ≤ 1048576) (hr : Room a) (hix : ixN k.held f n = (i : Nat)) (hx : k.held[i]? = some x) :
    Calls Tryz.prog 176 #[kpV k.id k.time k.next a b c, .int .i64 f, .int .i64 n] w (ResK w (letS k i ⟨f, n, x.u⟩) true a b c) := by
  obtain ⟨hl1, hl2, hl3⟩ := hl
  obtain ⟨i0, hi, hz0, hz1, hz2⟩ := info_parts infoNote
  obtain ⟨Ab, cb, rfl, _⟩ := h.marks
  obtain ⟨Ac, cc, rfl, _⟩ := h.inbox
  have HS := Lib.hid h
  have hin := h.held
  have hil : i < k.held.length := (List.getElem?_eq_some_iff.1 hx).1
  obtain ⟨Aa, ca, rfl, hcc⟩ := hin
  rcases hcc with ⟨_, _, e⟩ | ⟨g, rfl, hg, hcell⟩
  · rw [e] at hil; simp at hil
  obtain ⟨_, _, _, e, hr1, hr2⟩ := hr
  injection e with e1 e2 e3
  subst e1; subst e2; subst e3
  have HNt := Lib.hid (fun V (hV : Below w.heap.size w V) => (show V.cell? ⟨g, i * 5, none⟩ = some (.int .i64 x.f) ∧ V.cell? ⟨g, i * 5 + 1, none⟩ = some (.int .i64 x.n) ∧ V.cell? ⟨g, i * 5 + 2, none⟩ = some (.int .i64 x.t) ∧ V.cell? ⟨g, i * 5 + 3, none⟩ = some (.int .i64 x.u) ∧ V.cell? ⟨g, i * 5 + 4, none⟩ = some (.string x.s) from by
    obtain ⟨g', c', e, _, _, t0, t1, t2, t3, t4⟩ := note_at (h.held.later hV) hx
    injection e with e1 e2 e3
    injection e1 with e1
    injection e1 with e1
    subst e1
    exact ⟨t0, t1, t2, t3, t4⟩))
  have HPM := Lib.hid (fun V (hV : Below w.heap.size w V) => putM_any V _ k.marks ⟨f, n, x.u⟩ (h.marks.later hV) hl2)
  unfold ListM mkV mark at HPM
  have HIx := Lib.hid (fun V (hV : Below w.heap.size w V) => ixN_any V _ k.held f n (h.held.later hV) hl1)
  rw [hix] at HIx
  unfold IsI at HIx
  have HT := Lib.hid (CB.new w k (.slice (some ⟨g, 0, none⟩) k.held.length ca) (.slice Ab k.marks.length cb) (.slice Ac k.inbox.length cc))
  have HCell := Lib.hid hcell
  unfold maxLen at hr2
  have hA0 : (0 : Int) ≤ (i : Int) := by omega
  have hA2 : (i : Int) ≤ (ca : Int) := by omega
  have hA3 : IntKind.i64.wrap ((i : Int) + 1) = (i : Int) + 1 := by rw [IntKind.wrap_i64]; omega
  have hA4 : (0 : Int) ≤ (i : Int) + 1 := by omega
  have hA5 : (i : Int) + 1 ≤ (k.held.length : Int) := by omega
  have hA6 : (i : Int) + 1 ≤ (ca : Int) := by omega
  have hA7 : (k.held.length : Int) ≤ (ca : Int) := by omega
  have htl : (k.held.take i).length = i := by rw [List.length_take]; omega
  have hdl : (k.held.drop (i + 1)).length = k.held.length - (i + 1) := by rw [List.length_drop]
  clear h hcell hix hx
  go_enter Tryz.func176, Tryz.ntmps176
  go_upto_region 1 with (fail)
  generalize (w.alloc (.cells #[.int .i64 k.id, .int .i64 k.time, .int .i64 k.next, .slice (some ⟨g, 0, none⟩) k.held.length ca, .slice Ab k.marks.length cb, .slice Ac k.inbox.length cc] 29)).alloc (.cells #[.int .i64 0, .int .i64 0, .int .i64 0, .slice none 0 0, .slice none 0 0, .slice none 0 0] 29) = V at HT ⊢
  obtain ⟨b0, b1, b2, b3, b4, b5, _, _, _, g3, g4, g5⟩ := res_cells HT.out.box
  have hs1 := HT.out.sz
  go_wp2_with fail
  refine (HIx.out _ HT.out.bel).mono ?_
  rintro e w1 ⟨rfl, rfl⟩
  clear HIx
  have hNt := HNt.out _ HT.out.bel
  obtain ⟨t0, t1, t2, t3, t4⟩ := hNt
  have hk1 : (i : Int) < (k.held.length : Int) := by omega
  go_upto_region 5 with (fail)
  have HB0 := Lib.hid ((Below.refl V.heap.size V).alloc (Nat.le_refl _) (.cells #[.int .i64 x.f, .int .i64 x.n, .int .i64 x.t, .int .i64 x.u, .string x.s] 131))
  have HT0 := HT
  have HN0 := Lib.hid (Blk.new V 131 #[.int .i64 x.f, .int .i64 x.n, .int .i64 x.t, .int .i64 x.u, .string x.s])
  have HTa := Lib.hid (HT.out.later HB0.out)
  have hNlt := HN0.out.lt
  have hNB := hs1
  clear HT HT0 HNt t0 t1 t2 t3 t4 b0 b1 b2 b3 b4 b5 g3 g4 g5 hs1 HB0
  generalize V.heap.size = NB at HN0 hNlt hNB ⊢
  generalize V.alloc (.cells #[.int .i64 x.f, .int .i64 x.n, .int .i64 x.t, .int .i64 x.u, .string x.s] 131) = W at HTa HN0 hNlt ⊢
  have HT := HTa
  clear HTa
  obtain ⟨b0, b1, b2, b3, b4, b5, _, _, _, g3, g4, g5⟩ := res_cells HT.out.box
  have hs1 := HT.out.sz
  have hOE : OwnAt ntS 131 W.heap.size (W.alloc (.cells #[] 131)) (.slice (some ⟨W.heap.size, 0, none⟩) 0 0) [] := ownAt_new (S := ntS) (t := 131) (B := W.heap.size) W (Nat.le_refl _)
  have HBA := Lib.hid (HT.out.bel.alloc HT.out.bel.size (.cells #[] 131))
  have HF := Lib.hid (fun Y (hW : Below W.heap.size W Y) => show Y.cell? ⟨w.heap.size, 3, none⟩ = some (.slice (some ⟨g, 0, none⟩) k.held.length ca) from (res_cells (HT.out.box.below hW HT.out.box.lt)).2.2.2.1)
  have HFz := Lib.hid (fun Y (hW : Below W.heap.size W Y) => show Y.frozen? ⟨w.heap.size, 3, none⟩ = false from (HT.out.box.below hW HT.out.box.lt).frozen 3)
  have d5 := HF.out _ ((Below.refl _ W).alloc (Nat.le_refl _) (.cells #[] 131))
  have HPart := Lib.hid (fun Y (hW : Below W.heap.size W Y) => show PartR ntS Y (if ca = i + 1 then some ⟨g, 0, none⟩ else some ⟨g, (i + 1) * 5, none⟩) (ca - (i + 1)) (k.held.drop (i + 1)) from by
    by_cases hce : ca = i + 1
    · rw [if_pos hce]; exact rpart_none g (List.drop_eq_nil_of_le (by omega))
    · rw [if_neg hce]; exact rpart_drop hg HCell.out (HT.out.bel.trans (hW.mono HT.out.bel.size)) (i + 1))
  have hlc : i + (k.held.drop (i + 1)).length = (cutL k.held i).length := by unfold cutL; rw [List.length_append, htl]
  by_cases hce : ca = i + 1
  · have hif : (if ca = i + 1 then (some ⟨g, 0, none⟩ : Option Addr) else some ⟨g, (i + 1) * 5, none⟩) = some ⟨g, 0, none⟩ := if_pos hce
    rw [hif] at HPart
    clear hce
    go_cut [8] from 23 to 35 (fun p wx => p = .int .i64 i ∧ ∃ A10 n10 c10, Hid (CB w wx k (.slice A10 n10 c10) (.slice Ab k.marks.length cb) (.slice Ac k.inbox.length cc)) ∧ Hid (OwnAt ntS 131 W.heap.size wx (.slice A10 n10 c10) (cutL k.held i)) ∧ Hid (Blk wx NB 131 #[.int .i64 x.f, .int .i64 x.n, .int .i64 x.t, .int .i64 x.u, .string x.s]))
    case first =>
      go_region_law (first | (refine step_append_recs ntS (by decide) rfl (.tmp 23) (.tmp 27) 26 rfl W.heap.size 131 i0 _ 48 Tryz.underlying26 hi hz0 hz1 hz2 rfl _ 0 [] (by simp [Act.eval, Act.put]) hOE (some ⟨g, 0, none⟩) i ca (k.held.take i) (by simp [Act.eval, Act.put]) htl.symm ?_ (by unfold maxLen; omega) (by omega) (by simp) ?_; (exact rpart_take hg HCell.out HBA.out i); intro v9 w9 hown9 hgrow9; rw [Nat.zero_add, htl] at hown9; have D9 : Below W.heap.size W w9 := app_below (o := .cells #[] 131) (n := 0) (c := 0) ⟨hgrow9.os, hgrow9.tape, hgrow9.output, hgrow9.size, hgrow9.block⟩; have d9 := HF.out w9 D9; have z9 := D9.size; obtain ⟨A9, c9, e9⟩ := row_form hown9; subst e9) | (refine step_append_recs ntS (by decide) rfl (.tmp 28) (.tmp 33) 26 rfl W.heap.size 131 i0 _ 48 Tryz.underlying26 hi hz0 hz1 hz2 rfl (.slice A9 i c9) i ([] ++ (k.held.take i).flatMap (ntS).f) (by simp [Act.eval, Act.put]) hown9 (some ⟨g, 0, none⟩) (k.held.length - (i + 1)) (ca - (i + 1)) (k.held.drop (i + 1)) (by simp [Act.eval, Act.put]) hdl.symm ?_ (by unfold maxLen; omega) (by omega) z9 ?_; (exact HPart.out _ D9); intro v10 w10 hown10 hgrow10; have D10 : Below W.heap.size W w10 := own_below D9 hown9 ⟨hgrow10.os, hgrow10.tape, hgrow10.output, hgrow10.size, hgrow10.block⟩ z9; have d10 := HF.out w10 D10; have e10' := HFz.out w10 D10; have HO10 := Lib.hid (ownAt_cut hown10 hlc); rw [hlc] at hown10; generalize (cutL k.held i).length = n10 at hown10; obtain ⟨A10, c10, e10⟩ := row_form hown10; subst e10; have HD10 := Lib.hid D10; clear hown9 hgrow9 hown10 hgrow10 d9 D9 D10 z9))
      all_goals
        have HTn := Lib.hid ((HT.out.later HD10.out).put3 (.slice A10 n10 c10))
        have HNn := Lib.hid ((HN0.out.below HD10.out hNlt).far (p := ⟨w.heap.size, 3, none⟩) (by show NB ≠ w.heap.size; omega) (.slice A10 n10 c10))
        have HP := Lib.hid (OwnAt.set HO10.out (p := ⟨w.heap.size, 3, none⟩) (by show w.heap.size < W.heap.size; omega) (.slice A10 n10 c10))
        go_wp2_with fail
        go_meet
        exact ⟨rfl, A10, n10, c10, HTn, HP, HNn⟩
    case rest =>
      obtain ⟨rfl, A10, n10, c10, HTn, HP, HNn⟩ := hcut
      clear b0 b1 b2 b3 b4 b5 g3 g4 g5 d5 hOE HN0
      obtain ⟨b0, b1, b2, b3, b4, b5, _, _, _, g3, g4, g5⟩ := res_cells HTn.out.box
      have m3 : wc.cell? ⟨NB, 3, none⟩ = some (.int .i64 x.u) := HNn.out.cell 3
      have hsn := HTn.out.sz
      go_wp2_with fail
      refine (HPM.out _ HTn.out.bel).mono ?_
      rintro e w3 ⟨vm, rfl, hO⟩
      obtain ⟨A2, c2, rfl⟩ := OwnR.form hO
      have hzw := hO.2.size
      have O2 : OwnAt mkS 164 wc.heap.size w3 (.slice A2 (putM k.marks ⟨f, n, x.u⟩).length c2) ((putM k.marks ⟨f, n, x.u⟩)) := hO.1
      have HT4 := Lib.hid ((HTn.out.later hO.2).put4 (.slice A2 (putM k.marks ⟨f, n, x.u⟩).length c2))
      have P2 := Lib.hid (OwnAt.set O2 (p := ⟨w.heap.size, 4, none⟩) (by show w.heap.size < wc.heap.size; omega) (.slice A2 (putM k.marks ⟨f, n, x.u⟩).length c2))
      have Q1 := Lib.hid (OwnAt.set (OwnAt.later HP.out hO.2) (p := ⟨w.heap.size, 4, none⟩) (by show w.heap.size < W.heap.size; omega) (.slice A2 (putM k.marks ⟨f, n, x.u⟩).length c2))
      clear b0 b1 b2 b3 b4 b5 g3 g4 g5 m3
      obtain ⟨b0, b1, b2, b3, b4, b5, _, _, _, g3, g4, g5⟩ := res_cells (HTn.out.later hO.2).box
      clear O2 hO HTn HP HNn HPM
      obtain ⟨n2, hn2⟩ : ∃ n2, n2 = (putM k.marks ⟨f, n, x.u⟩).length := ⟨_, rfl⟩
      rw [← hn2] at HT4 P2 Q1 ⊢
      clear hn2
      go_upto_region 7 with (fail)
      clear b0 b1 b2 b3 b4 b5 g3 g4 g5
      generalize w3.setCell ⟨w.heap.size, 4, none⟩ (.slice A2 n2 c2) = V3 at HT4 P2 Q1 ⊢
      obtain ⟨b0, b1, b2, b3, b4, b5, _, _, _, _, _, _⟩ := res_cells HT4.out.box
      obtain ⟨r0, r1, r2, r3, r4, r5, f0, f1, f2, f3, f4, f5⟩ := res_cells HT4.out.res
      have HC := Lib.hid (put6_blk (V := V3) (a' := .int .i64 k.id) (b' := .int .i64 k.time) (c' := .int .i64 k.next) (d' := .slice A10 n10 c10) (e' := .slice A2 n2 c2) (f' := .slice Ac k.inbox.length cc) HT4.out.res)
      have HD := Lib.hid (put6_below (V := V3) (B := w.heap.size) (R := w.heap.size + 1) (by omega) HT4.out.bel (.int .i64 k.id) (.int .i64 k.time) (.int .i64 k.next) (.slice A10 n10 c10) (.slice A2 n2 c2) (.slice Ac k.inbox.length cc))
      have HG := Lib.hid (show SeesK (put6 V3 (w.heap.size + 1) (.int .i64 k.id) (.int .i64 k.time) (.int .i64 k.next) (.slice A10 n10 c10) (.slice A2 n2 c2) (.slice Ac k.inbox.length cc)) (letS k i ⟨f, n, x.u⟩) (.slice A10 n10 c10) (.slice A2 n2 c2) (.slice Ac k.inbox.length cc) from
        ⟨OwnAt.sees (OwnAt.put6 (W := V3) Q1.out (R := w.heap.size + 1) (by omega) _ _ _ _ _ _), OwnAt.sees (OwnAt.put6 (W := V3) P2.out (R := w.heap.size + 1) (by omega) _ _ _ _ _ _), HS.out.inbox.later HD.out⟩)
      have HF1 := Lib.hid (From.own (w := w) (v0 := .slice (some ⟨g, 0, none⟩) k.held.length ca) Q1.out (by omega))
      have HF2 := Lib.hid (From.own (w := w) (v0 := .slice Ab k.marks.length cb) P2.out (by omega))
      clear HT4 P2 Q1
      go_wp2
      have x0 := HC.out.cell 0
      have x1 := HC.out.cell 1
      have x2 := HC.out.cell 2
      have x3 := HC.out.cell 3
      have x4 := HC.out.cell 4
      have x5 := HC.out.cell 5
      refine bodyPost_ret (v := .tuple #[kpV k.id k.time k.next (.slice A10 n10 c10) (.slice A2 n2 c2) (.slice Ac k.inbox.length cc), .bool true]) (by simp [results, Tryz.results176, go_sem, x0, x1, x2, x3, x4, x5]) rfl ⟨_, _, _, rfl, HG.out, HD.out, HF1.out, HF2.out, From.refl _ _⟩
  · rw [if_neg hce] at HPart
    go_cut [8] from 23 to 35 (fun p wx => p = .int .i64 i ∧ ∃ A10 n10 c10, Hid (CB w wx k (.slice A10 n10 c10) (.slice Ab k.marks.length cb) (.slice Ac k.inbox.length cc)) ∧ Hid (OwnAt ntS 131 W.heap.size wx (.slice A10 n10 c10) (cutL k.held i)) ∧ Hid (Blk wx NB 131 #[.int .i64 x.f, .int .i64 x.n, .int .i64 x.t, .int .i64 x.u, .string x.s]))
    case first =>
      go_region_law (first | (refine step_append_recs ntS (by decide) rfl (.tmp 23) (.tmp 27) 26 rfl W.heap.size 131 i0 _ 48 Tryz.underlying26 hi hz0 hz1 hz2 rfl _ 0 [] (by simp [Act.eval, Act.put]) hOE (some ⟨g, 0, none⟩) i ca (k.held.take i) (by simp [Act.eval, Act.put]) htl.symm ?_ (by unfold maxLen; omega) (by omega) (by simp) ?_; (exact rpart_take hg HCell.out HBA.out i); intro v9 w9 hown9 hgrow9; rw [Nat.zero_add, htl] at hown9; have D9 : Below W.heap.size W w9 := app_below (o := .cells #[] 131) (n := 0) (c := 0) ⟨hgrow9.os, hgrow9.tape, hgrow9.output, hgrow9.size, hgrow9.block⟩; have d9 := HF.out w9 D9; have z9 := D9.size; obtain ⟨A9, c9, e9⟩ := row_form hown9; subst e9) | (refine step_append_recs ntS (by decide) rfl (.tmp 28) (.tmp 33) 26 rfl W.heap.size 131 i0 _ 48 Tryz.underlying26 hi hz0 hz1 hz2 rfl (.slice A9 i c9) i ([] ++ (k.held.take i).flatMap (ntS).f) (by simp [Act.eval, Act.put]) hown9 (some ⟨g, (i + 1) * 5, none⟩) (k.held.length - (i + 1)) (ca - (i + 1)) (k.held.drop (i + 1)) (by simp [Act.eval, Act.put]) hdl.symm ?_ (by unfold maxLen; omega) (by omega) z9 ?_; (exact HPart.out _ D9); intro v10 w10 hown10 hgrow10; have D10 : Below W.heap.size W w10 := own_below D9 hown9 ⟨hgrow10.os, hgrow10.tape, hgrow10.output, hgrow10.size, hgrow10.block⟩ z9; have d10 := HF.out w10 D10; have e10' := HFz.out w10 D10; have HO10 := Lib.hid (ownAt_cut hown10 hlc); rw [hlc] at hown10; generalize (cutL k.held i).length = n10 at hown10; obtain ⟨A10, c10, e10⟩ := row_form hown10; subst e10; have HD10 := Lib.hid D10; clear hown9 hgrow9 hown10 hgrow10 d9 D9 D10 z9))
      all_goals
        have HTn := Lib.hid ((HT.out.later HD10.out).put3 (.slice A10 n10 c10))
        have HNn := Lib.hid ((HN0.out.below HD10.out hNlt).far (p := ⟨w.heap.size, 3, none⟩) (by show NB ≠ w.heap.size; omega) (.slice A10 n10 c10))
        have HP := Lib.hid (OwnAt.set HO10.out (p := ⟨w.heap.size, 3, none⟩) (by show w.heap.size < W.heap.size; omega) (.slice A10 n10 c10))
        go_wp2_with fail
        go_meet
        exact ⟨rfl, A10, n10, c10, HTn, HP, HNn⟩
    case rest =>
      obtain ⟨rfl, A10, n10, c10, HTn, HP, HNn⟩ := hcut
      clear b0 b1 b2 b3 b4 b5 g3 g4 g5 d5 hOE HN0
      obtain ⟨b0, b1, b2, b3, b4, b5, _, _, _, g3, g4, g5⟩ := res_cells HTn.out.box
      have m3 : wc.cell? ⟨NB, 3, none⟩ = some (.int .i64 x.u) := HNn.out.cell 3
      have hsn := HTn.out.sz
      go_wp2_with fail
      refine (HPM.out _ HTn.out.bel).mono ?_
      rintro e w3 ⟨vm, rfl, hO⟩
      obtain ⟨A2, c2, rfl⟩ := OwnR.form hO
      have hzw := hO.2.size
      have O2 : OwnAt mkS 164 wc.heap.size w3 (.slice A2 (putM k.marks ⟨f, n, x.u⟩).length c2) ((putM k.marks ⟨f, n, x.u⟩)) := hO.1
      have HT4 := Lib.hid ((HTn.out.later hO.2).put4 (.slice A2 (putM k.marks ⟨f, n, x.u⟩).length c2))
      have P2 := Lib.hid (OwnAt.set O2 (p := ⟨w.heap.size, 4, none⟩) (by show w.heap.size < wc.heap.size; omega) (.slice A2 (putM k.marks ⟨f, n, x.u⟩).length c2))
      have Q1 := Lib.hid (OwnAt.set (OwnAt.later HP.out hO.2) (p := ⟨w.heap.size, 4, none⟩) (by show w.heap.size < W.heap.size; omega) (.slice A2 (putM k.marks ⟨f, n, x.u⟩).length c2))
      clear b0 b1 b2 b3 b4 b5 g3 g4 g5 m3
      obtain ⟨b0, b1, b2, b3, b4, b5, _, _, _, g3, g4, g5⟩ := res_cells (HTn.out.later hO.2).box
      clear O2 hO HTn HP HNn HPM
      obtain ⟨n2, hn2⟩ : ∃ n2, n2 = (putM k.marks ⟨f, n, x.u⟩).length := ⟨_, rfl⟩
      rw [← hn2] at HT4 P2 Q1 ⊢
      clear hn2
      go_upto_region 7 with (fail)
      clear b0 b1 b2 b3 b4 b5 g3 g4 g5
      generalize w3.setCell ⟨w.heap.size, 4, none⟩ (.slice A2 n2 c2) = V3 at HT4 P2 Q1 ⊢
      obtain ⟨b0, b1, b2, b3, b4, b5, _, _, _, _, _, _⟩ := res_cells HT4.out.box
      obtain ⟨r0, r1, r2, r3, r4, r5, f0, f1, f2, f3, f4, f5⟩ := res_cells HT4.out.res
      have HC := Lib.hid (put6_blk (V := V3) (a' := .int .i64 k.id) (b' := .int .i64 k.time) (c' := .int .i64 k.next) (d' := .slice A10 n10 c10) (e' := .slice A2 n2 c2) (f' := .slice Ac k.inbox.length cc) HT4.out.res)
      have HD := Lib.hid (put6_below (V := V3) (B := w.heap.size) (R := w.heap.size + 1) (by omega) HT4.out.bel (.int .i64 k.id) (.int .i64 k.time) (.int .i64 k.next) (.slice A10 n10 c10) (.slice A2 n2 c2) (.slice Ac k.inbox.length cc))
      have HG := Lib.hid (show SeesK (put6 V3 (w.heap.size + 1) (.int .i64 k.id) (.int .i64 k.time) (.int .i64 k.next) (.slice A10 n10 c10) (.slice A2 n2 c2) (.slice Ac k.inbox.length cc)) (letS k i ⟨f, n, x.u⟩) (.slice A10 n10 c10) (.slice A2 n2 c2) (.slice Ac k.inbox.length cc) from
        ⟨OwnAt.sees (OwnAt.put6 (W := V3) Q1.out (R := w.heap.size + 1) (by omega) _ _ _ _ _ _), OwnAt.sees (OwnAt.put6 (W := V3) P2.out (R := w.heap.size + 1) (by omega) _ _ _ _ _ _), HS.out.inbox.later HD.out⟩)
      have HF1 := Lib.hid (From.own (w := w) (v0 := .slice (some ⟨g, 0, none⟩) k.held.length ca) Q1.out (by omega))
      have HF2 := Lib.hid (From.own (w := w) (v0 := .slice Ab k.marks.length cb) P2.out (by omega))
      clear HT4 P2 Q1
      go_wp2
      have x0 := HC.out.cell 0
      have x1 := HC.out.cell 1
      have x2 := HC.out.cell 2
      have x3 := HC.out.cell 3
      have x4 := HC.out.cell 4
      have x5 := HC.out.cell 5
      refine bodyPost_ret (v := .tuple #[kpV k.id k.time k.next (.slice A10 n10 c10) (.slice A2 n2 c2) (.slice Ac k.inbox.length cc), .bool true]) (by simp [results, Tryz.results176, go_sem, x0, x1, x2, x3, x4, x5]) rfl ⟨_, _, _, rfl, HG.out, HD.out, HF1.out, HF2.out, From.refl _ _⟩
end Go.Proofs.YtjmmojjjopjdpaaGreatDoor.kp

/-
  A region that draws its order, whose operations only read and whose callees turn nothing old: walked once, in the order of the text, in the class of worlds 'behind w nothing old has turned'.
-/
namespace Go.Proofs.YtjmmojjjopjdpaaGreatDoor.qa
open Go.RowKit
open Go.Proofs.YtjmmojjjopjdpaaGreatDoor.wd

/-- a world behind w in which nothing old has turned -/
structure After (w : World) where
  W : World
  h : Below w.heap.size w W

instance (w : World) : Inhabited (After w) := ⟨⟨w, Below.refl _ _⟩⟩

theorem region {P : Program} {id : Nat} {Q : Exit → Act → World → Prop} {a : Act} {w : World} {l : List Oper} (hm : P.follows .mixedOrders = true) (hB : Region.lexB .any l.toArray = true)
    (h : wpQuiet P l.toArray (fun w' => ∃ p : After w, w' = p.W) (fun a' => ∀ w', (∃ p : After w, w' = p.W) → Q .normal a' w') l a) : (Code.region id l.toArray true).wp P Q a w :=
  wp_region_quiet (C := fun w' => ∃ p : After w, w' = p.W) hm hB ⟨⟨_, (Below.refl _ w).drew⟩, rfl⟩ (by simpa using h)

section
variable {P : Program} {f : FuncId} {args : Array Value} {w : World} {v : Value}
/-- a callee's contract, met in a world of the class -/
theorem of_below {p : After w} (h : Calls P f args p.W fun e w' => e = .returned v ∧ Below p.W.heap.size p.W w') : Calls P f args p.W fun e w'' => e = .returned v ∧ ∃ q : After w, w'' = q.W :=
  h.mono fun _ w' ⟨he, hb⟩ => ⟨he, ⟨w', p.h.trans (hb.mono p.h.size)⟩, rfl⟩
theorem of_same {p : After w} (h : Calls P f args p.W fun e w' => e = .returned v ∧ p.W = w') : Calls P f args p.W fun e w'' => e = .returned v ∧ ∃ q : After w, w'' = q.W :=
  h.mono fun _ _ ⟨he, hb⟩ => ⟨he, p, hb.symm⟩
theorem cell {g i : Nat} (hg : g < w.heap.size) (h : w.cell? ⟨g, i, none⟩ = some v) (p : After w) : p.W.cell? ⟨g, i, none⟩ = some v := (p.h.cell (p := ⟨g, i, none⟩) hg).trans h
theorem blk {g : Nat} {t : TypeId} {cs : Array Value} (h : Blk w g t cs) (p : After w) : Blk p.W g t cs := h.below p.h h.lt
theorem blk_cell {g : Nat} {t : TypeId} {cs : Array Value} (h : Blk w g t cs) (i : Nat) {v : Value} (hv : cs[i]? = some v) (p : After w) : p.W.cell? ⟨g, i, none⟩ = some v := ((blk h p).cell i).trans hv
end
theorem three {w : World} {g : Nat} {t : TypeId} {a b c : Value} (h : Blk w g t #[a, b, c]) : (∀ p : After w, p.W.cell? ⟨g, 0, none⟩ = some a) ∧ (∀ p : After w, p.W.cell? ⟨g, 1, none⟩ = some b) ∧ (∀ p : After w, p.W.cell? ⟨g, 2, none⟩ = some c) :=
  ⟨fun p => (blk h p).cell 0, fun p => (blk h p).cell 1, fun p => (blk h p).cell 2⟩
theorem five {w : World} {g : Nat} {t : TypeId} {a b c d e : Value} (h : Blk w g t #[a, b, c, d, e]) : (∀ p : After w, p.W.cell? ⟨g, 0, none⟩ = some a) ∧ (∀ p : After w, p.W.cell? ⟨g, 1, none⟩ = some b) ∧ (∀ p : After w, p.W.cell? ⟨g, 2, none⟩ = some c) ∧ (∀ p : After w, p.W.cell? ⟨g, 3, none⟩ = some d) ∧ (∀ p : After w, p.W.cell? ⟨g, 4, none⟩ = some e) :=
  ⟨fun p => (blk h p).cell 0, fun p => (blk h p).cell 1, fun p => (blk h p).cell 2, fun p => (blk h p).cell 3, fun p => (blk h p).cell 4⟩
theorem six {w : World} {g : Nat} {t : TypeId} {a b c d e f : Value} (h : Blk w g t #[a, b, c, d, e, f]) : (∀ p : After w, p.W.cell? ⟨g, 0, none⟩ = some a) ∧ (∀ p : After w, p.W.cell? ⟨g, 1, none⟩ = some b) ∧ (∀ p : After w, p.W.cell? ⟨g, 2, none⟩ = some c) ∧ (∀ p : After w, p.W.cell? ⟨g, 3, none⟩ = some d) ∧ (∀ p : After w, p.W.cell? ⟨g, 4, none⟩ = some e) ∧ (∀ p : After w, p.W.cell? ⟨g, 5, none⟩ = some f) :=
  ⟨fun p => (blk h p).cell 0, fun p => (blk h p).cell 1, fun p => (blk h p).cell 2, fun p => (blk h p).cell 3, fun p => (blk h p).cell 4, fun p => (blk h p).cell 5⟩
end Go.Proofs.YtjmmojjjopjdpaaGreatDoor.qa

