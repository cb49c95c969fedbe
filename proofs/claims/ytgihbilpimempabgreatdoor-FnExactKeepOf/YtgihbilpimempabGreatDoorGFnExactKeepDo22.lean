/-
  Merged texts: SEat.
-/
import Derived.Test.YtgihbilpimempabGreatDoorGFnExactKeepDo19
import Derived.Test.YtgihbilpimempabGreatDoorGFnExactKeepDo15
import Derived.Deep.CutRange
/-
  Contract of spec.l12Eat.
-/
namespace Go.Proofs.YtgihbilpimempabGreatDoor.kp
open Go.ChangeShapes Go.WideShapes Go.ChangeAt Go.RowKit
open Go.Proofs.YtgihbilpimempabGreatDoor.wd Go.Proofs.YtgihbilpimempabGreatDoor.ow Go.Proofs.YtgihbilpimempabGreatDoor.rl Go.Proofs.YtgihbilpimempabGreatDoor.ok Go.Proofs.YtgihbilpimempabGreatDoor.nb

set_option maxRecDepth 100000 in
set_option maxHeartbeats 4000000 in
/-- what is there, and is taken out -/
theorem eat_any (w : World) (k : Kp) (a b c : Value) (f n : Int) (i : Nat) (x : Nt) (h : SeesK w k a b c) (hl : k.held.length ≤ 1048576 ∧ k.marks.length ≤ 1048576 ∧ k.inbox.length ≤ 1048576) (hr : Room c) (hix : ixN k.inbox f n = (i : Nat)) (hx : k.inbox[i]? = some x) :
    Calls Tryz.prog 80 #[kpV k.id k.time k.next a b c, .int .i64 f, .int .i64 n] w (ResK w (eatS k i) true a b c) := by
  obtain ⟨hl1, hl2, hl3⟩ := hl
  obtain ⟨i0, hi, hz0, hz1, hz2⟩ := info_parts infoNote
  obtain ⟨Aa, ca, rfl, _⟩ := h.held
  obtain ⟨Ab, cb, rfl, _⟩ := h.marks
  have HS := Lib.hid h
  have hin := h.inbox
  have hil : i < k.inbox.length := (List.getElem?_eq_some_iff.1 hx).1
  obtain ⟨Ac, cc, rfl, hcc⟩ := hin
  rcases hcc with ⟨_, _, e⟩ | ⟨g, rfl, hg, hcell⟩
  · rw [e] at hil; simp at hil
  obtain ⟨_, _, _, e, hr1, hr2⟩ := hr
  injection e with e1 e2 e3
  subst e1; subst e2; subst e3
  have HIx := Lib.hid (fun V (hV : Below w.heap.size w V) => ixN_any V _ k.inbox f n (h.inbox.later hV) hl3)
  rw [hix] at HIx
  unfold IsI at HIx
  have HT := Lib.hid (CB.new w k (.slice Aa k.held.length ca) (.slice Ab k.marks.length cb) (.slice (some ⟨g, 0, none⟩) k.inbox.length cc))
  have HCell := Lib.hid hcell
  unfold maxLen at hr2
  have hA0 : (0 : Int) ≤ (i : Int) := by omega
  have hA2 : (i : Int) ≤ (cc : Int) := by omega
  have hA3 : IntKind.i64.wrap ((i : Int) + 1) = (i : Int) + 1 := by rw [IntKind.wrap_i64]; omega
  have hA4 : (0 : Int) ≤ (i : Int) + 1 := by omega
  have hA5 : (i : Int) + 1 ≤ (k.inbox.length : Int) := by omega
  have hA6 : (i : Int) + 1 ≤ (cc : Int) := by omega
  have hA7 : (k.inbox.length : Int) ≤ (cc : Int) := by omega
  have htl : (k.inbox.take i).length = i := by rw [List.length_take]; omega
  have hdl : (k.inbox.drop (i + 1)).length = k.inbox.length - (i + 1) := by rw [List.length_drop]
  clear h hcell hix hx
  go_enter Tryz.func80, Tryz.ntmps80
  go_upto_region 1 with (fail)
  generalize (w.alloc (.cells #[.int .i64 k.id, .int .i64 k.time, .int .i64 k.next, .slice Aa k.held.length ca, .slice Ab k.marks.length cb, .slice (some ⟨g, 0, none⟩) k.inbox.length cc] 29)).alloc (.cells #[.int .i64 0, .int .i64 0, .int .i64 0, .slice none 0 0, .slice none 0 0, .slice none 0 0] 29) = V at HT ⊢
  obtain ⟨b0, b1, b2, b3, b4, b5, _, _, _, g3, g4, g5⟩ := res_cells HT.out.box
  have hs1 := HT.out.sz
  go_wp2_with fail
  refine (HIx.out _ HT.out.bel).mono ?_
  rintro e w1 ⟨rfl, rfl⟩
  clear HIx
  go_upto_region 4 with (fail)
  have hOE : OwnAt ntS 74 V.heap.size (V.alloc (.cells #[] 74)) (.slice (some ⟨V.heap.size, 0, none⟩) 0 0) [] := ownAt_new (S := ntS) (t := 74) (B := V.heap.size) V (Nat.le_refl _)
  have HBA := Lib.hid (HT.out.bel.alloc HT.out.bel.size (.cells #[] 74))
  have HF := Lib.hid (fun W (hW : Below V.heap.size V W) => show W.cell? ⟨w.heap.size, 5, none⟩ = some (.slice (some ⟨g, 0, none⟩) k.inbox.length cc) from (res_cells (HT.out.box.below hW HT.out.box.lt)).2.2.2.2.2.1)
  have HFz := Lib.hid (fun W (hW : Below V.heap.size V W) => show W.frozen? ⟨w.heap.size, 5, none⟩ = false from (HT.out.box.below hW HT.out.box.lt).frozen 5)
  have d5 := HF.out _ ((Below.refl _ V).alloc (Nat.le_refl _) (.cells #[] 74))
  have HPart := Lib.hid (fun W (hW : Below V.heap.size V W) => show PartR ntS W (if cc = i + 1 then some ⟨g, 0, none⟩ else some ⟨g, (i + 1) * 5, none⟩) (cc - (i + 1)) (k.inbox.drop (i + 1)) from by
    by_cases hce : cc = i + 1
    · rw [if_pos hce]; exact rpart_none g (List.drop_eq_nil_of_le (by omega))
    · rw [if_neg hce]; exact rpart_drop hg HCell.out (HT.out.bel.trans (hW.mono HT.out.bel.size)) (i + 1))
  have hlc : i + (k.inbox.drop (i + 1)).length = (cutL k.inbox i).length := by unfold cutL; rw [List.length_append, htl]
  by_cases hce : cc = i + 1
  · have hif : (if cc = i + 1 then (some ⟨g, 0, none⟩ : Option Addr) else some ⟨g, (i + 1) * 5, none⟩) = some ⟨g, 0, none⟩ := if_pos hce
    rw [hif] at HPart
    clear hce
    go_cut [8] from 17 to 29 (fun p wx => p = .int .i64 i ∧ ∃ A10 n10 c10, Hid (CB w wx k (.slice Aa k.held.length ca) (.slice Ab k.marks.length cb) (.slice A10 n10 c10)) ∧ Hid (OwnAt ntS 74 V.heap.size wx (.slice A10 n10 c10) (cutL k.inbox i)))
    case first =>
      go_region_law (first | (refine step_append_recs ntS (by decide) rfl (.tmp 17) (.tmp 21) 26 rfl V.heap.size 74 i0 _ 48 Tryz.underlying26 hi hz0 hz1 hz2 rfl _ 0 [] (by simp [Act.eval, Act.put]) hOE (some ⟨g, 0, none⟩) i cc (k.inbox.take i) (by simp [Act.eval, Act.put]) htl.symm ?_ (by unfold maxLen; omega) (by omega) (by simp) ?_; (exact rpart_take hg HCell.out HBA.out i); intro v9 w9 hown9 hgrow9; rw [Nat.zero_add, htl] at hown9; have D9 : Below V.heap.size V w9 := app_below (o := .cells #[] 74) (n := 0) (c := 0) ⟨hgrow9.os, hgrow9.tape, hgrow9.output, hgrow9.size, hgrow9.block⟩; have d9 := HF.out w9 D9; have z9 := D9.size; obtain ⟨A9, c9, e9⟩ := row_form hown9; subst e9) | (refine step_append_recs ntS (by decide) rfl (.tmp 22) (.tmp 27) 26 rfl V.heap.size 74 i0 _ 48 Tryz.underlying26 hi hz0 hz1 hz2 rfl (.slice A9 i c9) i ([] ++ (k.inbox.take i).flatMap (ntS).f) (by simp [Act.eval, Act.put]) hown9 (some ⟨g, 0, none⟩) (k.inbox.length - (i + 1)) (cc - (i + 1)) (k.inbox.drop (i + 1)) (by simp [Act.eval, Act.put]) hdl.symm ?_ (by unfold maxLen; omega) (by omega) z9 ?_; (exact HPart.out _ D9); intro v10 w10 hown10 hgrow10; have D10 : Below V.heap.size V w10 := own_below D9 hown9 ⟨hgrow10.os, hgrow10.tape, hgrow10.output, hgrow10.size, hgrow10.block⟩ z9; have d10 := HF.out w10 D10; have e10' := HFz.out w10 D10; have HO10 := Lib.hid (ownAt_cut hown10 hlc); rw [hlc] at hown10; generalize (cutL k.inbox i).length = n10 at hown10; obtain ⟨A10, c10, e10⟩ := row_form hown10; subst e10; have HD10 := Lib.hid D10; clear hown9 hgrow9 hown10 hgrow10 d9 D9 D10 z9))
      all_goals
        have HTn := Lib.hid ((HT.out.later HD10.out).put5 (.slice A10 n10 c10))
        have HP := Lib.hid (OwnAt.set HO10.out (p := ⟨w.heap.size, 5, none⟩) (by show w.heap.size < V.heap.size; omega) (.slice A10 n10 c10))
        go_wp2_with fail
        go_meet
        exact ⟨rfl, A10, n10, c10, HTn, HP⟩
    case rest =>
      obtain ⟨rfl, A10, n10, c10, HTn, HP⟩ := hcut
      clear b0 b1 b2 b3 b4 b5 g3 g4 g5 d5 hOE
      obtain ⟨b0, b1, b2, b3, b4, b5, _, _, _, _, _, _⟩ := res_cells HTn.out.box
      obtain ⟨r0, r1, r2, r3, r4, r5, f0, f1, f2, f3, f4, f5⟩ := res_cells HTn.out.res
      have HC := Lib.hid (put6_blk (V := wc) (a' := .int .i64 k.id) (b' := .int .i64 k.time) (c' := .int .i64 k.next) (d' := .slice Aa k.held.length ca) (e' := .slice Ab k.marks.length cb) (f' := .slice A10 n10 c10) HTn.out.res)
      have HD := Lib.hid (put6_below (V := wc) (B := w.heap.size) (R := w.heap.size + 1) (by omega) HTn.out.bel (.int .i64 k.id) (.int .i64 k.time) (.int .i64 k.next) (.slice Aa k.held.length ca) (.slice Ab k.marks.length cb) (.slice A10 n10 c10))
      have HG := Lib.hid (show SeesK (put6 wc (w.heap.size + 1) (.int .i64 k.id) (.int .i64 k.time) (.int .i64 k.next) (.slice Aa k.held.length ca) (.slice Ab k.marks.length cb) (.slice A10 n10 c10)) (eatS k i) (.slice Aa k.held.length ca) (.slice Ab k.marks.length cb) (.slice A10 n10 c10) from
        ⟨HS.out.held.later HD.out, HS.out.marks.later HD.out, OwnAt.sees (OwnAt.put6 (W := wc) HP.out (R := w.heap.size + 1) (by omega) _ _ _ _ _ _)⟩)
      have HF := Lib.hid (From.own (w := w) (v0 := .slice (some ⟨g, 0, none⟩) k.inbox.length cc) HP.out (by omega))
      clear HTn HP
      go_wp2
      have x0 := HC.out.cell 0
      have x1 := HC.out.cell 1
      have x2 := HC.out.cell 2
      have x3 := HC.out.cell 3
      have x4 := HC.out.cell 4
      have x5 := HC.out.cell 5
      refine bodyPost_ret (v := .tuple #[kpV k.id k.time k.next (.slice Aa k.held.length ca) (.slice Ab k.marks.length cb) (.slice A10 n10 c10), .bool true]) (by simp [results, Tryz.results80, go_sem, x0, x1, x2, x3, x4, x5]) rfl ⟨_, _, _, rfl, HG.out, HD.out, From.refl _ _, From.refl _ _, HF.out⟩
  · rw [if_neg hce] at HPart
    go_cut [8] from 17 to 29 (fun p wx => p = .int .i64 i ∧ ∃ A10 n10 c10, Hid (CB w wx k (.slice Aa k.held.length ca) (.slice Ab k.marks.length cb) (.slice A10 n10 c10)) ∧ Hid (OwnAt ntS 74 V.heap.size wx (.slice A10 n10 c10) (cutL k.inbox i)))
    case first =>
      go_region_law (first | (refine step_append_recs ntS (by decide) rfl (.tmp 17) (.tmp 21) 26 rfl V.heap.size 74 i0 _ 48 Tryz.underlying26 hi hz0 hz1 hz2 rfl _ 0 [] (by simp [Act.eval, Act.put]) hOE (some ⟨g, 0, none⟩) i cc (k.inbox.take i) (by simp [Act.eval, Act.put]) htl.symm ?_ (by unfold maxLen; omega) (by omega) (by simp) ?_; (exact rpart_take hg HCell.out HBA.out i); intro v9 w9 hown9 hgrow9; rw [Nat.zero_add, htl] at hown9; have D9 : Below V.heap.size V w9 := app_below (o := .cells #[] 74) (n := 0) (c := 0) ⟨hgrow9.os, hgrow9.tape, hgrow9.output, hgrow9.size, hgrow9.block⟩; have d9 := HF.out w9 D9; have z9 := D9.size; obtain ⟨A9, c9, e9⟩ := row_form hown9; subst e9) | (refine step_append_recs ntS (by decide) rfl (.tmp 22) (.tmp 27) 26 rfl V.heap.size 74 i0 _ 48 Tryz.underlying26 hi hz0 hz1 hz2 rfl (.slice A9 i c9) i ([] ++ (k.inbox.take i).flatMap (ntS).f) (by simp [Act.eval, Act.put]) hown9 (some ⟨g, (i + 1) * 5, none⟩) (k.inbox.length - (i + 1)) (cc - (i + 1)) (k.inbox.drop (i + 1)) (by simp [Act.eval, Act.put]) hdl.symm ?_ (by unfold maxLen; omega) (by omega) z9 ?_; (exact HPart.out _ D9); intro v10 w10 hown10 hgrow10; have D10 : Below V.heap.size V w10 := own_below D9 hown9 ⟨hgrow10.os, hgrow10.tape, hgrow10.output, hgrow10.size, hgrow10.block⟩ z9; have d10 := HF.out w10 D10; have e10' := HFz.out w10 D10; have HO10 := Lib.hid (ownAt_cut hown10 hlc); rw [hlc] at hown10; generalize (cutL k.inbox i).length = n10 at hown10; obtain ⟨A10, c10, e10⟩ := row_form hown10; subst e10; have HD10 := Lib.hid D10; clear hown9 hgrow9 hown10 hgrow10 d9 D9 D10 z9))
      all_goals
        have HTn := Lib.hid ((HT.out.later HD10.out).put5 (.slice A10 n10 c10))
        have HP := Lib.hid (OwnAt.set HO10.out (p := ⟨w.heap.size, 5, none⟩) (by show w.heap.size < V.heap.size; omega) (.slice A10 n10 c10))
        go_wp2_with fail
        go_meet
        exact ⟨rfl, A10, n10, c10, HTn, HP⟩
    case rest =>
      obtain ⟨rfl, A10, n10, c10, HTn, HP⟩ := hcut
      clear b0 b1 b2 b3 b4 b5 g3 g4 g5 d5 hOE
      obtain ⟨b0, b1, b2, b3, b4, b5, _, _, _, _, _, _⟩ := res_cells HTn.out.box
      obtain ⟨r0, r1, r2, r3, r4, r5, f0, f1, f2, f3, f4, f5⟩ := res_cells HTn.out.res
      have HC := Lib.hid (put6_blk (V := wc) (a' := .int .i64 k.id) (b' := .int .i64 k.time) (c' := .int .i64 k.next) (d' := .slice Aa k.held.length ca) (e' := .slice Ab k.marks.length cb) (f' := .slice A10 n10 c10) HTn.out.res)
      have HD := Lib.hid (put6_below (V := wc) (B := w.heap.size) (R := w.heap.size + 1) (by omega) HTn.out.bel (.int .i64 k.id) (.int .i64 k.time) (.int .i64 k.next) (.slice Aa k.held.length ca) (.slice Ab k.marks.length cb) (.slice A10 n10 c10))
      have HG := Lib.hid (show SeesK (put6 wc (w.heap.size + 1) (.int .i64 k.id) (.int .i64 k.time) (.int .i64 k.next) (.slice Aa k.held.length ca) (.slice Ab k.marks.length cb) (.slice A10 n10 c10)) (eatS k i) (.slice Aa k.held.length ca) (.slice Ab k.marks.length cb) (.slice A10 n10 c10) from
        ⟨HS.out.held.later HD.out, HS.out.marks.later HD.out, OwnAt.sees (OwnAt.put6 (W := wc) HP.out (R := w.heap.size + 1) (by omega) _ _ _ _ _ _)⟩)
      have HF := Lib.hid (From.own (w := w) (v0 := .slice (some ⟨g, 0, none⟩) k.inbox.length cc) HP.out (by omega))
      clear HTn HP
      go_wp2
      have x0 := HC.out.cell 0
      have x1 := HC.out.cell 1
      have x2 := HC.out.cell 2
      have x3 := HC.out.cell 3
      have x4 := HC.out.cell 4
      have x5 := HC.out.cell 5
      refine bodyPost_ret (v := .tuple #[kpV k.id k.time k.next (.slice Aa k.held.length ca) (.slice Ab k.marks.length cb) (.slice A10 n10 c10), .bool true]) (by simp [results, Tryz.results80, go_sem, x0, x1, x2, x3, x4, x5]) rfl ⟨_, _, _, rfl, HG.out, HD.out, From.refl _ _, From.refl _ _, HF.out⟩
end Go.Proofs.YtgihbilpimempabGreatDoor.kp

