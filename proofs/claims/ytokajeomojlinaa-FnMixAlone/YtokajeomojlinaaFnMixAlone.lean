/-
  A text is decoded from its own blocks, and not where one of them lacks: the law returns true for every two codes; no condition.
-/
import Derived.Test.YtokajeomojlinaaRows
import Derived.WalkKit
import Derived.ProofKit
import Derived.OpenShut
import Derived.ShutString
import Derived.ChangeOld
import Derived.Below
import Derived.Test.YtokajeomojlinaaAlonePlain
import Derived.Test.YtokajeomojlinaaCutImpl4
namespace Go.Proofs.Ytokajeomojlinaa.fnMixAlone
open Go.ChangeShapes Go.WideShapes Go.ChangeAt Go.RowKit
open Go.ChangeMaps (open_string shut_string)
open Go.Proofs.Ytokajeomojlinaa.wd Go.Proofs.Ytokajeomojlinaa.mp Go.Proofs.Ytokajeomojlinaa.cp Go.Proofs.Ytokajeomojlinaa.ow Go.Proofs.Ytokajeomojlinaa.cs Go.Proofs.Ytokajeomojlinaa.ci Go.Proofs.Ytokajeomojlinaa.sl Go.Proofs.Ytokajeomojlinaa.dr Go.Proofs.Ytokajeomojlinaa.pp Go.Proofs.Ytokajeomojlinaa.ls
set_option linter.unusedVariables false

theorem own : ownKnob Try.prog.godebug = none := by kernel_rfl
theorem laidOut : laidOutB Try.prog = true := by kernel_rfl

/-- WHAT THE WALK IS TOLD OF A SLICE OF INTEGERS THAT CAME IN: it is nil; or it leads to a row of 'cap' cells, the numbers 'zs' (the first 'len' are its elements, the rest its spare room), each fitting its kind. -/
def IsRow (k : IntKind) (w : World) (a : Option Addr) (len cap : Nat) (zs : List Int) : Prop :=
  (a = none ∧ len = 0 ∧ cap = 0 ∧ zs = []) ∨
  ∃ x, a = some x ∧ len ≤ cap ∧ cap ≤ maxLen ∧ zs.length = cap ∧ (∀ i, i < zs.length → w.cell? (x.add i) = some (.int k (zs.getD i 0))) ∧ ∀ n ∈ zs, (Lit.int k n).wf = true

set_option maxRecDepth 100000 in
set_option maxHeartbeats 4000000 in
theorem walk (a0 : Option Addr) (len0 cap0 : Nat) (z0 : List Int) (a1 : Option Addr) (len1 cap1 : Nat) (z1 : List Int) (w : World) (w0 : IsRow .u8 w a0 len0 cap0 z0) (w1 : IsRow .u8 w a1 len1 cap1 z1) :
    Calls Try.prog 8 #[.slice a0 len0 cap0, .slice a1 len1 cap1] w fun e w' => e = .returned (.bool true) ∧ Below w.heap.size w w' := by
  obtain ⟨i0, hi, hz0, hz1, hz2⟩ := info_parts infoMixed
  obtain ⟨hb0, hl0, hm0⟩ := bytes_of_row w0
  obtain ⟨hb1, hl1, hm1⟩ := bytes_of_row w1
  clear w0 w1
  have hm0' : cap0 ≤ 9223372036854775807 := hm0
  have hm1' : cap1 ≤ 9223372036854775807 := hm1
  by_cases hg0 : 1048576 < len0
  · go_enter Try.func8, Try.ntmps8
    go_wp2
    go_ret
    exact ⟨rfl, Below.refl _ _⟩
  by_cases hg1 : 1048576 < len1
  · go_enter Try.func8, Try.ntmps8
    go_wp2
    go_ret
    exact ⟨rfl, Below.refl _ _⟩
  go_enter Try.func8, Try.ntmps8
  go_wp2_with fail
  refine (lbText_any _ _ _ _ hb0 hl0 hm0).mono ?_
  rintro e w1 ⟨t, rfl, ht0, ht1, hB1⟩
  clear hb0 hb1
  have hn6 := cutN_le t
  have hn1 : 1 ≤ cutN t := by have := cutN_in ht0 ht1; omega
  have HCut := Lib.hid (cut_len t)
  have HAll := Lib.hid (show txt t.size (al t (cutN t)) = (t, true) by
    rcases txt_true ht0 ht1 (al_TL t (cutN t)) with ⟨_, h⟩ | ⟨h, _⟩
    · exact h
    · rw [al_known] at h; cases h)
  have hat : len1 % cutN t < cutN t := Nat.mod_lt _ (by omega)
  have HLess := Lib.hid (show txt t.size ((al t (cutN t)).take (len1 % cutN t) ++ (al t (cutN t)).drop (len1 % cutN t + 1)) = (⟨#[]⟩, false) by
    rcases txt_true ht0 ht1 (al_part_TL (t := t) (k := cutN t) (g := len1 % cutN t)) with ⟨h, _⟩ | ⟨_, h⟩
    · rw [less_known hat (al_less hat)] at h; cases h
    · exact h)
  have hAi : (len1 : Int) % (cutN t : Int) = ((len1 % cutN t : Nat) : Int) := by rfl
  have hdn : ((cutN t : Int) == 0) = false := by rw [beq_eq_false_iff_ne]; omega
  generalize hga : len1 % cutN t = ga at hat HLess hAi
  go_wp2_with fail
  refine (scut_any t (by omega) _).mono ?_
  rintro e w3 ⟨v1, rfl, hI1⟩
  obtain ⟨A1, c1, rfl, _⟩ := strs_form hI1
  have HB3 := Lib.hid (hB1.trans (hI1.2.mono hB1.size))
  rw [HCut.out]
  clear hI1 hB1 HCut hga
  generalize cutN t = n at *
  go_wp2
  go_loopw [7, 8] (fun v i wr => ∃ k : Nat, k ≤ n ∧ i = .int .i64 k ∧ OwnZ 40 2 w3 wr v (al t k).length ((al t k).flatMap mc)) (fun _ i _ => (n + 1 : Nat) - (intOf i).toNat)
  case atStart => exact ⟨0, by omega, rfl, OwnZ.empty w3⟩
  case round =>
    obtain ⟨k, hk, rfl, hO⟩ := hrel
    by_cases hkn : k < n
    · have HF := Lib.hid (al_on t k)
      have HFl := Lib.hid (show (al t k).flatMap mc ++ mc ((k : Int), mk t k) = (al t k ++ [((k : Int), mk t k)]).flatMap mc by simp)
      have HLn := Lib.hid (show (al t k ++ [((k : Int), mk t k)]).length = (al t k).length + 1 by simp)
      have hln : (al t k).length ≤ 7 := by rw [al_len]; omega
      generalize (al t k).length = nn at hO hln HLn
      generalize (al t k).flatMap mc = xs at hO HFl
      go_wp2_with fail
      refine (imake_any t (by omega) _ _).mono ?_
      rintro e w6 ⟨rfl, hB6⟩
      have hO6 := hO.later hB6
      clear hO hB6
      generalize mk t (k : Int) = X at HF HFl HLn
      go_wp2_with (at_builtin; refine wpList_append_own _ rfl _ _ 33 rfl w3.heap.size 40 i0 _ 2 24 Try.underlying33 hi hz0 hz1 hz2 rfl (by decide) _ _ _ rfl (hO6.1.alloc _) ⟨w6.heap.size, 0, none⟩ 1 1 (mc ((k : Int), X)) rfl rfl ?c1 ?c2 ?c3 ?c4 ?c5 ?_)
      case c1 => exact World.news_of_block (heap_alloc_new w6 _)
      case c2 => exact mc_one _
      case c3 => unfold maxLen; omega
      case c4 => omega
      case c5 => have := hO6.2.size; simp; omega
      intro v7 w7 hown hgrow _
      have R := Lib.hid (hO6.more hown hgrow)
      clear hown hgrow hO6
      go_wp2
      go_roundw
      case rel => exact ⟨k + 1, by omega, by go_num, by rw [HF.out, HLn.out, ← HFl.out]; exact R.out⟩
      case measure => simp [intOf]; omega
    · obtain rfl : k = n := by omega
      have hS := sees_mixed hO
      have HB6 := Lib.hid (HB3.out.trans (hO.2.mono HB3.out.size))
      have hln := al_len t k
      clear HB3
      go_wp2_with fail
      refine (itext_any _ _ _ _ hS (by omega)).mono ?_
      rintro e w8 ⟨rfl, hB8⟩
      rw [HAll.out]
      have hO8 := hO.later hB8
      have HB8 := Lib.hid (HB6.out.trans (hB8.mono HB6.out.size))
      clear hB8 hS hO HB6 HAll
      obtain ⟨A3, c3, rfl, hfm⟩ := hO8.form
      have hcp := own_cap hO8
      have hln2 := hln
      obtain ⟨b3, rfl, _, hb3, hcell3⟩ := hfm (by omega)
      clear hfm
      have HLess' := HLess
      clear HLess
      generalize al t k = L at *
      rw [hln] at hcp ⊢
      have hc3a : (k : Int) ≤ (c3 : Int) := by omega
      have hc3b : (c3 : Int) ≤ 9223372036854775807 := by omega
      go_wp2_with fail
      rw [hAi]
      have hOE : OwnZ 40 2 w8 _ _ 0 [] := OwnZ.empty w8
      have htl : (L.take ga).length = ga := by rw [List.length_take]; omega
      have hdl : (L.drop (ga + 1)).length = k - (ga + 1) := by rw [List.length_drop]; omega
      have hA0 : (0 : Int) ≤ (ga : Int) := by omega
      have hA1 : (ga : Int) ≤ (k : Int) := by omega
      have hA2 : (ga : Int) ≤ (c3 : Int) := by omega
      have hA3 : IntKind.i64.wrap ((ga : Int) + 1) = (ga : Int) + 1 := by rw [IntKind.wrap_i64]; omega
      have hA4 : (0 : Int) ≤ (ga : Int) + 1 := by omega
      have hA5 : (ga : Int) + 1 ≤ (k : Int) := by omega
      have hA6 : (ga : Int) + 1 ≤ (c3 : Int) := by omega
      by_cases hce : c3 = ga + 1
      · have hde : L.drop (ga + 1) = [] := List.drop_eq_nil_of_le (by omega)
        have HC := Lib.hid hce
        clear hce
        go_region_held3 (fun _ => True) (trivial) (first | (refine step_append_mixed rfl (.tmp 53) (.tmp 56) 33 rfl w8.heap.size 40 i0 _ 24 Try.underlying33 hi hz0 hz1 hz2 rfl _ 0 [] (by simp [Act.eval]) hOE.1 (some ⟨b3, 0, none⟩) ga c3 (L.take ga) (by simp [Act.eval]) htl.symm (part_take hb3 hcell3 hOE.2 ga) (by unfold maxLen; omega) (by omega) (by simp) ?_; intro v9 w9 hown9 hgrow9; have hO9 : OwnZ 40 2 w8 w9 v9 _ _ := (by first | exact hOE.grow hown9 hgrow9 | exact hOE.drew.grow hown9 hgrow9)) | (refine step_append_mixed rfl (.tmp 57) (.tmp 61) 33 rfl w8.heap.size 40 i0 _ 24 Try.underlying33 hi hz0 hz1 hz2 rfl v9 (0 + (L.take ga).length) ([] ++ (L.take ga).flatMap mc) (by simp [Act.eval]) hO9.1 (some ⟨b3, 0, none⟩) (k - (ga + 1)) (c3 - (ga + 1)) (L.drop (ga + 1)) (by simp [Act.eval]; exact HC.out) hdl.symm (part_none b3 hde) (by unfold maxLen; omega) (by omega) hO9.2.size ?_; intro v10 w10 hown10 hgrow10; have hO10 : OwnZ 40 2 w8 w10 v10 _ _ := (by first | exact hO9.grow hown10 hgrow10 | exact hO9.drew.grow hown10 hgrow10)))
        obtain ⟨L', hL', hO11⟩ : ∃ L', L' = L.take ga ++ L.drop (ga + 1) ∧ OwnZ 40 2 w8 w10 v10 L'.length (L'.flatMap mc) := ⟨_, rfl, by
          have e1 : 0 + (L.take ga).length + (L.drop (ga + 1)).length = (L.take ga ++ L.drop (ga + 1)).length := by simp
          have e2 : [] ++ (L.take ga).flatMap mc ++ (L.drop (ga + 1)).flatMap mc = (L.take ga ++ L.drop (ga + 1)).flatMap mc := by simp
          rw [← e1, ← e2]; exact hO10⟩
        rw [← hL'] at HLess'
        have hl' : L'.length ≤ 20 := by rw [hL', List.length_append, htl, hdl]; omega
        have hS10 := sees_mixed hO11
        have HB10 := Lib.hid (HB8.out.trans (hO11.2.mono HB8.out.size))
        clear hO11 hO10 hO9 hown9 hgrow9 hown10 hgrow10 hOE hL' hO8 hcell3 HB8
        go_wp2_with fail
        refine (itext_any _ _ _ _ hS10 (by omega)).mono ?_
        rintro e w11 ⟨rfl, hB11⟩
        rw [HLess'.out]
        have HB11 := Lib.hid (HB10.out.trans (hB11.mono HB10.out.size))
        clear hB11 hS10 HB10
        go_wp2
        go_ret
        exact ⟨rfl, HB11.out⟩
      · have HC := Lib.hid hce
        clear hce
        go_region_held3 (fun _ => True) (trivial) (first | (refine step_append_mixed rfl (.tmp 53) (.tmp 56) 33 rfl w8.heap.size 40 i0 _ 24 Try.underlying33 hi hz0 hz1 hz2 rfl _ 0 [] (by simp [Act.eval]) hOE.1 (some ⟨b3, 0, none⟩) ga c3 (L.take ga) (by simp [Act.eval]) htl.symm (part_take hb3 hcell3 hOE.2 ga) (by unfold maxLen; omega) (by omega) (by simp) ?_; intro v9 w9 hown9 hgrow9; have hO9 : OwnZ 40 2 w8 w9 v9 _ _ := (by first | exact hOE.grow hown9 hgrow9 | exact hOE.drew.grow hown9 hgrow9)) | (refine step_append_mixed rfl (.tmp 57) (.tmp 61) 33 rfl w8.heap.size 40 i0 _ 24 Try.underlying33 hi hz0 hz1 hz2 rfl v9 (0 + (L.take ga).length) ([] ++ (L.take ga).flatMap mc) (by simp [Act.eval]) hO9.1 (some ⟨b3, (ga + 1) * 2, none⟩) (k - (ga + 1)) (c3 - (ga + 1)) (L.drop (ga + 1)) (by simp [Act.eval]; exact HC.out) hdl.symm (part_drop hb3 hcell3 hO9.2 (by omega)) (by unfold maxLen; omega) (by omega) hO9.2.size ?_; intro v10 w10 hown10 hgrow10; have hO10 : OwnZ 40 2 w8 w10 v10 _ _ := (by first | exact hO9.grow hown10 hgrow10 | exact hO9.drew.grow hown10 hgrow10)))
        obtain ⟨L', hL', hO11⟩ : ∃ L', L' = L.take ga ++ L.drop (ga + 1) ∧ OwnZ 40 2 w8 w10 v10 L'.length (L'.flatMap mc) := ⟨_, rfl, by
          have e1 : 0 + (L.take ga).length + (L.drop (ga + 1)).length = (L.take ga ++ L.drop (ga + 1)).length := by simp
          have e2 : [] ++ (L.take ga).flatMap mc ++ (L.drop (ga + 1)).flatMap mc = (L.take ga ++ L.drop (ga + 1)).flatMap mc := by simp
          rw [← e1, ← e2]; exact hO10⟩
        rw [← hL'] at HLess'
        have hl' : L'.length ≤ 20 := by rw [hL', List.length_append, htl, hdl]; omega
        have hS10 := sees_mixed hO11
        have HB10 := Lib.hid (HB8.out.trans (hO11.2.mono HB8.out.size))
        clear hO11 hO10 hO9 hown9 hgrow9 hown10 hgrow10 hOE hL' hO8 hcell3 HB8
        go_wp2_with fail
        refine (itext_any _ _ _ _ hS10 (by omega)).mono ?_
        rintro e w11 ⟨rfl, hB11⟩
        rw [HLess'.out]
        have HB11 := Lib.hid (HB10.out.trans (hB11.mono HB10.out.size))
        clear hB11 hS10 HB10
        go_wp2
        go_ret
        exact ⟨rfl, HB11.out⟩

set_option maxRecDepth 100000 in
theorem lifted (os : Os) (started : os.Started) (H : Type) (enc : TypeId × Value → H) :
    ReturnsInHanded {} Try.checked os 8 .any (Rows.fnMixAloneSpec.pre6 enc Try.prog Try.f8 Rows.fnMixAloneRow.domain false) (Rows.fnMixAloneSpec.post enc Try.prog Try.f8 false true false false) := by
  refine returnsInHanded_of_change (C := Try.checked) own started (by kernel_rfl) Try.func8
    (ChangeSpec.witness6 (enc := enc) (C := Try.checked) false ⟨#[], #[.slice none 0 0, .slice none 0 0], []⟩ 8 (by kernel_rfl) (by kernel_rfl) (by kernel_rfl) (by kernel_rfl)) ?_
  intro W base args ds gs before hval0 hW hcnd _
  have hval : ∀ (j : Nat) t v, Try.f8.params[j]? = some t → args[j]? = some v → Value.okWide Try.prog W .any base t v := hval0
  have hW' := hW
  obtain ⟨p, q, hA0, hV, rfl, hfz, hnd⟩ := hW
  have hA : DataW.TrodAll enc Try.prog W 0 (fun _ => true) true Try.f8.params.toList args.toList ds p := hA0
  rw [Try.params8] at hA hval
  obtain ⟨v0, vs0, d0, ds0, p0, q0, hargs, rfl, rfl, h0, r0⟩ := trodAll_cons hA
  obtain ⟨v1, vs1, d1, ds1, p1, q1, rfl, rfl, rfl, h1, r1⟩ := trodAll_cons r0
  obtain ⟨rfl, rfl, rfl⟩ := trodAll_nil r1
  obtain rfl : args = #[v0, v1] := by cases args; simp_all
  obtain ⟨rfl, rfl⟩ := trodVars_none hV
  obtain ⟨a0, len0, cap0, rfl⟩ := okWide_slice Try.underlying22 (hval 0 22 v0 rfl rfl)
  have k0 := h0
  have lt0 : ∀ x ∈ p0, x.block < W.heap.size := by obtain ⟨m, hm⟩ := k0; exact DataW.trod_lt m _ _ _ hm
  obtain ⟨z0, w0⟩ : ∃ zs, IsRow .u8 W a0 len0 cap0 zs := by
    obtain ⟨fuel, hf⟩ := h0
    rcases open_ints Try.underlying22 Try.underlying5 (by kernel_rfl) hf with ⟨hcs, _⟩ | ⟨x, l, c, zs, hcs, _, hl, hm, hz, _, hcell, hwz⟩
    · simp [Value.cells] at hcs
      obtain ⟨rfl, rfl, rfl⟩ := hcs
      exact ⟨[], .inl ⟨rfl, rfl, rfl, rfl⟩⟩
    · simp [Value.cells] at hcs
      obtain ⟨rfl, rfl, rfl⟩ := hcs
      exact ⟨zs, .inr ⟨_, rfl, hl, hm, by simpa using hz, hcell, hwz⟩⟩
  obtain ⟨a1, len1, cap1, rfl⟩ := okWide_slice Try.underlying22 (hval 1 22 v1 rfl rfl)
  have k1 := h1
  have lt1 : ∀ x ∈ p1, x.block < W.heap.size := by obtain ⟨m, hm⟩ := k1; exact DataW.trod_lt m _ _ _ hm
  obtain ⟨z1, w1⟩ : ∃ zs, IsRow .u8 W a1 len1 cap1 zs := by
    obtain ⟨fuel, hf⟩ := h1
    rcases open_ints Try.underlying22 Try.underlying5 (by kernel_rfl) hf with ⟨hcs, _⟩ | ⟨x, l, c, zs, hcs, _, hl, hm, hz, _, hcell, hwz⟩
    · simp [Value.cells] at hcs
      obtain ⟨rfl, rfl, rfl⟩ := hcs
      exact ⟨[], .inl ⟨rfl, rfl, rfl, rfl⟩⟩
    · simp [Value.cells] at hcs
      obtain ⟨rfl, rfl, rfl⟩ := hcs
      exact ⟨zs, .inr ⟨_, rfl, hl, hm, by simpa using hz, hcell, hwz⟩⟩
  clear hA0 hval0
  refine (walk a0 len0 cap0 z0 a1 len1 cap1 z1 W w0 w1).mono fun e W' ⟨he, bel⟩ => ?_
  subst he
  exact ⟨_, rfl, _, _, _, [], _, [], hW', trodAll_mk1 (shut_bool Try.underlying4 _), (trodAll_cons_mk (Below.trod laidOut (by kernel_rfl) (of_decide_eq_true (by kernel_rfl)) k0 bel lt0) (trodAll_cons_mk (Below.trod laidOut (by kernel_rfl) (of_decide_eq_true (by kernel_rfl)) k1 bel lt1) trodAll_mk0)), rfl, bel.frame _, fun h => by cases h⟩

theorem over : Rows.fnMixAloneRow.holds Try.pinned (OpenSpec.ofChange Rows.fnMixAloneSpec) :=
  OpenClaim.holds_of_wide 8 Try.f8 rfl rfl rfl rfl rfl rfl rfl ⟨rfl, rfl, rfl, rfl, rfl⟩ rfl rfl rfl rfl rfl (by kernel_rfl) Try.func8 (by kernel_rfl)
    (of_decide_eq_true (by kernel_rfl)) (by unfold Func.isWrapper; first | (rw [if_pos (by decide +kernel)]; kernel_rfl) | (rw [if_neg (by decide +kernel)]; exact ⟨rfl, rfl⟩))
    (fun os started H enc _ => lifted os started H enc)

/-- ████ THE STATEMENT ████ -/
theorem proved : Rows.FnMixAloneSaid := over
#print axioms proved
end Go.Proofs.Ytokajeomojlinaa.fnMixAlone
