/-
  What lacks one block alone is decoded by every encoded block that combines it: impl.MixText gives the drawn text back: the law returns true for every two codes; no condition.
-/
import Derived.Test.YtokajeomojlinaaRows
import Derived.WalkKit
import Derived.ProofKit
import Derived.OpenShut
import Derived.ShutString
import Derived.ChangeOld
import Derived.Below
import Derived.Test.YtokajeomojlinaaOnePlain
import Derived.Test.YtokajeomojlinaaDraw3
namespace Go.Proofs.Ytokajeomojlinaa.fnMixOne
open Go.ChangeShapes Go.WideShapes Go.ChangeAt Go.RowKit
open Go.ChangeMaps (open_string shut_string)
open Go.Proofs.Ytokajeomojlinaa.wd Go.Proofs.Ytokajeomojlinaa.mp Go.Proofs.Ytokajeomojlinaa.cp Go.Proofs.Ytokajeomojlinaa.ow Go.Proofs.Ytokajeomojlinaa.cs Go.Proofs.Ytokajeomojlinaa.mi Go.Proofs.Ytokajeomojlinaa.ms Go.Proofs.Ytokajeomojlinaa.ci Go.Proofs.Ytokajeomojlinaa.dr Go.Proofs.Ytokajeomojlinaa.pp Go.Proofs.Ytokajeomojlinaa.ls
set_option linter.unusedVariables false

theorem own : ownKnob Try.prog.godebug = none := by kernel_rfl
theorem laidOut : laidOutB Try.prog = true := by kernel_rfl

/-- WHAT THE WALK IS TOLD OF A SLICE OF INTEGERS THAT CAME IN: it is nil; or it leads to a row of 'cap' cells, the numbers 'zs' (the first 'len' are its elements, the rest its spare room), each fitting its kind. -/
def IsRow (k : IntKind) (w : World) (a : Option Addr) (len cap : Nat) (zs : List Int) : Prop :=
  (a = none ∧ len = 0 ∧ cap = 0 ∧ zs = []) ∨
  ∃ x, a = some x ∧ len ≤ cap ∧ cap ≤ maxLen ∧ zs.length = cap ∧ (∀ i, i < zs.length → w.cell? (x.add i) = some (.int k (zs.getD i 0))) ∧ ∀ n ∈ zs, (Lit.int k n).wf = true

set_option maxRecDepth 100000 in
set_option maxHeartbeats 4000000 in
theorem walk (a0 : Option Addr) (len0 cap0 : Nat) (z0 : List Int) (a1 : Option Addr) (len1 cap1 : Nat) (z1 : List Int) (w : World) (w0 : IsRow .u8 w a0 len0 cap0 z0) (w1 : IsRow .u8 w a1 len1 cap1 z1) :
    Calls Try.prog 10 #[.slice a0 len0 cap0, .slice a1 len1 cap1] w fun e w' => e = .returned (.bool true) ∧ Below w.heap.size w w' := by
  obtain ⟨i0, hi, hz0, hz1, hz2⟩ := info_parts infoMixed
  obtain ⟨hb0, hl0, hm0⟩ := bytes_of_row w0
  obtain ⟨hb1, hl1, hm1⟩ := bytes_of_row w1
  clear w0 w1
  have hm0' : cap0 ≤ 9223372036854775807 := hm0
  have hm1' : cap1 ≤ 9223372036854775807 := hm1
  by_cases hg0 : 1048576 < len0
  · go_enter Try.func10, Try.ntmps10
    go_wp2
    go_ret
    exact ⟨rfl, Below.refl _ _⟩
  by_cases hg1 : 1048576 < len1
  · go_enter Try.func10, Try.ntmps10
    go_wp2
    go_ret
    exact ⟨rfl, Below.refl _ _⟩
  go_enter Try.func10, Try.ntmps10
  go_wp2_with fail
  refine (lbText_any _ _ _ _ hb0 hl0 hm0).mono ?_
  rintro e w1 ⟨t, rfl, ht0, ht1, hB1⟩
  have hb1' := Bytes_later hb1 hB1
  go_wp2_with fail
  refine (drawMixMake _ _ _ _ hb1' hl1 hm1).mono ?_
  rintro e w2 ⟨t', num, rfl, ht', n0, n1, hB2⟩
  have HB2 := Lib.hid (hB1.trans (hB2.mono hB1.size))
  clear hB1 hB2 hb1' hb1 hb0
  go_wp2_with fail
  refine (scut_any t (by omega) _).mono ?_
  rintro e w3 ⟨v1, rfl, hI1⟩
  obtain ⟨A1, c1, rfl, _⟩ := strs_form hI1
  have HB3 := Lib.hid (HB2.out.trans (hI1.2.mono HB2.out.size))
  have HCut := Lib.hid (cut_len t)
  rw [HCut.out]
  clear hI1 HB2
  have hls := mo_small (cutN t) num
  go_wp2_with fail
  refine (smo_any _ _ _).mono ?_
  rintro e w4 ⟨v2, rfl, hI2⟩
  obtain ⟨A2, c2, rfl, hc2⟩ := ints_form hI2
  have HC2 := Lib.hid hc2
  have HB4 := Lib.hid (HB3.out.trans (hI2.2.mono HB3.out.size))
  clear hc2 hI2 HB3
  by_cases hl0 : (mo (cutN t) num).length = 0
  · rw [hl0]
    go_wp2_with fail
    refine (imo_any _ _ _).mono ?_
    rintro e w5 ⟨v3, rfl, hI3⟩
    obtain ⟨A3, c3, rfl, _⟩ := ints_form hI3
    have HB5 := Lib.hid (HB4.out.trans (hI3.2.mono HB4.out.size))
    rw [hl0]
    clear hI3
    go_wp2
    go_ret
    exact ⟨rfl, HB5.out⟩
  have hd2 : (((mo (cutN t) num).length : Int) == 0) = false := by rw [beq_eq_false_iff_ne]; omega
  obtain ⟨g2, rfl, _, hg2, hcell2⟩ := HC2.out (by omega)
  have hat : len1 % (mo (cutN t) num).length < (mo (cutN t) num).length := Nat.mod_lt _ (by omega)
  have hmA := mo_at hat
  have hmem : (mo (cutN t) num).getD (len1 % (mo (cutN t) num).length) 0 ∈ mo (cutN t) num := by
    simp only [List.getD, List.getElem?_eq_getElem hat, Option.getD_some]
    exact List.getElem_mem hat
  have e2 := hcell2 _ hat
  generalize hA : len1 % (mo (cutN t) num).length = a at hat hmA hmem e2
  generalize (mo (cutN t) num).getD a 0 = y at hmA hmem e2
  obtain ⟨gn, rfl⟩ := Int.eq_ofNat_of_zero_le hmA.1
  have hAi : (len1 : Int) % ((mo (cutN t) num).length : Int) = (a : Int) := by rw [← hA]; rfl
  have HOne := Lib.hid (fun l hn h => one_known (l := l) hmem hn h)
  have HTx := Lib.hid (fun l h => txt_true ht0 ht1 (l := l) h)
  have hn6 := cutN_le t
  clear hcell2 HC2 hmem hA
  generalize (mo (cutN t) num).length = ln at hls hl0 hd2 hat hAi
  go_wp2_with fail
  refine (imake_any t (by omega) _ _).mono ?_
  rintro e w5 ⟨rfl, hB5⟩
  have HB5 := Lib.hid (HB4.out.trans (hB5.mono HB4.out.size))
  have hE : OwnZ 40 2 w5 (w5.alloc (.cells #[.int .i64 num, .string (mk t num)] 40)) (.slice (some ⟨w5.heap.size, 0, none⟩) 1 1) ((num, mk t num) :: fl t gn 0).length (((num, mk t num) :: fl t gn 0).flatMap mc) :=
    ⟨World.ownsRow_lit w5 #[.int .i64 num, .string (mk t num)] 1 (Nat.le_refl _) (by unfold maxLen; omega) rfl, (Below.refl _ _).alloc (Nat.le_refl _) _⟩
  have HE := Lib.hid hE
  clear hB5 HB4 hE e2 hAi hd2
  generalize hN : cutN t = n at hn6 hmA HOne HTx
  have HN := Lib.hid hN
  clear hN
  go_wp2
  go_loopw [11, 12] (fun v i wr => ∃ k : Nat, k ≤ n ∧ i = .int .i64 k ∧ OwnZ 40 2 w5 wr v ((num, mk t num) :: fl t gn k).length (((num, mk t num) :: fl t gn k).flatMap mc)) (fun _ i _ => (n + 1 : Nat) - (intOf i).toNat)
  case atStart => exact ⟨0, by omega, rfl, HE.out⟩
  case round =>
    obtain ⟨k, hk, rfl, hO⟩ := hrel
    clear HE
    by_cases hkn : k < n
    · have hfl := fl_len t gn k
      by_cases hkg : k = gn
      · have HF := Lib.hid (fl_f (t := t) hkg)
        subst hkg
        go_wp2
        go_roundw
        case rel => exact ⟨k + 1, by omega, by go_num, by rw [HF.out]; exact hO⟩
        case measure => simp [intOf]; omega
      · have HF := Lib.hid (fl_t (t := t) hkg)
        have hd3 : ((k : Int) != (gn : Int)) = true := by rw [bne_iff_ne]; omega
        have HFl := Lib.hid (show ((num, mk t num) :: fl t gn k).flatMap mc ++ mc ((k : Int), mk t k) = ((num, mk t num) :: (fl t gn k ++ [((k : Int), mk t k)])).flatMap mc by simp)
        have HLn := Lib.hid (show ((num, mk t num) :: (fl t gn k ++ [((k : Int), mk t k)])).length = ((num, mk t num) :: fl t gn k).length + 1 by simp)
        have hln : ((num, mk t num) :: fl t gn k).length ≤ 7 := by simp; omega
        generalize ((num, mk t num) :: fl t gn k).length = nn at hO hln HLn
        generalize ((num, mk t num) :: fl t gn k).flatMap mc = xs at hO HFl
        go_wp2_with fail
        refine (imake_any t (by omega) _ _).mono ?_
        rintro e w6 ⟨rfl, hB6⟩
        have hO6 := hO.later hB6
        clear hO hB6
        generalize mk t (k : Int) = X at HF HFl HLn
        go_wp2_with (at_builtin; refine wpList_append_own _ rfl _ _ 33 rfl w5.heap.size 40 i0 _ 2 24 Try.underlying33 hi hz0 hz1 hz2 rfl (by decide) _ _ _ rfl (hO6.1.alloc _) ⟨w6.heap.size, 0, none⟩ 1 1 (mc ((k : Int), X)) rfl rfl ?c1 ?c2 ?c3 ?c4 ?c5 ?_)
        case c1 => exact World.news_of_block (heap_alloc_new w6 _)
        case c2 => exact mc_one _
        case c3 => unfold maxLen; omega
        case c4 => omega
        case c5 => have := hO6.2.size; simp; omega
        intro v7 w7 hown hgrow _
        have R := Lib.hid (hO6.more hown hgrow)
        clear hown hgrow hO6
        go_wp2
        go_roundw
        case rel => exact ⟨k + 1, by omega, by go_num, by rw [HF.out, HLn.out, ← HFl.out]; exact R.out⟩
        case measure => simp [intOf]; omega
    · obtain rfl : k = n := by omega
      have hS := sees_mixed hO
      have hln : ((num, mk t num) :: fl t gn k).length ≤ 1048576 := by have := fl_len t gn k; simp; omega
      have hT : txt t.size ((num, mk t num) :: fl t gn k) = (t, true) := by
        rcases HTx.out ((num, mk t num) :: fl t gn k) (fun m hm => by
          rcases List.mem_cons.mp hm with rfl | hm
          · rfl
          · exact fl_TL t gn k m hm) with ⟨_, h⟩ | ⟨h, _⟩
        · exact h
        · have hon := HOne.out ((num, mk t num) :: fl t gn k) List.mem_cons_self (fun i hi hig => List.mem_cons_of_mem _ (fl_mem hi hig))
          rw [hon] at h; cases h
      have HT := Lib.hid hT
      have HB6 := Lib.hid (HB5.out.trans (hO.2.mono HB5.out.size))
      clear hT hO
      generalize (num, mk t num) :: fl t gn k = L at hS hln HT
      go_wp2_with fail
      refine (itext_any _ _ _ L hS hln).mono ?_
      rintro e w8 ⟨rfl, hB8⟩
      rw [HT.out]
      have HB8 := Lib.hid (HB6.out.trans (hB8.mono HB6.out.size))
      clear hB8 hS
      go_wp2
      go_ret
      exact ⟨rfl, HB8.out⟩

set_option maxRecDepth 100000 in
theorem lifted (os : Os) (started : os.Started) (H : Type) (enc : TypeId × Value → H) :
    ReturnsInHanded {} Try.checked os 10 .any (Rows.fnMixOneSpec.pre6 enc Try.prog Try.f10 Rows.fnMixOneRow.domain false) (Rows.fnMixOneSpec.post enc Try.prog Try.f10 false true false false) := by
  refine returnsInHanded_of_change (C := Try.checked) own started (by kernel_rfl) Try.func10
    (ChangeSpec.witness6 (enc := enc) (C := Try.checked) false ⟨#[], #[.slice none 0 0, .slice none 0 0], []⟩ 8 (by kernel_rfl) (by kernel_rfl) (by kernel_rfl) (by kernel_rfl)) ?_
  intro W base args ds gs before hval0 hW hcnd _
  have hval : ∀ (j : Nat) t v, Try.f10.params[j]? = some t → args[j]? = some v → Value.okWide Try.prog W .any base t v := hval0
  have hW' := hW
  obtain ⟨p, q, hA0, hV, rfl, hfz, hnd⟩ := hW
  have hA : DataW.TrodAll enc Try.prog W 0 (fun _ => true) true Try.f10.params.toList args.toList ds p := hA0
  rw [Try.params10] at hA hval
  obtain ⟨v0, vs0, d0, ds0, p0, q0, hargs, rfl, rfl, h0, r0⟩ := trodAll_cons hA
  obtain ⟨v1, vs1, d1, ds1, p1, q1, rfl, rfl, rfl, h1, r1⟩ := trodAll_cons r0
  obtain ⟨rfl, rfl, rfl⟩ := trodAll_nil r1
  obtain rfl : args = #[v0, v1] := by cases args; simp_all
  obtain ⟨rfl, rfl⟩ := trodVars_none hV
  obtain ⟨a0, len0, cap0, rfl⟩ := okWide_slice Try.underlying22 (hval 0 22 v0 rfl rfl)
  have k0 := h0
  have lt0 : ∀ x ∈ p0, x.block < W.heap.size := by obtain ⟨m, hm⟩ := k0; exact DataW.trod_lt m _ _ _ hm
  obtain ⟨z0, w0⟩ : ∃ zs, IsRow .u8 W a0 len0 cap0 zs := by
    obtain ⟨fuel, hf⟩ := h0
    rcases open_ints Try.underlying22 Try.underlying5 (by kernel_rfl) hf with ⟨hcs, _⟩ | ⟨x, l, c, zs, hcs, _, hl, hm, hz, _, hcell, hwz⟩
    · simp [Value.cells] at hcs
      obtain ⟨rfl, rfl, rfl⟩ := hcs
      exact ⟨[], .inl ⟨rfl, rfl, rfl, rfl⟩⟩
    · simp [Value.cells] at hcs
      obtain ⟨rfl, rfl, rfl⟩ := hcs
      exact ⟨zs, .inr ⟨_, rfl, hl, hm, by simpa using hz, hcell, hwz⟩⟩
  obtain ⟨a1, len1, cap1, rfl⟩ := okWide_slice Try.underlying22 (hval 1 22 v1 rfl rfl)
  have k1 := h1
  have lt1 : ∀ x ∈ p1, x.block < W.heap.size := by obtain ⟨m, hm⟩ := k1; exact DataW.trod_lt m _ _ _ hm
  obtain ⟨z1, w1⟩ : ∃ zs, IsRow .u8 W a1 len1 cap1 zs := by
    obtain ⟨fuel, hf⟩ := h1
    rcases open_ints Try.underlying22 Try.underlying5 (by kernel_rfl) hf with ⟨hcs, _⟩ | ⟨x, l, c, zs, hcs, _, hl, hm, hz, _, hcell, hwz⟩
    · simp [Value.cells] at hcs
      obtain ⟨rfl, rfl, rfl⟩ := hcs
      exact ⟨[], .inl ⟨rfl, rfl, rfl, rfl⟩⟩
    · simp [Value.cells] at hcs
      obtain ⟨rfl, rfl, rfl⟩ := hcs
      exact ⟨zs, .inr ⟨_, rfl, hl, hm, by simpa using hz, hcell, hwz⟩⟩
  clear hA0 hval0
  refine (walk a0 len0 cap0 z0 a1 len1 cap1 z1 W w0 w1).mono fun e W' ⟨he, bel⟩ => ?_
  subst he
  exact ⟨_, rfl, _, _, _, [], _, [], hW', trodAll_mk1 (shut_bool Try.underlying4 _), (trodAll_cons_mk (Below.trod laidOut (by kernel_rfl) (of_decide_eq_true (by kernel_rfl)) k0 bel lt0) (trodAll_cons_mk (Below.trod laidOut (by kernel_rfl) (of_decide_eq_true (by kernel_rfl)) k1 bel lt1) trodAll_mk0)), rfl, bel.frame _, fun h => by cases h⟩

theorem over : Rows.fnMixOneRow.holds Try.pinned (OpenSpec.ofChange Rows.fnMixOneSpec) :=
  OpenClaim.holds_of_wide 10 Try.f10 rfl rfl rfl rfl rfl rfl rfl ⟨rfl, rfl, rfl, rfl, rfl⟩ rfl rfl rfl rfl rfl (by kernel_rfl) Try.func10 (by kernel_rfl)
    (of_decide_eq_true (by kernel_rfl)) (by unfold Func.isWrapper; first | (rw [if_pos (by decide +kernel)]; kernel_rfl) | (rw [if_neg (by decide +kernel)]; exact ⟨rfl, rfl⟩))
    (fun os started H enc _ => lifted os started H enc)

/-- ████ THE STATEMENT ████ -/
theorem proved : Rows.FnMixOneSaid := over
#print axioms proved
end Go.Proofs.Ytokajeomojlinaa.fnMixOne
