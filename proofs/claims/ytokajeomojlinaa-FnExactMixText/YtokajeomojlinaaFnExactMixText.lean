/-
  At every number and list the program's MixText answers as the specification's, and leaves the list as it was: the law returns true; no condition.
-/
import Derived.Test.YtokajeomojlinaaRows
import Derived.WalkKit
import Derived.ProofKit
import Derived.OpenShut
import Derived.ShutString
import Derived.ChangeOld
import Derived.Below
import Derived.Test.YtokajeomojlinaaExactIn
import Derived.Test.YtokajeomojlinaaTextS
namespace Go.Proofs.Ytokajeomojlinaa.fnExactMixText
open Go.ChangeShapes Go.WideShapes Go.ChangeAt Go.RowKit
open Go.ChangeMaps (open_string shut_string)
open Go.Proofs.Ytokajeomojlinaa.wd Go.Proofs.Ytokajeomojlinaa.mp Go.Proofs.Ytokajeomojlinaa.cp Go.Proofs.Ytokajeomojlinaa.ow Go.Proofs.Ytokajeomojlinaa.sl Go.Proofs.Ytokajeomojlinaa.pp Go.Proofs.Ytokajeomojlinaa.ls
set_option linter.unusedVariables false

theorem own : ownKnob Try.prog.godebug = none := by kernel_rfl
theorem laidOut : laidOutB Try.prog = true := by kernel_rfl

set_option maxRecDepth 100000 in
set_option maxHeartbeats 4000000 in
theorem walk (a0 : Int) (v1 : Value) (l1 : List ls.Mx) (w0 : (Lit.int .i64 a0).wf = true) (w : World) (w1 : ls.SeesL w v1 l1) :
    Calls Try.prog 16 #[.int .i64 a0, v1] w fun e w' => e = .returned (.bool true) ∧ Below w.heap.size w w' := by
  go_enter Try.func16, Try.ntmps16
  go_wp2_with fail
  refine (sz_any _ _ l1 w1).mono ?_
  rintro e w2 ⟨r, rfl, hr, hB2⟩
  have hS2 := w1.later hB2
  by_cases hr0 : r < 0
  · go_wp2
    go_ret
    exact ⟨rfl, hB2⟩
  have hl := hr (by omega)
  have HB2 := Lib.hid hB2
  clear hr hB2 w1
  go_wp2_with fail
  refine (to_any _ _ l1 hS2 hl).mono ?_
  rintro e w3 ⟨v3, rfl, hO3⟩
  have hS3 := hS2.later hO3.2
  have HB3 := Lib.hid (HB2.out.trans (hO3.2.mono HB2.out.size))
  clear hS2 HB2
  go_wp2_with fail
  refine (stext_any _ _ _ l1 (sees_mixed hO3) hl).mono ?_
  rintro e w4 ⟨rfl, hB4⟩
  have hS4 := hS3.later hB4
  have HB4 := Lib.hid (HB3.out.trans (hB4.mono HB3.out.size))
  generalize hx : txt a0 l1 = x
  have HX := Lib.hid hx
  obtain ⟨X, ok⟩ := x
  clear hx hS3 HB3 hB4 hO3
  go_wp2_with fail
  refine (to_any _ _ l1 hS4 hl).mono ?_
  rintro e w5 ⟨v5, rfl, hO5⟩
  have hS5 := hS4.later hO5.2
  have hM5 := sees_mixed hO5
  have HB5 := Lib.hid (HB4.out.trans (hO5.2.mono HB4.out.size))
  clear hS4 HB4 hO5
  go_wp2_with fail
  refine (itext_any _ _ _ l1 hM5 hl).mono ?_
  rintro e w6 ⟨rfl, hB6⟩
  rw [HX.out]
  have hS6 := hS5.later hB6
  have hM6 := hM5.later hB6
  have HB6 := Lib.hid (HB5.out.trans (hB6.mono HB5.out.size))
  clear hS5 hM5 hB6 HB5
  go_wp2_with fail
  refine (to_any _ _ l1 hS6 hl).mono ?_
  rintro e w7 ⟨v7, rfl, hO7⟩
  have hM7 := hM6.later hO7.2
  have HB7 := Lib.hid (HB6.out.trans (hO7.2.mono HB6.out.size))
  have hN7 := sees_mixed hO7
  clear hS6 hM6 hO7 HB6
  go_wp2_with fail
  refine (eqM_same _ _ _ l1 hM7 hN7 hl).mono ?_
  rintro e w8 ⟨rfl, hB8⟩
  have HB8 := Lib.hid (HB7.out.trans (hB8.mono HB7.out.size))
  clear hB8 hM7 hN7 HB7
  go_wp2
  go_ret
  exact ⟨rfl, HB8.out⟩

set_option maxRecDepth 100000 in
theorem lifted (os : Os) (started : os.Started) (H : Type) (enc : TypeId × Value → H) :
    ReturnsInHanded {} Try.checked os 16 .any (Rows.fnExactMixTextSpec.pre6 enc Try.prog Try.f16 Rows.fnExactMixTextRow.domain false) (Rows.fnExactMixTextSpec.post enc Try.prog Try.f16 false true false false) := by
  refine returnsInHanded_of_change (C := Try.checked) own started (by kernel_rfl) Try.func16
    (ChangeSpec.witness6 (enc := enc) (C := Try.checked) false ⟨#[], #[.int .i64 0, .slice none 0 0], []⟩ 8 (by kernel_rfl) (by kernel_rfl) (by kernel_rfl) (by kernel_rfl)) ?_
  intro W base args ds gs before hval0 hW hcnd _
  have hval : ∀ (j : Nat) t v, Try.f16.params[j]? = some t → args[j]? = some v → Value.okWide Try.prog W .any base t v := hval0
  have hW' := hW
  obtain ⟨p, q, hA0, hV, rfl, hfz, hnd⟩ := hW
  have hA : DataW.TrodAll enc Try.prog W 0 (fun _ => true) true Try.f16.params.toList args.toList ds p := hA0
  rw [Try.params16] at hA hval
  obtain ⟨v0, vs0, d0, ds0, p0, q0, hargs, rfl, rfl, h0, r0⟩ := trodAll_cons hA
  obtain ⟨v1, vs1, d1, ds1, p1, q1, rfl, rfl, rfl, h1, r1⟩ := trodAll_cons r0
  obtain ⟨rfl, rfl, rfl⟩ := trodAll_nil r1
  obtain rfl : args = #[v0, v1] := by cases args; simp_all
  obtain ⟨rfl, rfl⟩ := trodVars_none hV
  obtain ⟨a0, rfl, rfl, rfl, w0⟩ := open_int Try.underlying3 (hval 0 3 v0 rfl rfl) h0
  obtain ⟨A1, len1, cap1, rfl⟩ := okWide_slice Try.underlying47 (hval 1 47 v1 rfl rfl)
  have k1 := h1
  have lt1 : ∀ x ∈ p1, x.block < W.heap.size := by obtain ⟨m, hm⟩ := k1; exact DataW.trod_lt m _ _ _ hm
  obtain ⟨l1, w1⟩ : ∃ l, ls.SeesL W (.slice A1 len1 cap1) l := by
    obtain ⟨fuel, hf⟩ := h1
    obtain ⟨l, _, hl⟩ := ls.sees_in hf
    exact ⟨l, hl⟩
  clear hA0 hval0
  refine (walk a0 (.slice A1 len1 cap1) l1 w0 W w1).mono fun e W' ⟨he, bel⟩ => ?_
  subst he
  exact ⟨_, rfl, _, _, _, [], _, [], hW', trodAll_mk1 (shut_bool Try.underlying4 _), (trodAll_cons_mk (shut_int Try.underlying3 w0) (trodAll_cons_mk (Below.trod laidOut (by kernel_rfl) (of_decide_eq_true (by kernel_rfl)) k1 bel lt1) trodAll_mk0)), rfl, bel.frame _, fun h => by cases h⟩

theorem over : Rows.fnExactMixTextRow.holds Try.pinned (OpenSpec.ofChange Rows.fnExactMixTextSpec) :=
  OpenClaim.holds_of_wide 16 Try.f16 rfl rfl rfl rfl rfl rfl rfl ⟨rfl, rfl, rfl, rfl, rfl⟩ rfl rfl rfl rfl rfl (by kernel_rfl) Try.func16 (by kernel_rfl)
    (of_decide_eq_true (by kernel_rfl)) (by unfold Func.isWrapper; first | (rw [if_pos (by decide +kernel)]; kernel_rfl) | (rw [if_neg (by decide +kernel)]; exact ⟨rfl, rfl⟩))
    (fun os started H enc _ => lifted os started H enc)

/-- ████ THE STATEMENT ████ -/
theorem proved : Rows.FnExactMixTextSaid := over
#print axioms proved
end Go.Proofs.Ytokajeomojlinaa.fnExactMixText
