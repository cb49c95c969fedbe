/-
  At every text the program's MixCut answers as the specification's; the answer can be written over whole and keeps what was written behind another call: the law returns true; no condition.
-/
import Derived.Test.YtokajeomojlinaaRows
import Derived.WalkKit
import Derived.ProofKit
import Derived.OpenShut
import Derived.ShutString
import Derived.Test.YtokajeomojlinaaCutSpec2
import Derived.Test.YtokajeomojlinaaCutImpl4
import Derived.Test.YtokajeomojlinaaStrLists
import Derived.Below
import Derived.ChangeOld
namespace Go.Proofs.Ytokajeomojlinaa.fnExactMixCut
open Go.ChangeShapes Go.WideShapes Go.ChangeAt Go.RowKit
open Go.ChangeMaps (open_string shut_string)
open Go.Proofs.Ytokajeomojlinaa.wd Go.Proofs.Ytokajeomojlinaa.cp Go.Proofs.Ytokajeomojlinaa.ow Go.Proofs.Ytokajeomojlinaa.cs Go.Proofs.Ytokajeomojlinaa.ci Go.Proofs.Ytokajeomojlinaa.sl
set_option linter.unusedVariables false      -- a walk need not use every 'w<i>' (that an integer argument fits its kind)

theorem own : ownKnob Try.prog.godebug = none := by kernel_rfl

theorem walk (a0 : ByteArray) (w0 : a0.size ≤ maxLen) (w : World) :
    Calls Try.prog 13 #[.string a0] w fun e w' => e = .returned (.bool true) ∧ Below w.heap.size w w' := by
  unfold maxLen at w0
  by_cases hg0 : 1048576 < a0.size
  · go_enter Try.func13, Try.ntmps13
    go_wp2
    go_ret
    exact ⟨rfl, Below.refl _ _⟩
  have hsm : (cut a0).length ≤ 6 := by rw [cut_len]; exact cutN_le a0
  go_enter Try.func13, Try.ntmps13
  go_wp2_with fail
  refine (scut_any a0 (by omega) _).mono ?_
  rintro e w2 ⟨v2, rfl, hI2⟩
  go_wp2_with fail
  refine (icut_any a0 (by omega) _).mono ?_
  rintro e w3 ⟨v1, rfl, hI1⟩
  generalize hL : cut a0 = l at hsm hI2 hI1
  have HL := Lib.hid hL
  clear hL
  have hz1 := hI2.2.size
  go_wp2_with fail
  refine (eq_same _ _ _ l (sees_of_own hI1) ((sees_of_own hI2).later hI1.2) (by omega)).mono ?_
  rintro e w4 ⟨rfl, q, rfl⟩
  have hM : Own 9 w2 (w3.drewN q) v1 (l.map Value.string) := ⟨hI1.1, below_drewN' hI1.2 q⟩
  have HS2 := Lib.hid (sees_of_own hI2)
  have HM2 := Lib.hid hM.2
  have hlv1 : ∀ g, v1.ownBlock = some g → w2.heap.size ≤ g := fun g hg => (hM.lt hg).1
  have HB := Lib.hid (hI2.2.trans (hM.2.mono hI2.2.size))
  have hz2 := hM.2.size
  clear hI1 hI2
  generalize w3.drewN q = w4 at hM HM2 HB hz2 ⊢
  have hlm : (l.map Value.string).length = l.length := List.length_map _
  have hmk := mark_any hM 1 (by rw [hlm]; omega) (by omega) (by omega)
  rw [hlm] at hmk
  have HK := Lib.hid hmk
  clear hlm hmk hM
  go_wp2_with fail
  refine HK.out.mono ?_
  rintro e w5 ⟨rfl, hS5, hT5⟩
  have hB5 : Below w2.heap.size w4 w5 := hT5.below hlv1 hz2
  have hS25 : SeesS w5 v2 l := HS2.out.later (HM2.out.trans hB5)
  have HB5 := Lib.hid (HB.out.trans (hB5.mono hz1))
  clear HS2 HM2 HK hB5 hT5
  go_wp2_with fail
  refine (held_any _ _ _ _ hS5 (by omega) (by omega) (by omega)).mono ?_
  rintro e w6 ⟨rfl, hB6⟩
  have hS6 := hS5.later hB6
  have hS26 := hS25.later hB6
  have HB6 := Lib.hid (HB5.out.trans (hB6.mono HB5.out.size))
  clear hS5 hS25 hB6
  go_wp2_with fail
  refine (icut_any a0 (by omega) _).mono ?_
  rintro e w7 ⟨v3, rfl, hI3⟩
  rw [HL.out] at hI3
  have hS7 := hS6.later hI3.2
  have hS27 := hS26.later hI3.2
  have HB7 := Lib.hid (HB6.out.trans (hI3.2.mono HB6.out.size))
  have hS3 := sees_of_own hI3
  clear hS6 hS26 hI3
  go_wp2_with fail
  refine (eq_same _ _ _ l hS3 hS27 (by omega)).mono ?_
  rintro e w8 ⟨rfl, q', rfl⟩
  have hS8 := hS7.drewN q'
  have HB8 := Lib.hid (below_drewN' HB7.out q')
  clear hS3 hS27 hS7
  generalize w7.drewN q' = w8 at hS8 HB8 ⊢
  go_wp2_with fail
  refine (held_any _ _ _ _ hS8 (by omega) (by omega) (by omega)).mono ?_
  rintro e w9 ⟨rfl, hB9⟩
  have HB9 := Lib.hid (HB8.out.trans (hB9.mono HB8.out.size))
  clear hB9
  go_wp2
  go_ret
  exact ⟨rfl, HB9.out⟩

set_option maxRecDepth 100000 in
theorem lifted (os : Os) (started : os.Started) (H : Type) (enc : TypeId × Value → H) :
    ReturnsInHanded {} Try.checked os 13 .any (Rows.fnExactMixCutSpec.pre6 enc Try.prog Try.f13 Rows.fnExactMixCutRow.domain false) (Rows.fnExactMixCutSpec.post enc Try.prog Try.f13 false true false false) := by
  refine returnsInHanded_of_change (C := Try.checked) own started (by kernel_rfl) Try.func13
    (ChangeSpec.witness6 (enc := enc) (C := Try.checked) false ⟨#[], #[.string ByteArray.empty], []⟩ 8 (by kernel_rfl) (by kernel_rfl) (by kernel_rfl) (by kernel_rfl)) ?_
  intro W base args ds gs before hval0 hW hcnd _
  have hval : ∀ (j : Nat) t v, Try.f13.params[j]? = some t → args[j]? = some v → Value.okWide Try.prog W .any base t v := hval0
  have hW' := hW
  obtain ⟨p, q, hA0, hV, rfl, hfz, hnd⟩ := hW
  have hA : DataW.TrodAll enc Try.prog W 0 (fun _ => true) true Try.f13.params.toList args.toList ds p := hA0
  rw [Try.params13] at hA hval
  obtain ⟨v0, vs0, d0, ds0, p0, q0, hargs, rfl, rfl, h0, r0⟩ := trodAll_cons hA
  obtain ⟨rfl, rfl, rfl⟩ := trodAll_nil r0
  obtain rfl : args = #[v0] := by cases args; simp_all
  obtain ⟨rfl, rfl⟩ := trodVars_none hV
  obtain ⟨a0, rfl, rfl, rfl, w0⟩ := open_string Try.underlying9 (hval 0 9 v0 rfl rfl) h0
  clear hA0 hval0
  refine (walk a0 w0 W).mono fun e W' ⟨he, bel⟩ => ?_
  subst he
  exact ⟨_, rfl, _, _, _, [], _, [], hW', (trodAll_cons_mk (shut_bool Try.underlying4 _) trodAll_mk0), (trodAll_cons_mk (shut_string Try.underlying9 w0) trodAll_mk0), rfl, bel.frame _, fun h => by cases h⟩

theorem over : Rows.fnExactMixCutRow.holds Try.pinned (OpenSpec.ofChange Rows.fnExactMixCutSpec) :=
  OpenClaim.holds_of_wide 13 Try.f13 rfl rfl rfl rfl rfl rfl rfl ⟨rfl, rfl, rfl, rfl, rfl⟩ rfl rfl rfl rfl rfl (by kernel_rfl) Try.func13 (by kernel_rfl)
    (of_decide_eq_true (by kernel_rfl)) (by unfold Func.isWrapper; first | (rw [if_pos (by decide +kernel)]; kernel_rfl) | (rw [if_neg (by decide +kernel)]; exact ⟨rfl, rfl⟩))
    (fun os started H enc _ => lifted os started H enc)

/-- ████ THE STATEMENT ████ -/
theorem proved : Rows.FnExactMixCutSaid :=
  over
#print axioms proved
end Go.Proofs.Ytokajeomojlinaa.fnExactMixCut
