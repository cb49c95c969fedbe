/-
  At every two ints the program's MixOf answers as the specification's; the answer can be written over whole and keeps what was written behind another call: the law returns true; no condition.
-/
import Derived.Test.YtokcodoejfcmpaaRows
import Derived.WalkKit
import Derived.ProofKit
import Derived.OpenShut
import Derived.ShutString
import Derived.Test.YtokcodoejfcmpaaMixOfLaws
import Derived.Below
import Derived.ChangeOld
namespace Go.Proofs.Ytokcodoejfcmpaa.fnExactMixOf
open Go.ChangeShapes Go.WideShapes Go.ChangeAt Go.RowKit
open Go.ChangeMaps (open_string shut_string)
open Go.Proofs.Ytokcodoejfcmpaa.mp Go.Proofs.Ytokcodoejfcmpaa.mb Go.Proofs.Ytokcodoejfcmpaa.mi Go.Proofs.Ytokcodoejfcmpaa.ms Go.Proofs.Ytokcodoejfcmpaa.wd Go.Proofs.Ytokcodoejfcmpaa.il Go.Proofs.Ytokcodoejfcmpaa.ml
set_option linter.unusedVariables false      -- a walk need not use every 'w<i>' (that an integer argument fits its kind)

theorem own : ownKnob Try.prog.godebug = none := by kernel_rfl

theorem walk (a0 : Int) (a1 : Int) (w0 : (Lit.int .i64 a0).wf = true) (w1 : (Lit.int .i64 a1).wf = true) (w : World) :
    Calls Try.prog 9 #[.int .i64 a0, .int .i64 a1] w fun e w' => e = .returned (.bool true) ∧ Below w.heap.size w w' := by
  have hsm := mo_small a0 a1
  go_enter Try.func9, Try.ntmps9
  go_wp2_with fail
  refine (smo_any _ _ _).mono ?_
  rintro e w2 ⟨v2, rfl, hI2⟩
  go_wp2_with fail
  refine (imo_any _ _ _).mono ?_
  rintro e w3 ⟨v1, rfl, hI1⟩
  go_wp2_with fail
  refine (eq_same _ _ _ (mo a0 a1) (ints_sees hI1) (ints_later hI2 hI1.2) (by omega)).mono ?_
  rintro e w4 ⟨rfl, q, rfl⟩
  go_wp2_with fail
  refine (mark_any (w3.drewN q) w2.heap.size v1 1 (mo a0 a1).length _ hI1.1 (by omega) (by omega) (by omega)).mono ?_
  rintro e w5 ⟨rfl, hS5, hT5⟩
  have hB5 : Below w2.heap.size w3 w5 := (below_drewN' (Below.refl _ _) q).trans (hT5.below (fun g hg => (hI1.1.lt g hg).1))
  have hz5 : w3.heap.size = w5.heap.size := hT5.2.2.2.1.symm
  have HZ := Lib.hid hz5
  have hS2 : Sees w5 v2 (mo a0 a1) := ints_later hI2 (hI1.2.trans hB5)
  have hv1 : ∀ g i, v1 = .slice (some ⟨g, 0, none⟩) (marks 1 (mo a0 a1).length).length i → g < w5.heap.size := fun g i e => by subst e; rw [← HZ.out]; exact (hI1.1.lt g rfl).2
  have hv2 : ∀ g i, v2 = .slice (some ⟨g, 0, none⟩) (mo a0 a1).length i → g < w5.heap.size := fun g i e => by
    subst e; have h1 := (hI2.1.lt g rfl).2; have h2 := hI1.2.size; rw [← HZ.out]; omega
  have HB := Lib.hid (hI2.2.trans ((hI1.2.trans hB5).mono hI2.2.size))
  have HV1 := Lib.hid hv1
  have HV2 := Lib.hid hv2
  clear hI1 hI2 hB5 hz5 hT5 hv1 hv2
  go_wp2_with fail
  refine (held_any _ _ _ _ hS5 (by omega) (by omega) (by omega)).mono ?_
  rintro e w6 ⟨rfl, rfl⟩
  go_wp2_with fail
  refine (imo_any _ _ _).mono ?_
  rintro e w7 ⟨v3, rfl, hI3⟩
  have hS7 := sees_below hS5 HV1.out hI3.2
  have hS7' := sees_below hS2 HV2.out hI3.2
  have HB7 := Lib.hid (HB.out.trans (hI3.2.mono HB.out.size))
  go_wp2_with fail
  refine (eq_same _ _ _ (mo a0 a1) (ints_sees hI3) hS7' (by omega)).mono ?_
  rintro e w8 ⟨rfl, q', rfl⟩
  clear hI3
  go_wp2_with fail
  refine (held_any _ _ _ _ (sees_drewN hS7 q') (by omega) (by omega) (by omega)).mono ?_
  rintro e w9 ⟨rfl, rfl⟩
  go_wp2
  go_ret
  exact ⟨rfl, below_drewN' HB7.out _⟩

set_option maxRecDepth 100000 in
theorem lifted (os : Os) (started : os.Started) (H : Type) (enc : TypeId × Value → H) :
    ReturnsInHanded {} Try.checked os 9 .any (Rows.fnExactMixOfSpec.pre6 enc Try.prog Try.f9 Rows.fnExactMixOfRow.domain false) (Rows.fnExactMixOfSpec.post enc Try.prog Try.f9 false true false false) := by
  refine returnsInHanded_of_change (C := Try.checked) own started (by kernel_rfl) Try.func9
    (ChangeSpec.witness6 (enc := enc) (C := Try.checked) false ⟨#[], #[.int .i64 0, .int .i64 0], []⟩ 8 (by kernel_rfl) (by kernel_rfl) (by kernel_rfl) (by kernel_rfl)) ?_
  intro W base args ds gs before hval0 hW hcnd _
  have hval : ∀ (j : Nat) t v, Try.f9.params[j]? = some t → args[j]? = some v → Value.okWide Try.prog W .any base t v := hval0
  have hW' := hW
  obtain ⟨p, q, hA0, hV, rfl, hfz, hnd⟩ := hW
  have hA : DataW.TrodAll enc Try.prog W 0 (fun _ => true) true Try.f9.params.toList args.toList ds p := hA0
  rw [Try.params9] at hA hval
  obtain ⟨v0, vs0, d0, ds0, p0, q0, hargs, rfl, rfl, h0, r0⟩ := trodAll_cons hA
  obtain ⟨v1, vs1, d1, ds1, p1, q1, rfl, rfl, rfl, h1, r1⟩ := trodAll_cons r0
  obtain ⟨rfl, rfl, rfl⟩ := trodAll_nil r1
  obtain rfl : args = #[v0, v1] := by cases args; simp_all
  obtain ⟨rfl, rfl⟩ := trodVars_none hV
  obtain ⟨a0, rfl, rfl, rfl, w0⟩ := open_int Try.underlying3 (hval 0 3 v0 rfl rfl) h0
  obtain ⟨a1, rfl, rfl, rfl, w1⟩ := open_int Try.underlying3 (hval 1 3 v1 rfl rfl) h1
  clear hA0 hval0
  refine (walk a0 a1 w0 w1 W).mono fun e W' ⟨he, bel⟩ => ?_
  subst he
  exact ⟨_, rfl, _, _, _, [], _, [], hW', (trodAll_cons_mk (shut_bool Try.underlying4 _) trodAll_mk0), (trodAll_cons_mk (shut_int Try.underlying3 w0) (trodAll_cons_mk (shut_int Try.underlying3 w1) trodAll_mk0)), rfl, bel.frame _, fun h => by cases h⟩

theorem over : Rows.fnExactMixOfRow.holds Try.pinned (OpenSpec.ofChange Rows.fnExactMixOfSpec) :=
  OpenClaim.holds_of_wide 9 Try.f9 rfl rfl rfl rfl rfl rfl rfl ⟨rfl, rfl, rfl, rfl, rfl⟩ rfl rfl rfl rfl rfl (by kernel_rfl) Try.func9 (by kernel_rfl)
    (of_decide_eq_true (by kernel_rfl)) (by unfold Func.isWrapper; first | (rw [if_pos (by decide +kernel)]; kernel_rfl) | (rw [if_neg (by decide +kernel)]; exact ⟨rfl, rfl⟩))
    (fun os started H enc _ => lifted os started H enc)

/-- ████ THE STATEMENT ████ -/
theorem proved : Rows.FnExactMixOfSaid :=
  over
#print axioms proved
end Go.Proofs.Ytokcodoejfcmpaa.fnExactMixOf
