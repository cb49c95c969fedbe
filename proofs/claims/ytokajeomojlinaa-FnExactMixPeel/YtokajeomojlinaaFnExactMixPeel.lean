/-
  At every number and list the program's MixPeel answers as the specification's, leaves the list as it was and keeps no part of it, and the answer can be written over whole and keeps what was written behind another call: the law returns true; no condition.
-/
import Derived.Test.YtokajeomojlinaaRows
import Derived.WalkKit
import Derived.ProofKit
import Derived.OpenShut
import Derived.ShutString
import Derived.ChangeOld
import Derived.Below
import Derived.Test.YtokajeomojlinaaExactIn
namespace Go.Proofs.Ytokajeomojlinaa.fnExactMixPeel
open Go.ChangeShapes Go.WideShapes Go.ChangeAt Go.RowKit
open Go.ChangeMaps (open_string shut_string)
open Go.Proofs.Ytokajeomojlinaa.wd Go.Proofs.Ytokajeomojlinaa.mp Go.Proofs.Ytokajeomojlinaa.cp Go.Proofs.Ytokajeomojlinaa.ow Go.Proofs.Ytokajeomojlinaa.sl Go.Proofs.Ytokajeomojlinaa.pp Go.Proofs.Ytokajeomojlinaa.ls
set_option linter.unusedVariables false

theorem own : ownKnob Try.prog.godebug = none := by kernel_rfl
theorem laidOut : laidOutB Try.prog = true := by kernel_rfl

set_option maxRecDepth 100000 in
set_option maxHeartbeats 4000000 in
theorem walk (a0 : Int) (v1 : Value) (l1 : List ls.Mx) (w0 : (Lit.int .i64 a0).wf = true) (w : World) (w1 : ls.SeesL w v1 l1) :
    Calls Try.prog 15 #[.int .i64 a0, v1] w fun e w' => e = .returned (.bool true) ∧ Below w.heap.size w w' := by
  go_enter Try.func15, Try.ntmps15
  go_wp2_with fail
  refine (sz_any _ _ l1 w1).mono ?_
  rintro e w2 ⟨r, rfl, hr, hB2⟩
  have hS2 := w1.later hB2
  by_cases hr0 : r < 0
  · go_wp2
    go_ret
    exact ⟨rfl, hB2⟩
  have hl := hr (by omega)
  have HB2 := Lib.hid hB2
  clear hr hB2 w1
  go_wp2_with fail
  refine (to_any _ _ l1 hS2 hl).mono ?_
  rintro e w3 ⟨v3, rfl, hO3⟩
  have hS3 := hS2.later hO3.2
  have HB3 := Lib.hid (HB2.out.trans (hO3.2.mono HB2.out.size))
  clear hS2 HB2
  go_wp2_with fail
  refine (speel_any _ _ _ l1 (sees_mixed hO3) hl).mono ?_
  rintro e w4 ⟨v4, rfl, hI4⟩
  have hS4 := hS3.later hI4.2
  have hP4 := sees_of_own hI4
  have HB4 := Lib.hid (HB3.out.trans (hI4.2.mono HB3.out.size))
  have hz4 := HB4.out.size
  clear hS3 HB3 hI4 hO3
  have hsm : (peelL a0 l1).length ≤ 6 := by
    unfold peelL
    split
    · rw [strs_len]; omega
    · simp
  generalize hL : peelL a0 l1 = L at hP4 hsm
  have HL := Lib.hid hL
  have HS4 := Lib.hid hS4
  have HP4 := Lib.hid hP4
  clear hL
  go_wp2_with fail
  refine (to_any _ _ l1 hS4 hl).mono ?_
  rintro e w5 ⟨v5, rfl, hO5⟩
  have hS5 := hS4.later hO5.2
  have hP5 := hP4.later hO5.2
  clear hS4 hP4
  go_wp2_with fail
  refine (ipeel_any _ _ _ l1 (sees_mixed hO5) hl).mono ?_
  rintro e w6 ⟨v6, rfl, hI6⟩
  rw [HL.out] at hI6
  have hS6 := hS5.later hI6.2
  have hP6 := hP5.later hI6.2
  have hO6 := hO5.later hI6.2
  have hz5 := hO5.2.size
  have HB45 := Lib.hid hO5.2
  have hlo6 : ∀ g, v6.ownBlock = some g → w5.heap.size ≤ g := fun g hg => (hI6.1.lt g hg).1
  have hlo5 : ∀ g, v5.ownBlock = some g → w4.heap.size ≤ g ∧ g < w5.heap.size := fun g hg => hO5.1.lt g hg
  clear hS5 hP5 hO5
  go_wp2_with fail
  refine (eq_same _ _ _ L (sees_of_own hI6) hP6 (by omega)).mono ?_
  rintro e w7 ⟨rfl, q, rfl⟩
  have hS7 : SeesL (w6.drewN q) v1 l1 := hS6
  have hP7 : SeesS (w6.drewN q) v4 L := hP6
  have hO7 : OwnZ 40 2 w4 (w6.drewN q) v5 l1.length (l1.flatMap mc) := ⟨hO6.1, below_drewN' hO6.2 q⟩
  have hI7 : Own 9 w5 (w6.drewN q) v6 (L.map Value.string) := ⟨hI6.1, below_drewN' hI6.2 q⟩
  clear hS6 hP6 hO6 hI6
  generalize w6.drewN q = w7 at hS7 hP7 hO7 hI7 ⊢
  go_wp2_with fail
  refine (to_any _ _ l1 hS7 hl).mono ?_
  rintro e w8 ⟨v8, rfl, hO8⟩
  have hS8 := hS7.later hO8.2
  have hP8 := hP7.later hO8.2
  have hO58 := hO7.later hO8.2
  have hI8 : Own 9 w5 w8 v6 (L.map Value.string) := hI7.later hO8.2
  clear hS7 hP7 hO7 hI7
  go_wp2_with fail
  refine (eqM_same _ _ _ l1 (sees_mixed hO58) (sees_mixed hO8) hl).mono ?_
  rintro e w9 ⟨rfl, hB9⟩
  have hS9 := hS8.later hB9
  have hP9 := hP8.later hB9
  have hO9 := hO58.later hB9
  have hI9 : Own 9 w5 w9 v6 (L.map Value.string) := hI8.later hB9
  clear hS8 hP8 hO58 hI8 hB9 hO8
  have hB45 : Below w4.heap.size w4 w9 := hO9.2
  have hW5 : Below w4.heap.size w4 w5 := HB45.out
  have hI9' := hI9.from_ hW5
  clear hS9 hP9 hI9
  go_wp2_with fail
  refine (markM_any hO9 hl).mono ?_
  rintro e w10 ⟨rfl, hT10⟩
  have hB10 : Below w4.heap.size w9 w10 := hT10.below (fun g hg => (hlo5 g hg).1) hB45.size
  have hB410 := hB45.trans hB10
  have hI10 : Own 9 w4 w10 v6 (L.map Value.string) := ⟨hI9'.1.kept (row := v5.ownBlock) ⟨hT10.1, hT10.2.1, hT10.2.2.1, hT10.2.2.2.1, fun k hk hn => hT10.2.2.2.2 k hk hn⟩ (by
    cases hv : v6.ownBlock with
    | none => exact .inl rfl
    | some k => exact .inr (fun e => by have h1 := hlo6 k hv; have h2 := (hlo5 k e.symm).2; omega)), hB410⟩
  clear hI9' hO9 hB45 hB10 hT10
  have hn0 : ((1 + 2 * l1.length : Nat) : Int) < 0 ↔ False := ⟨fun h => by omega, fun h => h.elim⟩
  go_wp2_with fail
  refine (eq_same _ _ _ L (sees_of_own hI10) (HP4.out.later hB410) (by omega)).mono ?_
  rintro e w11 ⟨rfl, q2, rfl⟩
  have hI11 : Own 9 w4 (w10.drewN q2) v6 (L.map Value.string) := ⟨hI10.1, below_drewN' hB410 q2⟩
  clear hI10 hB410
  generalize w10.drewN q2 = w11 at hI11 ⊢
  have hlm : (L.map Value.string).length = L.length := List.length_map _
  have hmk := mark_any hI11 1 (by rw [hlm]; omega) (by omega) (by omega)
  rw [hlm] at hmk
  have HK := Lib.hid hmk
  have hB411 := hI11.2
  clear hlm hmk hI11
  go_wp2_with fail
  refine HK.out.mono ?_
  rintro e w12 ⟨rfl, hS12, hT12⟩
  have hB12 : Below w4.heap.size w11 w12 := hT12.below (fun g hg => Nat.le_trans hz5 (hlo6 g hg)) hB411.size
  have hB412 := hB411.trans hB12
  clear hT12 hB12 hB411 HK
  go_wp2_with fail
  refine (held_any _ _ _ _ hS12 (by omega) (by omega) (by omega)).mono ?_
  rintro e w13 ⟨rfl, hB13⟩
  have hS13 := hS12.later hB13
  have hB413 := hB412.trans (hB13.mono hB412.size)
  clear hS12 hB13 hB412
  go_wp2_with fail
  refine (to_any _ _ l1 (HS4.out.later hB413) hl).mono ?_
  rintro e w14 ⟨v14, rfl, hO14⟩
  have hS14 := hS13.later hO14.2
  have hB414 := hB413.trans (hO14.2.mono hB413.size)
  clear hS13 hB413
  go_wp2_with fail
  refine (ipeel_any _ _ _ l1 (sees_mixed hO14) hl).mono ?_
  rintro e w15 ⟨v15, rfl, hI15⟩
  rw [HL.out] at hI15
  have hS15 := hS14.later hI15.2
  have hB415 := hB414.trans (hI15.2.mono hB414.size)
  have hQ15 := sees_of_own hI15
  clear hS14 hB414 hO14 hI15
  go_wp2_with fail
  refine (eq_same _ _ _ L hQ15 (HP4.out.later hB415) (by omega)).mono ?_
  rintro e w16 ⟨rfl, q3, rfl⟩
  have hS16 : SeesS (w15.drewN q3) v6 (mts 1 L.length) := hS15
  have hB416 := below_drewN' hB415 q3
  clear hS15 hQ15 hB415
  generalize w15.drewN q3 = w16 at hS16 hB416 ⊢
  go_wp2_with fail
  refine (held_any _ _ _ _ hS16 (by omega) (by omega) (by omega)).mono ?_
  rintro e w17 ⟨rfl, hB17⟩
  have HB17 := Lib.hid (HB4.out.trans ((hB416.trans (hB17.mono hB416.size)).mono hz4))
  clear hB17 hS16 hB416
  go_wp2
  go_ret
  exact ⟨rfl, HB17.out⟩

set_option maxRecDepth 100000 in
theorem lifted (os : Os) (started : os.Started) (H : Type) (enc : TypeId × Value → H) :
    ReturnsInHanded {} Try.checked os 15 .any (Rows.fnExactMixPeelSpec.pre6 enc Try.prog Try.f15 Rows.fnExactMixPeelRow.domain false) (Rows.fnExactMixPeelSpec.post enc Try.prog Try.f15 false true false false) := by
  refine returnsInHanded_of_change (C := Try.checked) own started (by kernel_rfl) Try.func15
    (ChangeSpec.witness6 (enc := enc) (C := Try.checked) false ⟨#[], #[.int .i64 0, .slice none 0 0], []⟩ 8 (by kernel_rfl) (by kernel_rfl) (by kernel_rfl) (by kernel_rfl)) ?_
  intro W base args ds gs before hval0 hW hcnd _
  have hval : ∀ (j : Nat) t v, Try.f15.params[j]? = some t → args[j]? = some v → Value.okWide Try.prog W .any base t v := hval0
  have hW' := hW
  obtain ⟨p, q, hA0, hV, rfl, hfz, hnd⟩ := hW
  have hA : DataW.TrodAll enc Try.prog W 0 (fun _ => true) true Try.f15.params.toList args.toList ds p := hA0
  rw [Try.params15] at hA hval
  obtain ⟨v0, vs0, d0, ds0, p0, q0, hargs, rfl, rfl, h0, r0⟩ := trodAll_cons hA
  obtain ⟨v1, vs1, d1, ds1, p1, q1, rfl, rfl, rfl, h1, r1⟩ := trodAll_cons r0
  obtain ⟨rfl, rfl, rfl⟩ := trodAll_nil r1
  obtain rfl : args = #[v0, v1] := by cases args; simp_all
  obtain ⟨rfl, rfl⟩ := trodVars_none hV
  obtain ⟨a0, rfl, rfl, rfl, w0⟩ := open_int Try.underlying3 (hval 0 3 v0 rfl rfl) h0
  obtain ⟨A1, len1, cap1, rfl⟩ := okWide_slice Try.underlying47 (hval 1 47 v1 rfl rfl)
  have k1 := h1
  have lt1 : ∀ x ∈ p1, x.block < W.heap.size := by obtain ⟨m, hm⟩ := k1; exact DataW.trod_lt m _ _ _ hm
  obtain ⟨l1, w1⟩ : ∃ l, ls.SeesL W (.slice A1 len1 cap1) l := by
    obtain ⟨fuel, hf⟩ := h1
    obtain ⟨l, _, hl⟩ := ls.sees_in hf
    exact ⟨l, hl⟩
  clear hA0 hval0
  refine (walk a0 (.slice A1 len1 cap1) l1 w0 W w1).mono fun e W' ⟨he, bel⟩ => ?_
  subst he
  exact ⟨_, rfl, _, _, _, [], _, [], hW', trodAll_mk1 (shut_bool Try.underlying4 _), (trodAll_cons_mk (shut_int Try.underlying3 w0) (trodAll_cons_mk (Below.trod laidOut (by kernel_rfl) (of_decide_eq_true (by kernel_rfl)) k1 bel lt1) trodAll_mk0)), rfl, bel.frame _, fun h => by cases h⟩

theorem over : Rows.fnExactMixPeelRow.holds Try.pinned (OpenSpec.ofChange Rows.fnExactMixPeelSpec) :=
  OpenClaim.holds_of_wide 15 Try.f15 rfl rfl rfl rfl rfl rfl rfl ⟨rfl, rfl, rfl, rfl, rfl⟩ rfl rfl rfl rfl rfl (by kernel_rfl) Try.func15 (by kernel_rfl)
    (of_decide_eq_true (by kernel_rfl)) (by unfold Func.isWrapper; first | (rw [if_pos (by decide +kernel)]; kernel_rfl) | (rw [if_neg (by decide +kernel)]; exact ⟨rfl, rfl⟩))
    (fun os started H enc _ => lifted os started H enc)

/-- ████ THE STATEMENT ████ -/
theorem proved : Rows.FnExactMixPeelSaid := over
#print axioms proved
end Go.Proofs.Ytokajeomojlinaa.fnExactMixPeel
