/-
  At every message the program's NoteOk answers as the specification's, so the law returns true; no condition.
-/
import Derived.Test.YtekoghcgkmldgaaRows
import Derived.WalkKit
import Derived.ProofKit
import Derived.OpenShut
import Derived.ShutString
import Derived.ChangeOld
import Derived.Below
import Derived.Test.YtekoghcgkmldgaaIOk
import Derived.Test.YtekoghcgkmldgaaSOk
import Derived.Test.YtekoghcgkmldgaaNoteIn
namespace Go.Proofs.Ytekoghcgkmldgaa.fnExactNoteOk
open Go.ChangeShapes Go.WideShapes Go.ChangeAt Go.RowKit
open Go.ChangeMaps (open_string shut_string)
open Go.Proofs.Ytekoghcgkmldgaa.nb Go.Proofs.Ytekoghcgkmldgaa.ok
set_option linter.unusedVariables false

theorem own : ownKnob Try.prog.godebug = none := by kernel_rfl
theorem laidOut : laidOutB Try.prog = true := by kernel_rfl

theorem walk (f0 n0 t0 u0 : Int) (s0 : ByteArray) (hs0 : s0.size ≤ maxLen) (w : World) :
    Calls Try.prog 7 #[ok.note f0 n0 t0 u0 s0] w fun e w' => e = .returned (.bool true) ∧ Below w.heap.size w w' := by
  by_cases hg : 1048576 < s0.size
  · go_enter Try.func7, Try.ntmps7
    unfold note
    go_wp2_with fail
    refine (sz_any f0 n0 t0 u0 s0 _ hs0 _ (by omega) (by omega)).mono ?_
    rintro e w1 ⟨rfl, hB1⟩
    rw [if_pos (by omega)]
    have HB1 := Lib.hid (((Below.refl w.heap.size w).alloc (Nat.le_refl _) _).trans (hB1.mono (by simp)))
    clear hB1
    go_wp2
    go_ret
    exact ⟨rfl, HB1.out⟩
  have hz := (wd.Blk.new w 44 #[.int .i64 f0, .int .i64 n0, .int .i64 t0, .int .i64 u0, .string s0])
  have hB0 : Below w.heap.size w (w.alloc (.cells #[.int .i64 f0, .int .i64 n0, .int .i64 t0, .int .i64 u0, .string s0] 44)) := (Below.refl w.heap.size w).alloc (Nat.le_refl _) _
  have hpos : ¬ (1048576 : Int) - s0.size < 0 := by omega
  unfold note
  go_enter Try.func7, Try.ntmps7
  go_wp2_with fail
  generalize w.alloc (.cells #[.int .i64 f0, .int .i64 n0, .int .i64 t0, .int .i64 u0, .string s0] 44) = W at hz hB0 ⊢
  refine (sz_any f0 n0 t0 u0 s0 _ hs0 _ (by omega) (by omega)).mono ?_
  rintro e w1 ⟨rfl, hB1⟩
  rw [if_neg (by omega)]
  obtain ⟨c0, c1, c2, c3, c4, hlt⟩ := five (hz.below hB1 hz.lt)
  have hN1 := Lib.hid (hz.below hB1 hz.lt)
  have hB2 := hB0.trans (hB1.mono hB0.size)
  clear hB1 hB0 hz
  go_wp2_with fail
  refine (to_any f0 n0 t0 u0 s0 _).mono ?_
  rintro e w2 ⟨rfl, hB3⟩
  clear c0 c1 c2 c3 c4
  go_wp2_with fail
  refine (sok_any f0 n0 t0 u0 s0 _ hs0).mono ?_
  rintro e w3 ⟨rfl, hB4⟩
  have hB5 := hB3.trans (hB4.mono hB3.size)
  obtain ⟨c0, c1, c2, c3, c4, hlt3⟩ := five (hN1.out.below hB5 hlt)
  have hB6 := hB2.trans (hB5.mono hB2.size)
  clear hB3 hB4 hB5 hB2 hN1
  go_wp2_with fail
  refine (to_any f0 n0 t0 u0 s0 _).mono ?_
  rintro e w4 ⟨rfl, hB7⟩
  clear c0 c1 c2 c3 c4
  go_wp2_with fail
  refine (iok_any f0 n0 t0 u0 s0 _ hs0).mono ?_
  rintro e w5 ⟨rfl, hB8⟩
  have HB9 := Lib.hid (hB6.trans ((hB7.trans (hB8.mono hB7.size)).mono hB6.size))
  clear hB6 hB7 hB8
  go_wp2
  go_ret
  exact ⟨rfl, HB9.out⟩

set_option maxRecDepth 100000 in
theorem lifted (os : Os) (started : os.Started) (H : Type) (enc : TypeId × Value → H) :
    ReturnsInHanded {} Try.checked os 7 .any (Rows.fnExactNoteOkSpec.pre6 enc Try.prog Try.f7 Rows.fnExactNoteOkRow.domain false) (Rows.fnExactNoteOkSpec.post enc Try.prog Try.f7 false true false false) := by
  refine returnsInHanded_of_change (C := Try.checked) own started (by kernel_rfl) Try.func7
    (ChangeSpec.witness6 (enc := enc) (C := Try.checked) false ⟨#[], #[ok.note 0 0 0 0 ByteArray.empty], []⟩ 8 (by kernel_rfl) (by kernel_rfl) (by kernel_rfl) (by kernel_rfl)) ?_
  intro W base args ds gs before hval0 hW hcnd _
  have hval : ∀ (j : Nat) t v, Try.f7.params[j]? = some t → args[j]? = some v → Value.okWide Try.prog W .any base t v := hval0
  have hW' := hW
  obtain ⟨p, q, hA0, hV, rfl, hfz, hnd⟩ := hW
  have hA : DataW.TrodAll enc Try.prog W 0 (fun _ => true) true Try.f7.params.toList args.toList ds p := hA0
  rw [Try.params7] at hA hval
  obtain ⟨v0, vs0, d0, ds0, p0, q0, hargs, rfl, rfl, h0, r0⟩ := trodAll_cons hA
  obtain ⟨rfl, rfl, rfl⟩ := trodAll_nil r0
  obtain rfl : args = #[v0] := by cases args; simp_all
  obtain ⟨rfl, rfl⟩ := trodVars_none hV
  have k0 := h0
  have lt0 : ∀ x ∈ p0, x.block < W.heap.size := by obtain ⟨m, hm⟩ := k0; exact DataW.trod_lt m _ _ _ hm
  obtain ⟨f0, n0, t0, u0, s0, rfl, hs0⟩ := ok.note_in (hval 0 44 v0 rfl rfl) h0
  clear hA0 hval0
  refine (walk f0 n0 t0 u0 s0 hs0 W).mono fun e W' ⟨he, bel⟩ => ?_
  subst he
  exact ⟨_, rfl, _, _, _, [], _, [], hW', trodAll_mk1 (shut_bool Try.underlying4 _), (trodAll_cons_mk (Below.trod laidOut (by kernel_rfl) (of_decide_eq_true (by kernel_rfl)) k0 bel lt0) trodAll_mk0), rfl, bel.frame _, fun h => by cases h⟩

theorem over : Rows.fnExactNoteOkRow.holds Try.pinned (OpenSpec.ofChange Rows.fnExactNoteOkSpec) :=
  OpenClaim.holds_of_wide 7 Try.f7 rfl rfl rfl rfl rfl rfl rfl ⟨rfl, rfl, rfl, rfl, rfl⟩ rfl rfl rfl rfl rfl (by kernel_rfl) Try.func7 (by kernel_rfl)
    (of_decide_eq_true (by kernel_rfl)) (by unfold Func.isWrapper; first | (rw [if_pos (by decide +kernel)]; kernel_rfl) | (rw [if_neg (by decide +kernel)]; exact ⟨rfl, rfl⟩))
    (fun os started H enc _ => lifted os started H enc)

/-- ████ THE STATEMENT ████ -/
theorem proved : Rows.FnExactNoteOkSaid := over
#print axioms proved
end Go.Proofs.Ytekoghcgkmldgaa.fnExactNoteOk
