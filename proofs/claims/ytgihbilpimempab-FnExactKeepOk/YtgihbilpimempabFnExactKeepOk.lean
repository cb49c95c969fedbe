/-
  At every keep the program's KeepOk answers as the specification's and changes nothing of its argument: the law returns true; no condition.
-/
import Derived.Test.YtgihbilpimempabRows
import Derived.Test.YtgihbilpimempabKeepIn
import Derived.WalkKit
import Derived.ProofKit
import Derived.OpenShut
import Derived.ShutString
import Derived.ChangeOld
import Derived.Below
import Derived.Test.YtgihbilpimempabKeepIn
import Derived.Test.YtgihbilpimempabKeepEq
import Derived.Test.YtgihbilpimempabKeepOwn
import Derived.Test.YtgihbilpimempabKeepLaw
import Derived.Test.YtgihbilpimempabSKeep4
import Derived.Test.YtgihbilpimempabIKeepOk
namespace Go.Proofs.Ytgihbilpimempab.fnExactKeepOk
open Go.ChangeShapes Go.WideShapes Go.ChangeAt Go.RowKit
open Go.ChangeMaps (open_string shut_string)
open Go.Proofs.Ytgihbilpimempab.wd Go.Proofs.Ytgihbilpimempab.kp
set_option linter.unusedVariables false

theorem own : ownKnob Try.prog.godebug = none := by kernel_rfl
theorem laidOut : laidOutB Try.prog = true := by kernel_rfl

set_option maxRecDepth 100000 in
set_option maxHeartbeats 4000000 in
set_option maxRecDepth 100000 in
set_option maxHeartbeats 4000000 in
theorem walk (k : kp.Kp) (vh vm vi : Value) (w : World) (hK : kp.InK w k vh vm vi) :
    Calls Try.prog 4 #[kp.kpV k.id k.time k.next vh vm vi] w fun e w' => e = .returned (.bool true) ∧ Below w.heap.size w w' := by
  have HK := Lib.hid hK
  have HZ := Lib.hid (And.intro hK.heldS hK.inboxS)
  obtain ⟨Ah, ch, rfl, _⟩ := hK.held
  obtain ⟨Am, cm, rfl, _⟩ := hK.marks
  obtain ⟨Ai, ci, rfl, _⟩ := hK.inbox
  have x0 : LBox _ _ k (.slice Ah k.held.length ch) (.slice Am k.marks.length cm) (.slice Ai k.inbox.length ci) := Blk.new w 33 #[.int .i64 k.id, .int .i64 k.time, .int .i64 k.next, (.slice Ah k.held.length ch), (.slice Am k.marks.length cm), (.slice Ai k.inbox.length ci)]
  have B0 := (Below.refl w.heap.size w).alloc (Nat.le_refl _) (.cells #[.int .i64 k.id, .int .i64 k.time, .int .i64 k.next, (.slice Ah k.held.length ch), (.slice Am k.marks.length cm), (.slice Ai k.inbox.length ci)] 33)
  clear hK
  go_enter Try.func4, Try.ntmps4
  go_wp2_with fail
  generalize w.alloc (.cells #[.int .i64 k.id, .int .i64 k.time, .int .i64 k.next, (.slice Ah k.held.length ch), (.slice Am k.marks.length cm), (.slice Ai k.inbox.length ci)] 33) = V at x0 B0 ⊢
  refine (szK_any _ k _ _ _ (HK.out.later B0)).mono ?_
  rintro e w1 ⟨r, rfl, hF, B1⟩
  have x1 := x0.below B1 x0.lt
  have HB1 := Lib.hid (B0.trans (B1.mono B0.size))
  clear x0 B0 B1
  by_cases hr : r < 0
  · clear x1 hF
    go_wp2
    go_ret
    exact ⟨rfl, HB1.out⟩
  have HF := Lib.hid (hF (by omega))
  have hr' := hr
  clear hF
  obtain ⟨p0, p1, p2, p3, p4, p5⟩ := LBox.cells x1
  have X1 := Lib.hid x1
  clear x1
  go_wp2_with fail
  refine (toK_any _ k _ _ _ (HK.out.later HB1.out) HF.out).mono ?_
  rintro e w2 ⟨a2, b2, c2, rfl, o2⟩
  have S2 := Lib.hid o2.sees
  have B2 := Lib.hid o2.bel
  clear p0 p1 p2 p3 p4 p5 o2 hr hr'
  have HS := Lib.hid (fun V a b c (h : SeesK V k a b c) => keepOk_any V k a b c h HF.out HZ.out)
  have HI := Lib.hid (fun V a b c (h : SeesK V k a b c) => ikeepOk_any V k a b c h HF.out HZ.out)
  unfold BoolK at HS HI
  generalize okK k = ans at HS HI
  go_wp2_with fail
  refine (HS.out _ _ _ _ S2.out).mono ?_
  rintro e w3 ⟨rfl, B3⟩
  have D3 := B2.out.trans (B3.mono B2.out.size)
  have x3 := X1.out.below D3 X1.out.lt
  have HB3 := Lib.hid (HB1.out.trans (D3.mono HB1.out.size))
  clear X1 HB1 S2 B2 B3 D3
  obtain ⟨p0, p1, p2, p3, p4, p5⟩ := LBox.cells x3
  have X3 := Lib.hid x3
  clear x3
  go_wp2_with fail
  refine (toK_any _ k _ _ _ (HK.out.later HB3.out) HF.out).mono ?_
  rintro e w4 ⟨a4, b4, c4, rfl, o4⟩
  clear p0 p1 p2 p3 p4 p5
  obtain ⟨A4, s4, rfl⟩ := OwnR.form o4.held
  obtain ⟨M4, t4, rfl⟩ := OwnR.form o4.marks
  obtain ⟨I4, u4, rfl⟩ := OwnR.form o4.inbox
  have B4 := (Below.refl w4.heap.size w4).alloc (Nat.le_refl _) (.cells #[.int .i64 k.id, .int .i64 k.time, .int .i64 k.next, (.slice A4 k.held.length s4), (.slice M4 k.marks.length t4), (.slice I4 k.inbox.length u4)] 25)
  have x4 : KBox _ _ k (.slice A4 k.held.length s4) (.slice M4 k.marks.length t4) (.slice I4 k.inbox.length u4) := Blk.new w4 25 #[.int .i64 k.id, .int .i64 k.time, .int .i64 k.next, (.slice A4 k.held.length s4), (.slice M4 k.marks.length t4), (.slice I4 k.inbox.length u4)]
  have D4 := o4.bel.trans (B4.mono o4.bel.size)
  have X0 := Lib.hid (X3.out.below D4 X3.out.lt)
  have HB4 := Lib.hid (HB3.out.trans (D4.mono HB3.out.size))
  have S4 := Lib.hid (o4.sees.later B4)
  have X4 := Lib.hid x4
  clear X3 HB3 o4 B4 x4 D4
  go_wp2_with fail
  generalize w4.alloc (.cells #[.int .i64 k.id, .int .i64 k.time, .int .i64 k.next, (.slice A4 k.held.length s4), (.slice M4 k.marks.length t4), (.slice I4 k.inbox.length u4)] 25) = V4 at X0 X4 HB4 S4 ⊢
  generalize w4.heap.size = R4 at X4 ⊢
  refine (HI.out _ _ _ _ S4.out).mono ?_
  rintro e w5 ⟨rfl, B5⟩
  have x0 := X0.out.below B5 X0.out.lt
  have x4 := X4.out.below B5 X4.out.lt
  have HB5 := Lib.hid (HB4.out.trans (B5.mono HB4.out.size))
  have S5 := Lib.hid (S4.out.later B5)
  clear X0 X4 HB4 S4 B5 HS HI
  obtain ⟨p0, p1, p2, p3, p4, p5⟩ := LBox.cells x0
  obtain ⟨q0, q1, q2, q3, q4, q5⟩ := KBox.cells x4
  have X4 := Lib.hid x4
  clear x0 x4
  have HT := Lib.hid (fun V' (hB : Below w5.heap.size w5 V') => toK_any V' k _ _ _ (HK.out.later (HB5.out.trans (hB.mono HB5.out.size))) HF.out)
  cases ans
  all_goals
    go_wp2_with fail
    go_region_with ((first | (go_at_call 13; refine (HT.out _ (by exact ⟨rfl, rfl, rfl, Nat.le_refl _, fun _ _ => rfl⟩)).mono ?_; rintro e w6 ⟨a6, b6, c6, rfl, o6⟩; have D6 : Below w5.heap.size w5 w6 := ⟨o6.bel.os, o6.bel.tape, o6.bel.output, o6.bel.size, o6.bel.block⟩; clear p0 p1 p2 p3 p4 p5 q0 q1 q2 q3 q4 q5; obtain ⟨q0, q1, q2, q3, q4, q5⟩ := KBox.cells (X4.out.below D6 X4.out.lt); have S6 := Lib.hid o6.sees; have T6 := Lib.hid (S5.out.later D6); have HB6 := Lib.hid (HB5.out.trans (D6.mono HB5.out.size)); clear o6 D6) | (go_at_call 8; have Z := eqK_same w6 k _ _ _ _ _ _ T6.out S6.out HF.out; refine Z.mono ?_; clear Z; rintro e w7 ⟨rfl, B7⟩; have HB7 := Lib.hid (HB6.out.trans (B7.mono HB6.out.size)); clear B7)))
    all_goals
      go_wp2
      go_ret
      exact ⟨rfl, HB7.out⟩

set_option maxRecDepth 100000 in
theorem lifted (os : Os) (started : os.Started) (H : Type) (enc : TypeId × Value → H) :
    ReturnsInHanded {} Try.checked os 4 .any (Rows.fnExactKeepOkSpec.pre6 enc Try.prog Try.f4 Rows.fnExactKeepOkRow.domain false) (Rows.fnExactKeepOkSpec.post enc Try.prog Try.f4 false true false false) := by
  refine returnsInHanded_of_change (C := Try.checked) own started (by kernel_rfl) Try.func4
    (ChangeSpec.witness6 (enc := enc) (C := Try.checked) false ⟨#[], #[kp.kpV 0 0 0 (.slice none 0 0) (.slice none 0 0) (.slice none 0 0)], []⟩ 8 (by kernel_rfl) (by kernel_rfl) (by kernel_rfl) (by kernel_rfl)) ?_
  intro W base args ds gs before hval0 hW hcnd _
  have hval : ∀ (j : Nat) t v, Try.f4.params[j]? = some t → args[j]? = some v → Value.okWide Try.prog W .any base t v := hval0
  have hW' := hW
  obtain ⟨p, q, hA0, hV, rfl, hfz, hnd⟩ := hW
  have hA : DataW.TrodAll enc Try.prog W 0 (fun _ => true) true Try.f4.params.toList args.toList ds p := hA0
  rw [Try.params4] at hA hval
  obtain ⟨v0, vs0, d0, ds0, p0, q0, hargs, rfl, rfl, h0, r0⟩ := trodAll_cons hA
  obtain ⟨rfl, rfl, rfl⟩ := trodAll_nil r0
  obtain rfl : args = #[v0] := by cases args; simp_all
  obtain ⟨rfl, rfl⟩ := trodVars_none hV
  have k0 := h0
  have lt0 : ∀ x ∈ p0, x.block < W.heap.size := by obtain ⟨m, hm⟩ := k0; exact DataW.trod_lt m _ _ _ hm
  obtain ⟨k, vh, vm, vi, rfl, hK⟩ := kp.keep_in (hval 0 33 v0 rfl rfl) h0
  clear hA0 hval0
  refine (walk k vh vm vi W hK).mono fun e W' ⟨he, bel⟩ => ?_
  subst he
  exact ⟨_, rfl, _, _, _, [], _, [], hW', trodAll_mk1 (shut_bool Try.underlying4 _), (trodAll_cons_mk (Below.trod laidOut (by kernel_rfl) (of_decide_eq_true (by kernel_rfl)) k0 bel lt0) trodAll_mk0), rfl, bel.frame _, fun h => by cases h⟩

theorem over : Rows.fnExactKeepOkRow.holds Try.pinned (OpenSpec.ofChange Rows.fnExactKeepOkSpec) :=
  OpenClaim.holds_of_wide 4 Try.f4 rfl rfl rfl rfl rfl rfl rfl ⟨rfl, rfl, rfl, rfl, rfl⟩ rfl rfl rfl rfl rfl (by kernel_rfl) Try.func4 (by kernel_rfl)
    (of_decide_eq_true (by kernel_rfl)) (by unfold Func.isWrapper; first | (rw [if_pos (by decide +kernel)]; kernel_rfl) | (rw [if_neg (by decide +kernel)]; exact ⟨rfl, rfl⟩))
    (fun os started H enc _ => lifted os started H enc)

/-- ████ THE STATEMENT ████ -/
theorem proved : Rows.FnExactKeepOkSaid := over
#print axioms proved
end Go.Proofs.Ytgihbilpimempab.fnExactKeepOk
