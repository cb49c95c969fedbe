/-
  At every frame the program's FrameOk answers as the specification's, so the law returns true; no condition.
-/
import Derived.Test.YtgihbilpimempaaRows
import Derived.WalkKit
import Derived.ProofKit
import Derived.OpenShut
import Derived.ShutString
import Derived.ChangeOld
import Derived.Below
import Derived.Test.YtgihbilpimempaaIFr
import Derived.Test.YtgihbilpimempaaSFr
import Derived.Test.YtgihbilpimempaaFrIn
namespace Go.Proofs.Ytgihbilpimempaa.fnExactFrameOk
open Go.ChangeShapes Go.WideShapes Go.ChangeAt Go.RowKit
open Go.ChangeMaps (open_string shut_string)
open Go.Proofs.Ytgihbilpimempaa.nb Go.Proofs.Ytgihbilpimempaa.fr Go.Proofs.Ytgihbilpimempaa.wd
set_option linter.unusedVariables false

theorem own : ownKnob Try.prog.godebug = none := by kernel_rfl
theorem laidOut : laidOutB Try.prog = true := by kernel_rfl

set_option maxRecDepth 100000 in
set_option maxHeartbeats 4000000 in
theorem walk (F : fr.Fr) (hx : F.x.size ≤ maxLen) (w : World) :
    Calls Try.prog 6 #[fr.frv F] w fun e w' => e = .returned (.bool true) ∧ Below w.heap.size w w' := by
  have HSz := Lib.hid (fun V => szF_any F V hx 1048576 (by omega) (by omega))
  have HTo := Lib.hid (fun V => toF_any F V)
  have HS := Lib.hid (fun V => sfok_any F V hx)
  have HI := Lib.hid (fun V => ifok_any F V hx)
  have hz := Blk.new w 33 (fcs F)
  have hB0 : Below w.heap.size w (w.alloc (.cells (fcs F) 33)) := (Below.refl w.heap.size w).alloc (Nat.le_refl _) _
  generalize hb : okF F = b at HS HI
  clear hb
  obtain ⟨k, s, d, f, n, t, u, z, m, x⟩ := F
  unfold frv at HSz HTo HS HI
  unfold FramePost frv at HTo
  unfold SizePost at HSz
  unfold frv
  simp only at hx HSz HTo HS HI ⊢
  go_enter Try.func6, Try.ntmps6
  go_wp2_with fail
  generalize w.alloc (.cells (fcs ⟨k, s, d, f, n, t, u, z, m, x⟩) 33) = W at hz hB0 ⊢
  refine (HSz.out _).mono ?_
  rintro e w1 ⟨rfl, hB1⟩
  by_cases hg : (1048576 : Int) < x.size
  · rw [if_pos hg]
    have HB1 := Lib.hid (hB0.trans (hB1.mono hB0.size))
    clear hB1 hB0 hz
    go_wp2
    go_ret
    exact ⟨rfl, HB1.out⟩
  rw [if_neg hg]
  have hpos : ¬ (1048576 : Int) - x.size < 0 := by omega
  obtain ⟨c0, c1, c2, c3, c4, c5, c6, c7, c8, c9, hlt⟩ := ten (hz.below hB1 hz.lt)
  have hN1 := Lib.hid (hz.below hB1 hz.lt)
  have hB2 := hB0.trans (hB1.mono hB0.size)
  clear hB1 hB0 hz
  go_wp2_with fail
  refine (HTo.out _).mono ?_
  rintro e w2 ⟨rfl, hB3⟩
  clear c0 c1 c2 c3 c4 c5 c6 c7 c8 c9
  go_wp2_with fail
  refine (HS.out _).mono ?_
  rintro e w3 ⟨rfl, hB4⟩
  have hB5 := hB3.trans (hB4.mono hB3.size)
  obtain ⟨c0, c1, c2, c3, c4, c5, c6, c7, c8, c9, hlt3⟩ := ten (hN1.out.below hB5 hlt)
  have hB6 := hB2.trans (hB5.mono hB2.size)
  clear hB3 hB4 hB5 hB2 hN1
  go_wp2_with fail
  refine (HTo.out _).mono ?_
  rintro e w4 ⟨rfl, hB7⟩
  clear c0 c1 c2 c3 c4 c5 c6 c7 c8 c9
  go_wp2_with fail
  refine (HI.out _).mono ?_
  rintro e w5 ⟨rfl, hB8⟩
  have HB9 := Lib.hid (hB6.trans ((hB7.trans (hB8.mono hB7.size)).mono hB6.size))
  clear hB6 hB7 hB8
  go_wp2
  go_ret
  exact ⟨rfl, HB9.out⟩

set_option maxRecDepth 100000 in
theorem lifted (os : Os) (started : os.Started) (H : Type) (enc : TypeId × Value → H) :
    ReturnsInHanded {} Try.checked os 6 .any (Rows.fnExactFrameOkSpec.pre6 enc Try.prog Try.f6 Rows.fnExactFrameOkRow.domain false) (Rows.fnExactFrameOkSpec.post enc Try.prog Try.f6 false true false false) := by
  refine returnsInHanded_of_change (C := Try.checked) own started (by kernel_rfl) Try.func6
    (ChangeSpec.witness6 (enc := enc) (C := Try.checked) false ⟨#[], #[fr.frv fr.fr0], []⟩ 8 (by kernel_rfl) (by kernel_rfl) (by kernel_rfl) (by kernel_rfl)) ?_
  intro W base args ds gs before hval0 hW hcnd _
  have hval : ∀ (j : Nat) t v, Try.f6.params[j]? = some t → args[j]? = some v → Value.okWide Try.prog W .any base t v := hval0
  have hW' := hW
  obtain ⟨p, q, hA0, hV, rfl, hfz, hnd⟩ := hW
  have hA : DataW.TrodAll enc Try.prog W 0 (fun _ => true) true Try.f6.params.toList args.toList ds p := hA0
  rw [Try.params6] at hA hval
  obtain ⟨v0, vs0, d0, ds0, p0, q0, hargs, rfl, rfl, h0, r0⟩ := trodAll_cons hA
  obtain ⟨rfl, rfl, rfl⟩ := trodAll_nil r0
  obtain rfl : args = #[v0] := by cases args; simp_all
  obtain ⟨rfl, rfl⟩ := trodVars_none hV
  have k0 := h0
  have lt0 : ∀ x ∈ p0, x.block < W.heap.size := by obtain ⟨m, hm⟩ := k0; exact DataW.trod_lt m _ _ _ hm
  obtain ⟨F, rfl, hx⟩ := fr.frame_in (hval 0 33 v0 rfl rfl) h0
  clear hA0 hval0
  refine (walk F hx W).mono fun e W' ⟨he, bel⟩ => ?_
  subst he
  exact ⟨_, rfl, _, _, _, [], _, [], hW', trodAll_mk1 (shut_bool Try.underlying4 _), (trodAll_cons_mk (Below.trod laidOut (by kernel_rfl) (of_decide_eq_true (by kernel_rfl)) k0 bel lt0) trodAll_mk0), rfl, bel.frame _, fun h => by cases h⟩

theorem over : Rows.fnExactFrameOkRow.holds Try.pinned (OpenSpec.ofChange Rows.fnExactFrameOkSpec) :=
  OpenClaim.holds_of_wide 6 Try.f6 rfl rfl rfl rfl rfl rfl rfl ⟨rfl, rfl, rfl, rfl, rfl⟩ rfl rfl rfl rfl rfl (by kernel_rfl) Try.func6 (by kernel_rfl)
    (of_decide_eq_true (by kernel_rfl)) (by unfold Func.isWrapper; first | (rw [if_pos (by decide +kernel)]; kernel_rfl) | (rw [if_neg (by decide +kernel)]; exact ⟨rfl, rfl⟩))
    (fun os started H enc _ => lifted os started H enc)

/-- ████ THE STATEMENT ████ -/
theorem proved : Rows.FnExactFrameOkSaid := over
#print axioms proved
end Go.Proofs.Ytgihbilpimempaa.fnExactFrameOk
