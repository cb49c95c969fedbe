/-
  At every frame the program's FramePack answers as the specification's; the answer can be written over whole and keeps what was written behind another call: the law returns true; no condition.
-/
import Derived.Test.YtgihbilpimempaaRows
import Derived.WalkKit
import Derived.ProofKit
import Derived.OpenShut
import Derived.ShutString
import Derived.ChangeOld
import Derived.Below
import Derived.Test.YtgihbilpimempaaIPack2
import Derived.Test.YtgihbilpimempaaSPack
import Derived.Test.YtgihbilpimempaaFrIn
import Derived.Test.YtgihbilpimempaaFrBytes
namespace Go.Proofs.Ytgihbilpimempaa.fnExactFramePack
open Go.ChangeShapes Go.WideShapes Go.ChangeAt Go.RowKit
open Go.ChangeMaps (open_string shut_string)
open Go.Proofs.Ytgihbilpimempaa.nb Go.Proofs.Ytgihbilpimempaa.fr Go.Proofs.Ytgihbilpimempaa.wd Go.Proofs.Ytgihbilpimempaa.cp Go.Proofs.Ytgihbilpimempaa.ow
set_option linter.unusedVariables false

theorem own : ownKnob Try.prog.godebug = none := by kernel_rfl
theorem laidOut : laidOutB Try.prog = true := by kernel_rfl

set_option maxRecDepth 100000 in
set_option maxHeartbeats 4000000 in
theorem walk (F : fr.Fr) (hx : F.x.size ≤ maxLen) (w : World) :
    Calls Try.prog 8 #[fr.frv F] w fun e w' => e = .returned (.bool true) ∧ Below w.heap.size w w' := by
  have HSz := Lib.hid (fun V => szF_any F V hx 1048576 (by omega) (by omega))
  have HTo := Lib.hid (fun V => toF_any F V)
  have HS := Lib.hid (fun V => spack_any F V hx)
  have HI := Lib.hid (fun V => ipack_any F V hx)
  have hz := Blk.new w 33 (fcs F)
  have hB0 : Below w.heap.size w (w.alloc (.cells (fcs F) 33)) := (Below.refl w.heap.size w).alloc (Nat.le_refl _) _
  have hl := pk_len F
  generalize hb : pk F = l at HS HI hl
  clear hb
  obtain ⟨k, s, d, f, n, t, u, z, m, x⟩ := F
  unfold frv at HSz HTo HS HI
  unfold FramePost frv at HTo
  unfold SizePost at HSz
  unfold frv
  simp only at hx HSz HTo HS HI ⊢
  go_enter Try.func8, Try.ntmps8
  go_wp2_with fail
  generalize w.alloc (.cells (fcs ⟨k, s, d, f, n, t, u, z, m, x⟩) 33) = W at hz hB0 ⊢
  refine (HSz.out _).mono ?_
  rintro e w1 ⟨rfl, hB1⟩
  by_cases hg : (1048576 : Int) < x.size
  · rw [if_pos hg]
    have HB1 := Lib.hid (hB0.trans (hB1.mono hB0.size))
    clear hB1 hB0 hz
    go_wp2
    go_ret
    exact ⟨rfl, HB1.out⟩
  rw [if_neg hg]
  have hpos : ¬ (1048576 : Int) - x.size < 0 := by omega
  obtain ⟨c0, c1, c2, c3, c4, c5, c6, c7, c8, c9, hlt⟩ := ten (hz.below hB1 hz.lt)
  have hN1 := Lib.hid (hz.below hB1 hz.lt)
  have hB2 := Lib.hid (hB0.trans (hB1.mono hB0.size))
  clear hB1 hB0 hz
  go_wp2_with fail
  refine (HTo.out _).mono ?_
  rintro e w2 ⟨rfl, hB3⟩
  clear c0 c1 c2 c3 c4 c5 c6 c7 c8 c9
  go_wp2_with fail
  refine (HS.out _).mono ?_
  rintro e w3 ⟨A3, n3, p3, rfl, hO3⟩
  obtain ⟨hn3, hR3⟩ := own_rowN hO3
  subst hn3
  have hB5 := hB3.trans (hO3.2.mono hB3.size)
  obtain ⟨c0, c1, c2, c3, c4, c5, c6, c7, c8, c9, hlt3⟩ := ten (hN1.out.below hB5 hlt)
  have hN3 := Lib.hid (hN1.out.below hB5 hlt)
  have hB6 := Lib.hid (hB2.out.trans (hB5.mono hB2.out.size))
  have HR3 := Lib.hid hR3
  clear hB3 hB5 hB2 hN1 hO3 hR3 hlt
  go_wp2_with fail
  refine (HTo.out _).mono ?_
  rintro e w4 ⟨rfl, hB7⟩
  clear c0 c1 c2 c3 c4 c5 c6 c7 c8 c9
  have hN4 := Lib.hid (hN3.out.below hB7 hlt3)
  have HR4 := Lib.hid (HR3.out.later hB7)
  have hB8 := Lib.hid (hB6.out.trans (hB7.mono hB6.out.size))
  clear hN3 HR3 hB7 hB6 hlt3
  go_wp2_with fail
  refine (HI.out _).mono ?_
  rintro e w5 ⟨A5, n5, p5, rfl, hO5⟩
  obtain ⟨hn5, hR5⟩ := own_rowN hO5
  subst hn5
  have hN5 := Lib.hid (hN4.out.below hO5.2 hN4.out.lt)
  have HR45 := Lib.hid (HR4.out.later hO5.2)
  have hz4 := hB8.out.size
  have HO5 := Lib.hid hO5
  have HR5 := Lib.hid hR5
  have hw4 := hN4.out.lt
  clear hN4 hO5 hR5
  go_wp2_with fail
  refine (eqB_same _ _ _ _ _ l HR5.out HR45.out (by omega)).mono ?_
  rintro e w6 ⟨rfl, qq, rfl⟩
  have HO6 : Hid (Own 5 w4 (w5.drewN qq) (.slice A5 l.length p5) (l.map bv)) := ⟨HO5.out.1, below_drewN' HO5.out.2 qq⟩
  have hN6 : Hid (Blk (w5.drewN qq) w.heap.size 33 (fcs ⟨k, s, d, f, n, t, u, z, m, x⟩)) := hN5.out
  have HR46 : Hid (RowB (w5.drewN qq) A3 l) := HR45.out
  clear HO5 hN5 HR5 HR45
  generalize w5.drewN qq = w6 at HO6 hN6 HR46 ⊢
  have hlv : ∀ g, (Value.slice A5 l.length p5).ownBlock = some g → w4.heap.size ≤ g := fun g hg => (HO6.out.lt hg).1
  have hz6 := HO6.out.2.size
  go_wp2_with fail
  refine (markB_any HO6.out 1 (by omega) (by omega) (by omega)).mono ?_
  rintro e w7 ⟨rfl, hR7, hT7⟩
  have hB67 : Below w4.heap.size w6 w7 := hT7.below hlv hz6
  have hN7 := Lib.hid (hN6.out.below hB67 hw4)
  have hR47 := Lib.hid (HR4.out.later (HO6.out.2.trans hB67))
  have HB7 := Lib.hid (hB8.out.trans ((HO6.out.2.trans hB67).mono hz4))
  have HR7 := Lib.hid hR7
  clear hR7 hT7 hB67 HO6 hN6 HR46 HR4 hB8
  go_wp2_with fail
  refine (heldB_any _ _ _ _ 1 HR7.out (by omega) (by omega) (by omega)).mono ?_
  rintro e w8 ⟨rfl, rfl⟩
  obtain ⟨c0, c1, c2, c3, c4, c5, c6, c7, c8, c9, hlt7⟩ := ten hN7.out
  go_wp2_with fail
  refine (HTo.out _).mono ?_
  rintro e w8 ⟨rfl, hB8⟩
  clear c0 c1 c2 c3 c4 c5 c6 c7 c8 c9
  have HR8 := Lib.hid (HR7.out.later hB8)
  have HR48 := Lib.hid (hR47.out.later hB8)
  have HB8 := Lib.hid (HB7.out.trans (hB8.mono HB7.out.size))
  clear HR7 hR47 hB8 HB7 hN7 hlt7
  go_wp2_with fail
  refine (HI.out _).mono ?_
  rintro e w9 ⟨A9, n9, p9, rfl, hO9⟩
  obtain ⟨hn9, hR9⟩ := own_rowN hO9
  subst hn9
  have HR89 := Lib.hid (HR8.out.later hO9.2)
  have HR49 := Lib.hid (HR48.out.later hO9.2)
  have HB9 := Lib.hid (HB8.out.trans (hO9.2.mono HB8.out.size))
  have HR9 := Lib.hid hR9
  clear hR9 hO9 HR8 HR48 HB8
  go_wp2_with fail
  refine (eqB_same _ _ _ _ _ l HR9.out HR49.out (by omega)).mono ?_
  rintro e w10 ⟨rfl, q2, rfl⟩
  have HR10 : Hid (RowB (w9.drewN q2) A5 (mkB 1 l.length)) := HR89.out
  have HB10 := Lib.hid (below_drewN' HB9.out q2)
  clear HR9 HR49 HR89 HB9
  generalize w9.drewN q2 = w10 at HR10 HB10 ⊢
  go_wp2_with fail
  refine (heldB_any _ _ _ _ 1 HR10.out (by omega) (by omega) (by omega)).mono ?_
  rintro e w11 ⟨rfl, rfl⟩
  go_wp2
  go_ret
  exact ⟨rfl, HB10.out⟩

set_option maxRecDepth 100000 in
theorem lifted (os : Os) (started : os.Started) (H : Type) (enc : TypeId × Value → H) :
    ReturnsInHanded {} Try.checked os 8 .any (Rows.fnExactFramePackSpec.pre6 enc Try.prog Try.f8 Rows.fnExactFramePackRow.domain false) (Rows.fnExactFramePackSpec.post enc Try.prog Try.f8 false true false false) := by
  refine returnsInHanded_of_change (C := Try.checked) own started (by kernel_rfl) Try.func8
    (ChangeSpec.witness6 (enc := enc) (C := Try.checked) false ⟨#[], #[fr.frv fr.fr0], []⟩ 8 (by kernel_rfl) (by kernel_rfl) (by kernel_rfl) (by kernel_rfl)) ?_
  intro W base args ds gs before hval0 hW hcnd _
  have hval : ∀ (j : Nat) t v, Try.f8.params[j]? = some t → args[j]? = some v → Value.okWide Try.prog W .any base t v := hval0
  have hW' := hW
  obtain ⟨p, q, hA0, hV, rfl, hfz, hnd⟩ := hW
  have hA : DataW.TrodAll enc Try.prog W 0 (fun _ => true) true Try.f8.params.toList args.toList ds p := hA0
  rw [Try.params8] at hA hval
  obtain ⟨v0, vs0, d0, ds0, p0, q0, hargs, rfl, rfl, h0, r0⟩ := trodAll_cons hA
  obtain ⟨rfl, rfl, rfl⟩ := trodAll_nil r0
  obtain rfl : args = #[v0] := by cases args; simp_all
  obtain ⟨rfl, rfl⟩ := trodVars_none hV
  have k0 := h0
  have lt0 : ∀ x ∈ p0, x.block < W.heap.size := by obtain ⟨m, hm⟩ := k0; exact DataW.trod_lt m _ _ _ hm
  obtain ⟨F, rfl, hx⟩ := fr.frame_in (hval 0 33 v0 rfl rfl) h0
  clear hA0 hval0
  refine (walk F hx W).mono fun e W' ⟨he, bel⟩ => ?_
  subst he
  exact ⟨_, rfl, _, _, _, [], _, [], hW', trodAll_mk1 (shut_bool Try.underlying4 _), (trodAll_cons_mk (Below.trod laidOut (by kernel_rfl) (of_decide_eq_true (by kernel_rfl)) k0 bel lt0) trodAll_mk0), rfl, bel.frame _, fun h => by cases h⟩

theorem over : Rows.fnExactFramePackRow.holds Try.pinned (OpenSpec.ofChange Rows.fnExactFramePackSpec) :=
  OpenClaim.holds_of_wide 8 Try.f8 rfl rfl rfl rfl rfl rfl rfl ⟨rfl, rfl, rfl, rfl, rfl⟩ rfl rfl rfl rfl rfl (by kernel_rfl) Try.func8 (by kernel_rfl)
    (of_decide_eq_true (by kernel_rfl)) (by unfold Func.isWrapper; first | (rw [if_pos (by decide +kernel)]; kernel_rfl) | (rw [if_neg (by decide +kernel)]; exact ⟨rfl, rfl⟩))
    (fun os started H enc _ => lifted os started H enc)

/-- ████ THE STATEMENT ████ -/
theorem proved : Rows.FnExactFramePackSaid := over
#print axioms proved
end Go.Proofs.Ytgihbilpimempaa.fnExactFramePack
