/-
  The program's RiverStart answers as the specification's, and gives back lists of its own: the law returns true.
-/
import Derived.Test.YtckicpnnclbkpaaRows
import Derived.WalkKit
import Derived.ProofKit
import Derived.OpenShut
import Derived.ShutString
import Derived.Test.YtckicpnnclbkpaaKrStart
import Derived.Below
import Derived.ChangeOld
namespace Go.Proofs.Ytckicpnnclbkpaa.fnExactRiverStart
open Go.ChangeShapes Go.WideShapes Go.ChangeAt Go.RowKit
open Go.ChangeMaps (open_string shut_string)
open Go.Proofs.Ytckicpnnclbkpaa.wd Go.Proofs.Ytckicpnnclbkpaa.rl Go.Proofs.Ytckicpnnclbkpaa.kp Go.Proofs.Ytckicpnnclbkpaa.kr
set_option linter.unusedVariables false      -- a walk need not use every 'w<i>' (that an integer argument fits its kind)

theorem own : ownKnob Try.prog.godebug = none := by kernel_rfl

set_option maxRecDepth 100000 in
set_option maxHeartbeats 4000000 in
theorem walk  (w : World) :
    Calls Try.prog 3 #[] w fun e w' => e = .returned (.bool true) ∧ Below w.heap.size w w' := by
  go_enter Try.func3, Try.ntmps3
  go_wp2_with fail
  refine (srv_start _).mono ?_
  rintro e w1 ⟨K, L, rfl, o, p, ap, B⟩
  obtain ⟨A1, c1, e1, _⟩ := o.sees
  rw [starts_len] at e1
  subst e1
  obtain ⟨D1, d1, e2, _⟩ := p.sees
  change L = .slice D1 3 d1 at e2
  subst e2
  have hA := (Below.refl w1.heap.size w1).alloc (Nat.le_refl _) (.cells (rvC (.slice A1 4 c1) (.slice D1 3 d1)) 27)
  have HW := Lib.hid (B.trans (hA.mono B.size))
  have SK := Lib.hid (o.sees.later hA)
  have SL := Lib.hid (p.sees.later hA)
  have KW := Lib.hid (Blk.new w1 27 (rvC (.slice A1 4 c1) (.slice D1 3 d1)))
  clear o p ap B hA
  go_upto_region 2 with (fail)
  generalize w1.alloc (.cells (rvC (.slice A1 4 c1) (.slice D1 3 d1)) 27) = V at HW SK SL KW ⊢
  generalize w1.heap.size = rw at KW ⊢
  go_wp2_with fail
  refine (irv_start _).mono ?_
  rintro e w2 ⟨K, L, rfl, o, p, ap, B⟩
  obtain ⟨A2, c2, e1, _⟩ := o.sees
  rw [starts_len] at e1
  subst e1
  obtain ⟨D2, d2, e2, _⟩ := p.sees
  change L = .slice D2 3 d2 at e2
  subst e2
  have hA := (Below.refl w2.heap.size w2).alloc (Nat.le_refl _) (.cells (rvC (.slice A2 4 c2) (.slice D2 3 d2)) 27)
  have C := Lib.hid (B.trans (hA.mono B.size))
  have OK := Lib.hid (o.later hA)
  have OL := Lib.hid (p.later hA)
  have AP := Lib.hid ap
  have KG := Lib.hid (Blk.new w2 27 (rvC (.slice A2 4 c2) (.slice D2 3 d2)))
  have HGt := Lib.hid (show (∀ g, (Value.slice A2 4 c2).ownBlock = some g → g < w2.heap.size) ∧ ∀ g, (Value.slice D2 3 d2).ownBlock = some g → g < w2.heap.size from ⟨fun g hg => (o.lt hg).2, fun g hg => (p.lt hg).2⟩)
  clear o p ap B hA
  go_upto_region 3 with (fail)
  generalize w2.alloc (.cells (rvC (.slice A2 4 c2) (.slice D2 3 d2)) 27) = W at C OK OL KG ⊢
  generalize w2.heap.size = rg at KG HGt ⊢
  obtain ⟨p0, p1, p2, p3, p4, p5⟩ := six6 KG.out
  obtain ⟨q0, q1, q2, q3, q4, q5⟩ := six6 (KW.out.below C.out KW.out.lt)
  go_wp2_with fail
  refine (eqRv_same W _ _ _ _ (starts 4) [true, true, true] OK.out.sees (SK.out.later C.out) OL.out.sees (SL.out.later C.out) (by decide) (by decide)).mono ?_
  rintro e w3 ⟨rfl, B⟩
  clear p0 p1 p2 p3 p4 p5 q0 q1 q2 q3 q4 q5
  replace C := Lib.hid (C.out.trans (B.mono C.out.size))
  replace OK := Lib.hid (OK.out.later B)
  replace OL := Lib.hid (OL.out.later B)
  replace KG := Lib.hid (KG.out.below B KG.out.lt)
  clear B
  go_upto_region 6 with (fail)
  obtain ⟨p0, p1, p2, p3, p4, p5⟩ := six6 KG.out
  go_wp2_with fail
  refine (markRv_any w3 _ _ _ (starts 4) [true, true, true] 1 OK.out OL.out AP.out (by omega) (by decide)).mono ?_
  rintro e w4 ⟨rfl, o, p, M⟩
  have D4 : Below V.heap.size w3 w4 := ⟨M.os, M.tape, M.output, M.size, fun k hk => M.block k (Nat.lt_of_lt_of_le hk C.out.size) (fun e => by have := (OK.out.lt e).1; omega) (fun e => by have := (OL.out.lt e).1; omega)⟩
  replace C := Lib.hid (C.out.trans D4)
  replace KG := Lib.hid (show Blk w4 rg 27 (rvC (.slice A2 4 c2) (.slice D2 3 d2)) from (M.block _ KG.out.lt (fun e => by have := HGt.out.1 _ e; omega) (fun e => by have := HGt.out.2 _ e; omega)).trans KG.out)
  have GK := Lib.hid o.sees
  have GL := Lib.hid p.sees
  clear o M D4 OK OL AP HGt p p0 p1 p2 p3 p4 p5
  have HH := Lib.hid (fun V hK hL => heldRv_any V (.slice A2 4 c2) (.slice D2 3 d2) 1 4 3 hK hL (by omega) (by omega))
  unfold IPost at HH
  have hy : decide ((1 : Int) + 4 * ((4 : Nat) : Int) + ((3 : Nat) : Int) < 0) = false := by decide
  have e4 : (starts 4).length = 4 := starts_len 4
  rw [e4] at GK GL ⊢
  change Hid (SeesR boS w4 (.slice D2 3 d2) (boMs (1 + 4 * ((4 : Nat) : Int)) 3)) at GL
  rw [show ([true, true, true] : List Bool).length = 3 from rfl]
  generalize (1 : Int) + 4 * ((4 : Nat) : Int) + ((3 : Nat) : Int) = y at HH hy ⊢
  have hyy : (y != y) = false := by simp
  clear e4
  go_upto_region 8 with (fail)
  obtain ⟨p0, p1, p2, p3, p4, p5⟩ := six6 KG.out
  go_wp2_with fail
  refine (HH.out _ GK.out GL.out).mono ?_
  rintro e w5 ⟨rfl, B⟩
  clear p0 p1 p2 p3 p4 p5
  replace C := Lib.hid (C.out.trans (B.mono C.out.size))
  replace GK := Lib.hid (GK.out.later B)
  replace GL := Lib.hid (GL.out.later B)
  replace KG := Lib.hid (KG.out.below B KG.out.lt)
  clear B
  go_upto_region 13 with (fail)
  go_wp2_with fail
  refine (irv_start _).mono ?_
  rintro e w6 ⟨K, L, rfl, o, p, ap, B⟩
  obtain ⟨A6, c6, e1, _⟩ := o.sees
  rw [starts_len] at e1
  subst e1
  obtain ⟨D6, d6, e2, _⟩ := p.sees
  change L = .slice D6 3 d6 at e2
  subst e2
  have hA := (Below.refl w6.heap.size w6).alloc (Nat.le_refl _) (.cells (rvC (.slice A6 4 c6) (.slice D6 3 d6)) 27)
  have BA := B.trans (hA.mono B.size)
  have KH := Lib.hid (Blk.new w6 27 (rvC (.slice A6 4 c6) (.slice D6 3 d6)))
  have HK := Lib.hid (o.sees.later hA)
  have HL := Lib.hid (p.sees.later hA)
  replace C := Lib.hid (C.out.trans (BA.mono C.out.size))
  replace GK := Lib.hid (GK.out.later BA)
  replace GL := Lib.hid (GL.out.later BA)
  replace KG := Lib.hid (KG.out.below BA KG.out.lt)
  clear o p ap B hA BA
  go_upto_region 14 with (fail)
  generalize w6.alloc (.cells (rvC (.slice A6 4 c6) (.slice D6 3 d6)) 27) = W6 at C GK GL KG KH HK HL ⊢
  generalize w6.heap.size = rh at KH ⊢
  obtain ⟨p0, p1, p2, p3, p4, p5⟩ := six6 KH.out
  obtain ⟨q0, q1, q2, q3, q4, q5⟩ := six6 (KW.out.below C.out KW.out.lt)
  go_wp2_with fail
  refine (eqRv_same W6 _ _ _ _ (starts 4) [true, true, true] HK.out (SK.out.later C.out) HL.out (SL.out.later C.out) (by decide) (by decide)).mono ?_
  rintro e w7 ⟨rfl, B⟩
  clear p0 p1 p2 p3 p4 p5 q0 q1 q2 q3 q4 q5
  replace C := Lib.hid (C.out.trans (B.mono C.out.size))
  replace GK := Lib.hid (GK.out.later B)
  replace GL := Lib.hid (GL.out.later B)
  replace KG := Lib.hid (KG.out.below B KG.out.lt)
  clear B HK HL KH
  go_upto_region 17 with (fail)
  obtain ⟨p0, p1, p2, p3, p4, p5⟩ := six6 KG.out
  go_wp2_with fail
  refine (HH.out _ GK.out GL.out).mono ?_
  rintro e w8 ⟨rfl, B⟩
  replace C := Lib.hid (C.out.trans (B.mono C.out.size))
  clear p0 p1 p2 p3 p4 p5
  clear B
  go_wp2
  go_ret
  exact ⟨rfl, HW.out.trans (C.out.mono HW.out.size)⟩

set_option maxRecDepth 100000 in
theorem lifted (os : Os) (started : os.Started) (H : Type) (enc : TypeId × Value → H) :
    ReturnsInHanded {} Try.checked os 3 .any (Rows.fnExactRiverStartSpec.pre6 enc Try.prog Try.f3 Rows.fnExactRiverStartRow.domain false) (Rows.fnExactRiverStartSpec.post enc Try.prog Try.f3 false true false false) := by
  refine returnsInHanded_of_change (C := Try.checked) own started (by kernel_rfl) Try.func3
    (ChangeSpec.witness6 (enc := enc) (C := Try.checked) false ⟨#[], #[], []⟩ 8 (by kernel_rfl) (by kernel_rfl) (by kernel_rfl) (by kernel_rfl)) ?_
  intro W base args ds gs before hval0 hW hcnd _
  have hval : ∀ (j : Nat) t v, Try.f3.params[j]? = some t → args[j]? = some v → Value.okWide Try.prog W .any base t v := hval0
  have hW' := hW
  obtain ⟨p, q, hA0, hV, rfl, hfz, hnd⟩ := hW
  have hA : DataW.TrodAll enc Try.prog W 0 (fun _ => true) true Try.f3.params.toList args.toList ds p := hA0
  rw [Try.params3] at hA hval
  obtain ⟨rfl, rfl, rfl⟩ := trodAll_none hA
  obtain ⟨rfl, rfl⟩ := trodVars_none hV
  clear hA0 hval0
  refine (walk  W).mono fun e W' ⟨he, bel⟩ => ?_
  subst he
  exact ⟨_, rfl, _, _, _, [], _, [], hW', (trodAll_cons_mk (shut_bool Try.underlying4 _) trodAll_mk0), rfl, rfl, bel.frame _, fun h => by cases h⟩

theorem over : Rows.fnExactRiverStartRow.holds Try.pinned (OpenSpec.ofChange Rows.fnExactRiverStartSpec) :=
  OpenClaim.holds_of_wide 3 Try.f3 rfl rfl rfl rfl rfl rfl rfl ⟨rfl, rfl, rfl, rfl, rfl⟩ rfl rfl rfl rfl rfl (by kernel_rfl) Try.func3 (by kernel_rfl)
    (of_decide_eq_true (by kernel_rfl)) (by unfold Func.isWrapper; first | (rw [if_pos (by decide +kernel)]; kernel_rfl) | (rw [if_neg (by decide +kernel)]; exact ⟨rfl, rfl⟩))
    (fun os started H enc _ => lifted os started H enc)

/-- ████ THE STATEMENT ████ -/
theorem proved : Rows.FnExactRiverStartSaid :=
  over
#print axioms proved
end Go.Proofs.Ytckicpnnclbkpaa.fnExactRiverStart
