/-
  At every int the program's KeepStart answers as the specification's; its lists can be written over whole and keep what was written behind another call: the law returns true; no condition.
-/
import Derived.Test.YtgihbilpimempabRows
import Derived.WalkKit
import Derived.ProofKit
import Derived.OpenShut
import Derived.ShutString
import Derived.Test.YtgihbilpimempabIStart
import Derived.Test.YtgihbilpimempabKeepEq
import Derived.Test.YtgihbilpimempabKeepLaw
import Derived.Below
import Derived.ChangeOld
namespace Go.Proofs.Ytgihbilpimempab.fnExactKeepStart
open Go.ChangeShapes Go.WideShapes Go.ChangeAt Go.RowKit
open Go.ChangeMaps (open_string shut_string)
open Go.Proofs.Ytgihbilpimempab.wd Go.Proofs.Ytgihbilpimempab.kp
set_option linter.unusedVariables false      -- a walk need not use every 'w<i>' (that an integer argument fits its kind)

theorem own : ownKnob Try.prog.godebug = none := by kernel_rfl

set_option maxRecDepth 100000 in
set_option maxHeartbeats 4000000 in
theorem walk (a0 : Int) (w0 : (Lit.int .i64 a0).wf = true) (w : World) :
    Calls Try.prog 3 #[.int .i64 a0] w fun e w' => e = .returned (.bool true) ∧ Below w.heap.size w w' := by
  obtain ⟨f1, f2, f3⟩ := start_few a0
  have hF : Few (startK a0) := ⟨by omega, by omega, by omega⟩
  have HI := Lib.hid (fun V => istart_any a0 V)
  have HS := Lib.hid (fun V => start_any a0 V)
  have HN := Lib.hid (show ((1 : Int) + 5 * (startK a0).held.length + 3 * (startK a0).marks.length + 5 * (startK a0).inbox.length < 100000000) by omega)
  have HY := Lib.hid (show ¬ kN 1 (startK a0).held.length (startK a0).marks.length (startK a0).inbox.length < 0 by unfold kN; omega)
  generalize startK a0 = k at hF HI HS HN HY
  have HF := Lib.hid hF
  clear f1 f2 f3 hF
  unfold KeepPost at HI HS
  go_enter Try.func3, Try.ntmps3
  go_wp2_with fail
  refine (HS.out _).mono ?_
  rintro e w1 ⟨a1, b1, c1, rfl, o1⟩
  obtain ⟨A1, s1, rfl⟩ := OwnR.form o1.held
  obtain ⟨M1, t1, rfl⟩ := OwnR.form o1.marks
  obtain ⟨I1, u1, rfl⟩ := OwnR.form o1.inbox
  have B1 := (Below.refl w1.heap.size w1).alloc (Nat.le_refl _) (.cells #[.int .i64 k.id, .int .i64 k.time, .int .i64 k.next, (.slice A1 k.held.length s1), (.slice M1 k.marks.length t1), (.slice I1 k.inbox.length u1)] 25)
  have x1 : KBox _ _ k (.slice A1 k.held.length s1) (.slice M1 k.marks.length t1) (.slice I1 k.inbox.length u1) := Blk.new w1 25 #[.int .i64 k.id, .int .i64 k.time, .int .i64 k.next, (.slice A1 k.held.length s1), (.slice M1 k.marks.length t1), (.slice I1 k.inbox.length u1)]
  have HB := Lib.hid (o1.bel.trans (B1.mono o1.bel.size))
  have HO1 := Lib.hid (o1.sees.later B1)
  clear o1 B1
  go_wp2_with fail
  generalize w1.alloc (.cells #[.int .i64 k.id, .int .i64 k.time, .int .i64 k.next, (.slice A1 k.held.length s1), (.slice M1 k.marks.length t1), (.slice I1 k.inbox.length u1)] 25) = V1 at x1 HB HO1 ⊢
  generalize w1.heap.size = R1 at x1 ⊢
  have X1 := Lib.hid x1
  clear x1
  refine (HI.out _).mono ?_
  rintro e w2 ⟨a2, b2, c2, rfl, o2⟩
  obtain ⟨A2, s2, rfl⟩ := OwnR.form o2.held
  obtain ⟨M2, t2, rfl⟩ := OwnR.form o2.marks
  obtain ⟨I2, u2, rfl⟩ := OwnR.form o2.inbox
  have B2 := (Below.refl w2.heap.size w2).alloc (Nat.le_refl _) (.cells #[.int .i64 k.id, .int .i64 k.time, .int .i64 k.next, (.slice A2 k.held.length s2), (.slice M2 k.marks.length t2), (.slice I2 k.inbox.length u2)] 25)
  have x2 : KBox _ _ k (.slice A2 k.held.length s2) (.slice M2 k.marks.length t2) (.slice I2 k.inbox.length u2) := Blk.new w2 25 #[.int .i64 k.id, .int .i64 k.time, .int .i64 k.next, (.slice A2 k.held.length s2), (.slice M2 k.marks.length t2), (.slice I2 k.inbox.length u2)]
  have C2 := Lib.hid (o2.bel.trans (B2.mono o2.bel.size))
  have O2 := Lib.hid (o2.three.later B2)
  have F2 := Lib.hid (o2.off (Nat.le_refl w2.heap.size))
  have l1 := (X1.out.below o2.bel X1.out.lt).lt
  obtain ⟨q0, q1, q2, q3, q4, q5⟩ := KBox.cells (X1.out.below o2.bel X1.out.lt)
  clear o2 B2
  go_wp2_with fail
  clear q0 q1 q2 q3 q4 q5 l1
  generalize w2.alloc (.cells #[.int .i64 k.id, .int .i64 k.time, .int .i64 k.next, (.slice A2 k.held.length s2), (.slice M2 k.marks.length t2), (.slice I2 k.inbox.length u2)] 25) = V2 at x2 C2 O2 ⊢
  generalize w2.heap.size = R2 at x2 F2 ⊢
  have X2 := Lib.hid x2
  clear x2
  refine (eqK_same _ k _ _ _ _ _ _ O2.out.sees (HO1.out.later C2.out) HF.out).mono ?_
  rintro e w3 ⟨rfl, B3⟩
  have x3 := X2.out.below B3 X2.out.lt
  have C3 := Lib.hid (C2.out.trans (B3.mono C2.out.size))
  have O3 := Lib.hid (O2.out.later B3)
  clear C2 O2 X2 B3
  obtain ⟨p0, p1, p2, p3, p4, p5⟩ := KBox.cells x3
  have X3 := Lib.hid x3
  clear x3
  go_wp2_with fail
  refine (markK_any _ _ k _ _ _ _ _ _ 1 O3.out (by omega) HN.out).mono ?_
  rintro e w4 ⟨rfl, o4, m4⟩
  clear p0 p1 p2 p3 p4 p5
  have x4 := m4.blk X3.out F2.out
  have C4 := Lib.hid (C3.out.trans (m4.below O3.out C3.out.size))
  have O4 := Lib.hid o4
  clear o4 m4 X3 C3 O3 F2
  obtain ⟨p0, p1, p2, p3, p4, p5⟩ := KBox.cells x4
  have X4 := Lib.hid x4
  have HH := Lib.hid (fun V p q r (hS : SeesK V (kM 1 k.held.length k.marks.length k.inbox.length) (.slice A2 k.held.length s2) (.slice M2 k.marks.length t2) (.slice I2 k.inbox.length u2)) => heldK_any V (.slice A2 k.held.length s2) (.slice M2 k.marks.length t2) (.slice I2 k.inbox.length u2) p q r 1 k.held.length k.marks.length k.inbox.length hS (by omega) HN.out)
  have HS4 := Lib.hid O4.out.sees
  clear x4 HN O4
  unfold FoundPost at HH
  generalize kN 1 k.held.length k.marks.length k.inbox.length = y at HH HY ⊢
  generalize kM 1 k.held.length k.marks.length k.inbox.length = kk at HH HS4
  have hy := HY.out
  go_wp2_with fail
  refine (HH.out _ _ _ _ HS4.out).mono ?_
  rintro e w5 ⟨rfl, B5⟩
  clear p0 p1 p2 p3 p4 p5
  have X5 := Lib.hid (X4.out.below B5 X4.out.lt)
  have C5 := Lib.hid (C4.out.trans (B5.mono C4.out.size))
  have HS5 := Lib.hid (HS4.out.later B5)
  clear X4 C4 HS4 B5
  go_wp2_with fail
  refine (HI.out _).mono ?_
  rintro e w6 ⟨a6, b6, c6, rfl, o6⟩
  obtain ⟨A6, s6, rfl⟩ := OwnR.form o6.held
  obtain ⟨M6, t6, rfl⟩ := OwnR.form o6.marks
  obtain ⟨I6, u6, rfl⟩ := OwnR.form o6.inbox
  have B6 := (Below.refl w6.heap.size w6).alloc (Nat.le_refl _) (.cells #[.int .i64 k.id, .int .i64 k.time, .int .i64 k.next, (.slice A6 k.held.length s6), (.slice M6 k.marks.length t6), (.slice I6 k.inbox.length u6)] 25)
  have x6 : KBox _ _ k (.slice A6 k.held.length s6) (.slice M6 k.marks.length t6) (.slice I6 k.inbox.length u6) := Blk.new w6 25 #[.int .i64 k.id, .int .i64 k.time, .int .i64 k.next, (.slice A6 k.held.length s6), (.slice M6 k.marks.length t6), (.slice I6 k.inbox.length u6)]
  have D6 := o6.bel.trans (B6.mono o6.bel.size)
  have X6 := Lib.hid (X5.out.below D6 X5.out.lt)
  have C6 := Lib.hid (C5.out.trans (D6.mono C5.out.size))
  have HS6 := Lib.hid (HS5.out.later D6)
  have O6 := Lib.hid (o6.three.later B6)
  have C6' := C5.out.trans (o6.bel.mono C5.out.size)
  have l1 := (X1.out.below C6' X1.out.lt).lt
  obtain ⟨q0, q1, q2, q3, q4, q5⟩ := KBox.cells (X1.out.below C6' X1.out.lt)
  clear o6 B6 D6 X5 C5 HS5 C6'
  go_wp2_with fail
  clear q0 q1 q2 q3 q4 q5 l1
  generalize w6.alloc (.cells #[.int .i64 k.id, .int .i64 k.time, .int .i64 k.next, (.slice A6 k.held.length s6), (.slice M6 k.marks.length t6), (.slice I6 k.inbox.length u6)] 25) = V6 at x6 X6 C6 HS6 O6 ⊢
  generalize w6.heap.size = R6 at x6 ⊢
  clear x6
  refine (eqK_same _ k _ _ _ _ _ _ O6.out.sees (HO1.out.later C6.out) HF.out).mono ?_
  rintro e w7 ⟨rfl, B7⟩
  have x7 := X6.out.below B7 X6.out.lt
  have C7 := Lib.hid (C6.out.trans (B7.mono C6.out.size))
  have HS7 := Lib.hid (HS6.out.later B7)
  clear X6 C6 HS6 O6 B7
  obtain ⟨p0, p1, p2, p3, p4, p5⟩ := KBox.cells x7
  clear x7
  go_wp2_with fail
  refine (HH.out _ _ _ _ HS7.out).mono ?_
  rintro e w8 ⟨rfl, B8⟩
  have HZ := Lib.hid (HB.out.trans ((C7.out.trans (B8.mono C7.out.size)).mono HB.out.size))
  clear p0 p1 p2 p3 p4 p5 C7 B8
  go_wp2
  go_ret
  exact ⟨rfl, HZ.out⟩

set_option maxRecDepth 100000 in
theorem lifted (os : Os) (started : os.Started) (H : Type) (enc : TypeId × Value → H) :
    ReturnsInHanded {} Try.checked os 3 .any (Rows.fnExactKeepStartSpec.pre6 enc Try.prog Try.f3 Rows.fnExactKeepStartRow.domain false) (Rows.fnExactKeepStartSpec.post enc Try.prog Try.f3 false true false false) := by
  refine returnsInHanded_of_change (C := Try.checked) own started (by kernel_rfl) Try.func3
    (ChangeSpec.witness6 (enc := enc) (C := Try.checked) false ⟨#[], #[.int .i64 0], []⟩ 8 (by kernel_rfl) (by kernel_rfl) (by kernel_rfl) (by kernel_rfl)) ?_
  intro W base args ds gs before hval0 hW hcnd _
  have hval : ∀ (j : Nat) t v, Try.f3.params[j]? = some t → args[j]? = some v → Value.okWide Try.prog W .any base t v := hval0
  have hW' := hW
  obtain ⟨p, q, hA0, hV, rfl, hfz, hnd⟩ := hW
  have hA : DataW.TrodAll enc Try.prog W 0 (fun _ => true) true Try.f3.params.toList args.toList ds p := hA0
  rw [Try.params3] at hA hval
  obtain ⟨v0, vs0, d0, ds0, p0, q0, hargs, rfl, rfl, h0, r0⟩ := trodAll_cons hA
  obtain ⟨rfl, rfl, rfl⟩ := trodAll_nil r0
  obtain rfl : args = #[v0] := by cases args; simp_all
  obtain ⟨rfl, rfl⟩ := trodVars_none hV
  obtain ⟨a0, rfl, rfl, rfl, w0⟩ := open_int Try.underlying3 (hval 0 3 v0 rfl rfl) h0
  clear hA0 hval0
  refine (walk a0 w0 W).mono fun e W' ⟨he, bel⟩ => ?_
  subst he
  exact ⟨_, rfl, _, _, _, [], _, [], hW', (trodAll_cons_mk (shut_bool Try.underlying4 _) trodAll_mk0), (trodAll_cons_mk (shut_int Try.underlying3 w0) trodAll_mk0), rfl, bel.frame _, fun h => by cases h⟩

theorem over : Rows.fnExactKeepStartRow.holds Try.pinned (OpenSpec.ofChange Rows.fnExactKeepStartSpec) :=
  OpenClaim.holds_of_wide 3 Try.f3 rfl rfl rfl rfl rfl rfl rfl ⟨rfl, rfl, rfl, rfl, rfl⟩ rfl rfl rfl rfl rfl (by kernel_rfl) Try.func3 (by kernel_rfl)
    (of_decide_eq_true (by kernel_rfl)) (by unfold Func.isWrapper; first | (rw [if_pos (by decide +kernel)]; kernel_rfl) | (rw [if_neg (by decide +kernel)]; exact ⟨rfl, rfl⟩))
    (fun os started H enc _ => lifted os started H enc)

/-- ████ THE STATEMENT ████ -/
theorem proved : Rows.FnExactKeepStartSaid :=
  over
#print axioms proved
end Go.Proofs.Ytgihbilpimempab.fnExactKeepStart
