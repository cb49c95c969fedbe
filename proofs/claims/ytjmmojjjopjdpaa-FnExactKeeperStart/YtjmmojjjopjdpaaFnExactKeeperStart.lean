/-
  At every int the program's KeeperStart answers as the specification's, and what it gives back can be written over whole and keeps what was written behind another call: the law returns true; no condition.
-/
import Derived.Test.YtjmmojjjopjdpaaRows
import Derived.WalkKit
import Derived.ProofKit
import Derived.OpenShut
import Derived.ShutString
import Derived.Test.YtjmmojjjopjdpaaKrNil
import Derived.Below
import Derived.ChangeOld
namespace Go.Proofs.Ytjmmojjjopjdpaa.fnExactKeeperStart
open Go.ChangeShapes Go.WideShapes Go.ChangeAt Go.RowKit
open Go.ChangeMaps (open_string shut_string)
open Go.Proofs.Ytjmmojjjopjdpaa.wd Go.Proofs.Ytjmmojjjopjdpaa.kr Go.Proofs.Ytjmmojjjopjdpaa.nb
set_option linter.unusedVariables false      -- a walk need not use every 'w<i>' (that an integer argument fits its kind)

theorem own : ownKnob Try.prog.godebug = none := by kernel_rfl

set_option maxRecDepth 100000 in
set_option maxHeartbeats 4000000 in
theorem walk (a0 : Int) (w0 : (Lit.int .i64 a0).wf = true) (w : World) :
    Calls Try.prog 3 #[.int .i64 a0] w fun e w' => e = .returned (.bool true) ∧ Below w.heap.size w w' := by
  have HS := Lib.hid (fun V => skr_start a0 V)
  have HI := Lib.hid (fun V => ikr_start a0 V)
  unfold StartPost at HS HI
  generalize stId a0 = d at HS HI
  generalize inB a0 0 3 = u at HS HI
  have HE := Lib.hid (fun V => eqKr_nil d u ⟨#[]⟩ 0 V)
  have HM := Lib.hid (fun V => markKr_nil d u ⟨#[]⟩ 0 1 V)
  have HH := Lib.hid (fun V => heldKr_nil d u ⟨#[]⟩ 0 1 (by omega) V)
  unfold BPost at HE
  unfold IPost at HM HH
  go_enter Try.func3, Try.ntmps3
  go_wp2_with fail
  refine (HS.out _).mono ?_
  rintro e w1 ⟨rfl, B1⟩
  have x1 := Lib.hid (Blk.new w1 26 (krC d u ⟨#[]⟩ 0 no))
  have C1 := Lib.hid (B1.trans (((Below.refl w1.heap.size w1).alloc (Nat.le_refl _) (.cells (krC d u ⟨#[]⟩ 0 no) 26)).mono B1.size))
  clear B1
  go_wp2_with fail
  generalize w1.alloc (.cells (krC d u ⟨#[]⟩ 0 no) 26) = V1 at x1 C1 ⊢
  generalize w1.heap.size = R1 at x1 ⊢
  refine (HI.out _).mono ?_
  rintro e w2 ⟨rfl, B2⟩
  have x2 := Lib.hid (Blk.new w2 26 (krC d u ⟨#[]⟩ 0 no))
  have D2 := B2.trans (((Below.refl w2.heap.size w2).alloc (Nat.le_refl _) (.cells (krC d u ⟨#[]⟩ 0 no) 26)).mono B2.size)
  have C2 := Lib.hid (C1.out.trans (D2.mono C1.out.size))
  have y2 := Lib.hid (x1.out.below D2 x1.out.lt)
  have l1 := (x1.out.below B2 x1.out.lt).lt
  obtain ⟨q0, q1, q2, q3, q4⟩ := cells5k (x1.out.below B2 x1.out.lt)
  clear B2 D2 x1 C1
  go_wp2_with fail
  clear q0 q1 q2 q3 q4 l1
  generalize w2.alloc (.cells (krC d u ⟨#[]⟩ 0 no) 26) = V2 at x2 y2 C2 ⊢
  generalize w2.heap.size = R2 at x2 ⊢
  refine (HE.out _).mono ?_
  rintro e w3 ⟨rfl, B3⟩
  have x3 := Lib.hid (x2.out.below B3 x2.out.lt)
  have y3 := Lib.hid (y2.out.below B3 y2.out.lt)
  have C3 := Lib.hid (C2.out.trans (B3.mono C2.out.size))
  obtain ⟨p0, p1, p2, p3, p4⟩ := cells5k x3.out
  clear x2 y2 C2 B3
  go_wp2_with fail
  refine (HM.out _).mono ?_
  rintro e w4 ⟨rfl, B4⟩
  clear p0 p1 p2 p3 p4
  have x4 := Lib.hid (x3.out.below B4 x3.out.lt)
  have y4 := Lib.hid (y3.out.below B4 y3.out.lt)
  have C4 := Lib.hid (C3.out.trans (B4.mono C3.out.size))
  obtain ⟨p0, p1, p2, p3, p4⟩ := cells5k x4.out
  clear x3 y3 C3 B4
  go_wp2_with fail
  refine (HH.out _).mono ?_
  rintro e w5 ⟨rfl, B5⟩
  clear p0 p1 p2 p3 p4
  have x5 := Lib.hid (x4.out.below B5 x4.out.lt)
  have y5 := Lib.hid (y4.out.below B5 y4.out.lt)
  have C5 := Lib.hid (C4.out.trans (B5.mono C4.out.size))
  clear x4 y4 C4 B5
  go_wp2_with fail
  refine (HI.out _).mono ?_
  rintro e w6 ⟨rfl, B6⟩
  have D6 := B6.trans (((Below.refl w6.heap.size w6).alloc (Nat.le_refl _) (.cells (krC d u ⟨#[]⟩ 0 no) 26)).mono B6.size)
  have C6 := Lib.hid (C5.out.trans (D6.mono C5.out.size))
  have x6 := Lib.hid (x5.out.below D6 x5.out.lt)
  have l1 := (y5.out.below B6 y5.out.lt).lt
  obtain ⟨q0, q1, q2, q3, q4⟩ := cells5k (y5.out.below B6 y5.out.lt)
  clear B6 D6 x5 y5 C5
  go_wp2_with fail
  clear q0 q1 q2 q3 q4 l1
  generalize w6.alloc (.cells (krC d u ⟨#[]⟩ 0 no) 26) = V6 at x6 C6 ⊢
  generalize w6.heap.size = R6
  refine (HE.out _).mono ?_
  rintro e w7 ⟨rfl, B7⟩
  have C7 := Lib.hid (C6.out.trans (B7.mono C6.out.size))
  obtain ⟨p0, p1, p2, p3, p4⟩ := cells5k (x6.out.below B7 x6.out.lt)
  clear x6 C6 B7
  go_wp2_with fail
  refine (HH.out _).mono ?_
  rintro e w8 ⟨rfl, B8⟩
  have C8 := Lib.hid (C7.out.trans (B8.mono C7.out.size))
  clear p0 p1 p2 p3 p4 C7 B8
  go_wp2
  go_ret
  exact ⟨rfl, C8.out⟩

set_option maxRecDepth 100000 in
theorem lifted (os : Os) (started : os.Started) (H : Type) (enc : TypeId × Value → H) :
    ReturnsInHanded {} Try.checked os 3 .any (Rows.fnExactKeeperStartSpec.pre6 enc Try.prog Try.f3 Rows.fnExactKeeperStartRow.domain false) (Rows.fnExactKeeperStartSpec.post enc Try.prog Try.f3 false true false false) := by
  refine returnsInHanded_of_change (C := Try.checked) own started (by kernel_rfl) Try.func3
    (ChangeSpec.witness6 (enc := enc) (C := Try.checked) false ⟨#[], #[.int .i64 0], []⟩ 8 (by kernel_rfl) (by kernel_rfl) (by kernel_rfl) (by kernel_rfl)) ?_
  intro W base args ds gs before hval0 hW hcnd _
  have hval : ∀ (j : Nat) t v, Try.f3.params[j]? = some t → args[j]? = some v → Value.okWide Try.prog W .any base t v := hval0
  have hW' := hW
  obtain ⟨p, q, hA0, hV, rfl, hfz, hnd⟩ := hW
  have hA : DataW.TrodAll enc Try.prog W 0 (fun _ => true) true Try.f3.params.toList args.toList ds p := hA0
  rw [Try.params3] at hA hval
  obtain ⟨v0, vs0, d0, ds0, p0, q0, hargs, rfl, rfl, h0, r0⟩ := trodAll_cons hA
  obtain ⟨rfl, rfl, rfl⟩ := trodAll_nil r0
  obtain rfl : args = #[v0] := by cases args; simp_all
  obtain ⟨rfl, rfl⟩ := trodVars_none hV
  obtain ⟨a0, rfl, rfl, rfl, w0⟩ := open_int Try.underlying3 (hval 0 3 v0 rfl rfl) h0
  clear hA0 hval0
  refine (walk a0 w0 W).mono fun e W' ⟨he, bel⟩ => ?_
  subst he
  exact ⟨_, rfl, _, _, _, [], _, [], hW', (trodAll_cons_mk (shut_bool Try.underlying4 _) trodAll_mk0), (trodAll_cons_mk (shut_int Try.underlying3 w0) trodAll_mk0), rfl, bel.frame _, fun h => by cases h⟩

theorem over : Rows.fnExactKeeperStartRow.holds Try.pinned (OpenSpec.ofChange Rows.fnExactKeeperStartSpec) :=
  OpenClaim.holds_of_wide 3 Try.f3 rfl rfl rfl rfl rfl rfl rfl ⟨rfl, rfl, rfl, rfl, rfl⟩ rfl rfl rfl rfl rfl (by kernel_rfl) Try.func3 (by kernel_rfl)
    (of_decide_eq_true (by kernel_rfl)) (by unfold Func.isWrapper; first | (rw [if_pos (by decide +kernel)]; kernel_rfl) | (rw [if_neg (by decide +kernel)]; exact ⟨rfl, rfl⟩))
    (fun os started H enc _ => lifted os started H enc)

/-- ████ THE STATEMENT ████ -/
theorem proved : Rows.FnExactKeeperStartSaid :=
  over
#print axioms proved
end Go.Proofs.Ytjmmojjjopjdpaa.fnExactKeeperStart
