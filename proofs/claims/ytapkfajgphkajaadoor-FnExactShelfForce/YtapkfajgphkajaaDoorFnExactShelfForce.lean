/-
  At every shelf the program's ShelfForce answers as the specification's, so the law returns true; the condition of the row: the listed variables of math/bits, strconv and errors read as the program's text lays them (tied by the card).
-/
import Derived.Test.YtapkfajgphkajaaDoorRows
import Derived.Test.YtapkfajgphkajaaDoorCards
import Derived.Test.YtapkfajgphkajaaDoorTie
import Derived.Test.YtapkfajgphkajaaDoorLaid6
import Derived.Test.YtapkfajgphkajaaDoorShelfIn
import Derived.WalkKit
import Derived.ProofKit
import Derived.OpenShut
import Derived.ShutString
import Derived.ChangeOld
import Derived.Below
import Derived.LaidMore
import Derived.Stop.Joined
import Derived.SevenTiedAt
import Derived.Test.YtapkfajgphkajaaDoorShelfIn
import Derived.Test.YtapkfajgphkajaaDoorSShOk
import Derived.Test.YtapkfajgphkajaaDoorIShOk
import Derived.Test.YtapkfajgphkajaaDoorShForce
namespace Go.Proofs.YtapkfajgphkajaaDoor.fnExactShelfForce
open Go.ChangeShapes Go.WideShapes Go.ChangeAt Go.RowKit
open Go.ChangeMaps (open_string shut_string)
open Go.Proofs.YtapkfajgphkajaaDoor.nb Go.Proofs.YtapkfajgphkajaaDoor.sh
set_option linter.unusedVariables false

theorem own : ownKnob Tryd.prog.godebug = none := by kernel_rfl
theorem laidOut : laidOutB Tryd.prog = true := by kernel_rfl

theorem walk (s0 : ByteArray) (f0 : Int) (w : World) (hs0 : s0.size ≤ maxLen) (hE : sh.Env w) :
    Calls Tryd.prog 10 #[sh.shv s0 f0] w fun e w' => e = .returned (.bool true) ∧ Below w.heap.size w w' := by
  have hb := Box.new w s0 f0
  by_cases hg : 1048576 < s0.size
  · go_enter Tryd.func10, Tryd.ntmps10
    go_wp2_with fail
    generalize w.alloc (.cells #[.string s0, .int .i64 f0] 40) = W at hb ⊢
    refine (szSh_any s0 f0 _ hs0 _ (by omega) (by omega)).mono ?_
    rintro e w1 ⟨rfl, hB1⟩
    rw [if_pos (by omega)]
    have HB1 := Lib.hid (hb.later hB1).bel
    clear hB1 hb
    go_wp2
    go_ret
    exact ⟨rfl, HB1.out⟩
  have hpos : ¬ (1048576 : Int) - s0.size < 0 := by omega
  go_enter Tryd.func10, Tryd.ntmps10
  go_wp2_with fail
  generalize w.alloc (.cells #[.string s0, .int .i64 f0] 40) = W at hb ⊢
  refine (szSh_any s0 f0 _ hs0 _ (by omega) (by omega)).mono ?_
  rintro e w1 ⟨rfl, hB1⟩
  rw [if_neg (by omega)]
  have hb1 := hb.later hB1
  obtain ⟨c0, c1⟩ := hb1.cells
  clear hb hB1
  have HS := Lib.hid (fun V => sforce_of (fun _ => True) (fun _ _ _ _ => trivial) s0 f0 (fun V _ => sok_any s0 f0 V (by omega)) V trivial)
  have HI := Lib.hid (fun V hV => iforce_of Env (fun _ _ h hb => h.later hb) s0 f0 (fun V hV => iok_any s0 f0 V hV) V hV)
  unfold ShPost at HS HI
  generalize forceS s0 f0 = x at HS HI
  generalize forceF s0 f0 = g at HS HI
  go_wp2_with fail
  refine (toSh_any s0 f0 _).mono ?_
  rintro e w2 ⟨rfl, hB2⟩
  have hb2 := hb1.later hB2
  clear hb1 hB2 c0 c1
  go_wp2_with fail
  refine (HS.out _).mono ?_
  rintro e w3 ⟨rfl, hB3⟩
  have hb3 := hb2.later hB3
  obtain ⟨c0, c1⟩ := hb3.cells
  have hl3 := hb3.arg.lt
  have hx := wd.Blk.new w3 24 #[.string x, .int .i64 g]
  have hb4 := hb3.later ((Below.refl w3.heap.size w3).alloc (Nat.le_refl _) (.cells #[.string x, .int .i64 g] 24))
  clear hb2 hB3 hb3
  go_wp2_with fail
  generalize w3.heap.size = r3 at hx ⊢
  generalize w3.alloc (.cells #[.string x, .int .i64 g] 24) = V at hx hb4 ⊢
  refine (toSh_any s0 f0 _).mono ?_
  rintro e w4 ⟨rfl, hB4⟩
  have hb5 := hb4.later hB4
  have hx4 := hx.below hB4 hx.lt
  clear hb4 hB4 c0 c1 hx hl3
  go_wp2_with fail
  refine (HI.out _ (hE.later hb5.bel)).mono ?_
  rintro e w5 ⟨rfl, hB5⟩
  have hb6 := hb5.later hB5
  have hx5 := hx4.below hB5 hx4.lt
  have d0 := hx5.cell 0
  have d1 := hx5.cell 1
  simp only [List.getElem?_toArray, List.getElem?_cons_zero, List.getElem?_cons_succ] at d0 d1
  have hlt5 := hx5.lt
  clear hb5 hB5 hx4 hx5
  go_wp2_with fail
  refine (eqSh_same x g _).mono ?_
  rintro e w6 ⟨rfl, hB6⟩
  have HB := Lib.hid (hb6.bel.trans ((((Below.refl w5.heap.size w5).alloc (Nat.le_refl _) (.cells #[.string x, .int .i64 g] 24)).trans (hB6.mono (by simp))).mono hb6.bel.size))
  clear hb6 hB6
  go_wp2
  go_ret
  exact ⟨rfl, HB.out⟩

set_option maxRecDepth 100000 in
theorem lifted (os : Os) (started : os.Started) (H : Type) (enc : TypeId × Value → H) :
    ReturnsInHanded {} Tryd.checked os 10 .any (fun w args => (Rows.fnExactShelfForceSpec.pre enc Tryd.prog Tryd.f10 [] false w args ∧ laidMetH Tryd.prog dc.list6 w) ∧ sizedMet enc Tryd.prog Tryd.f10 (OpenSpec.ofChange Rows.fnExactShelfForceSpec) false w args)
      (Rows.fnExactShelfForceSpec.post enc Tryd.prog Tryd.f10 false true false false) := by
  refine returnsInHanded_of_change_and (C := Tryd.checked) (X := fun w _ => laidMetH Tryd.prog dc.list6 w) (fun _ _ _ hh h => h.of_heap hh) own started (by kernel_rfl) Tryd.func10
    (ChangeSpec.witness_shaped (enc := enc) (C := Tryd.checked) (os := os) (X := fun w _ => laidMetH Tryd.prog dc.list6 w) false (World.doorLaid Tryd.prog 400 os) #[sh.shv ByteArray.empty 0] 8 rfl (World.shaped_of_RefB (by kernel_rfl) (by kernel_rfl)) (by kernel_rfl) (by kernel_rfl) (by kernel_rfl) (dc.met6 os _)) ?_
  intro W base args ds gs before hval0 hW _ _ hL _
  have hval : ∀ (j : Nat) t v, Tryd.f10.params[j]? = some t → args[j]? = some v → Value.okWide Tryd.prog W .any base t v := hval0
  have hW' := hW
  obtain ⟨p, q, hA0, hV, rfl, hfz, hnd⟩ := hW
  have hA : DataW.TrodAll enc Tryd.prog W 0 (fun _ => true) true Tryd.f10.params.toList args.toList ds p := hA0
  rw [Tryd.params10] at hA hval
  obtain ⟨v0, vs0, d0, ds0, p0, q0, hargs, rfl, rfl, h0, r0⟩ := trodAll_cons hA
  obtain ⟨rfl, rfl, rfl⟩ := trodAll_nil r0
  obtain rfl : args = #[v0] := by cases args; simp_all
  obtain ⟨rfl, rfl⟩ := trodVars_none hV
  have k0 := h0
  have lt0 : ∀ x ∈ p0, x.block < W.heap.size := by obtain ⟨m, hm⟩ := k0; exact DataW.trod_lt m _ _ _ hm
  obtain ⟨s0, f0, rfl, hs0⟩ := sh.shelf_in (hval 0 40 v0 rfl rfl) h0
  have hE := dc.of_list6 hL
  clear hA0 hval0
  refine (walk s0 f0 W hs0 hE).mono fun e W' ⟨he, bel⟩ => ?_
  subst he
  exact ⟨_, rfl, _, _, _, [], _, [], hW', trodAll_mk1 (shut_bool Tryd.underlying4 _), (trodAll_cons_mk (Below.trod laidOut (by kernel_rfl) (of_decide_eq_true (by kernel_rfl)) k0 bel lt0) trodAll_mk0), rfl, bel.frame _, fun h => by cases h⟩

theorem over : Rows.fnExactShelfForceRow.holds Tryd.pinned (OpenSpec.ofChange Rows.fnExactShelfForceSpec) :=
  OpenClaim.holds_of_wide 10 Tryd.f10 rfl rfl rfl rfl rfl rfl rfl ⟨rfl, rfl, rfl, rfl, rfl⟩ rfl rfl rfl rfl rfl (by kernel_rfl) Tryd.func10 (by kernel_rfl)
    (of_decide_eq_true (by kernel_rfl)) (by unfold Func.isWrapper; first | (rw [if_pos (by decide +kernel)]; kernel_rfl) | (rw [if_neg (by decide +kernel)]; exact ⟨rfl, rfl⟩))
    (fun os started H enc _ => lifted os started H enc)

theorem proved : Rows.FnExactShelfForceCardSaid :=
  Claim7.holds_tied_plain_at .later [] [.data, .data, .data, .handle, .sentinel, .sentinel] true (true, "3c6fec435291172a5c816cfac6ba758a706bebda589e5f6f3d11b3c86231c966") true
    over (fun _ h => by cases h) (by kernel_rfl) (fun _ h => by cases h) fnExactShelfForce_row_tie rfl ⟨rfl, rfl⟩ (by kernel_rfl) rfl
    (fun f fn hf hfn => by
      obtain rfl : f = 10 := Option.some.inj ((show Tryd.prog.funcNamed "loop.example/bargeman/laws.FnExactShelfForce" = some 10 by kernel_rfl).symm.trans hf) |>.symm
      obtain rfl : fn = Tryd.f10 := (Option.some.inj (Tryd.func10.symm.trans hfn)).symm
      exact ⟨by kernel_rfl, fun j t ht => by
        rw [Tryd.params10] at ht
        have hm : t ∈ [40] := by simpa using Array.mem_of_getElem? ht
        have hall : ([40].all fun u => !Tryd.prog.wantsStandIn u) = true := by kernel_rfl
        exact (show Tryd.prog.wantsStandIn t = false by simpa using List.all_eq_true.1 hall t hm)⟩)
    (by kernel_rfl)
#print axioms proved
end Go.Proofs.YtapkfajgphkajaaDoor.fnExactShelfForce
