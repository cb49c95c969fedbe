/-
  At every shelf and list of texts the program's ShelfPack answers as the specification's and leaves the list as it was, so the law returns true; the condition of the row: the listed variables of math/bits, strconv and errors read as the program's text lays them (tied by the card).
-/
import Derived.Test.YtapkfajgphkajaaDoorRows
import Derived.Test.YtapkfajgphkajaaDoorCards
import Derived.Test.YtapkfajgphkajaaDoorTie
import Derived.Test.YtapkfajgphkajaaDoorLaid6
import Derived.Test.YtapkfajgphkajaaDoorShelfIn
import Derived.Test.YtapkfajgphkajaaDoorStrIn
import Derived.WalkKit
import Derived.ProofKit
import Derived.OpenShut
import Derived.ShutString
import Derived.ChangeOld
import Derived.Below
import Derived.LaidMore
import Derived.Stop.Joined
import Derived.SevenTiedAt
import Derived.Test.YtapkfajgphkajaaDoorShelfIn
import Derived.Test.YtapkfajgphkajaaDoorStrIn2
import Derived.Test.YtapkfajgphkajaaDoorSShPack
import Derived.Test.YtapkfajgphkajaaDoorIShPack
namespace Go.Proofs.YtapkfajgphkajaaDoor.fnExactShelfPack
open Go.ChangeShapes Go.WideShapes Go.ChangeAt Go.RowKit
open Go.ChangeMaps (open_string shut_string)
open Go.Proofs.YtapkfajgphkajaaDoor.nb Go.Proofs.YtapkfajgphkajaaDoor.sh Go.Proofs.YtapkfajgphkajaaDoor.sl
set_option linter.unusedVariables false

theorem own : ownKnob Tryd.prog.godebug = none := by kernel_rfl
theorem laidOut : laidOutB Tryd.prog = true := by kernel_rfl

set_option maxRecDepth 100000 in
set_option maxHeartbeats 4000000 in
theorem walk (s0 : ByteArray) (f0 : Int) (a1 : Option Addr) (len1 cap1 : Nat) (l1 : List ByteArray) (w : World) (hs0 : s0.size ≤ maxLen) (hi1 : si.InS w a1 l1) (hl1 : l1.length = len1) (hz1 : ∀ x ∈ l1, x.size ≤ maxLen) (hm1 : len1 ≤ maxLen) (hE : sh.Env w) :
    Calls Tryd.prog 12 #[sh.shv s0 f0, .slice a1 len1 cap1] w fun e w' => e = .returned (.bool true) ∧ Below w.heap.size w w' := by
  subst hl1
  have hb := Box.new w s0 f0
  by_cases hg : 1048576 < s0.size
  · go_enter Tryd.func12, Tryd.ntmps12
    go_wp2_with fail
    generalize w.alloc (.cells #[.string s0, .int .i64 f0] 40) = W at hb ⊢
    refine (szSh_any s0 f0 _ hs0 _ (by omega) (by omega)).mono ?_
    rintro e w1 ⟨rfl, hB1⟩
    rw [if_pos (by omega)]
    have HB1 := Lib.hid (hb.later hB1).bel
    clear hB1 hb
    go_wp2
    go_ret
    exact ⟨rfl, HB1.out⟩
  have hpos : ¬ (1048576 : Int) - s0.size < 0 := by omega
  go_enter Tryd.func12, Tryd.ntmps12
  go_wp2_with fail
  generalize w.alloc (.cells #[.string s0, .int .i64 f0] 40) = W at hb ⊢
  refine (szSh_any s0 f0 _ hs0 _ (by omega) (by omega)).mono ?_
  rintro e w1 ⟨rfl, hB1⟩
  rw [if_neg (by omega)]
  have hb1 := hb.later hB1
  have hi2 := hi1.later hb1.bel
  clear hb hB1
  go_wp2_with fail
  refine (si.sz_any a1 cap1 l1 w1 hi2 hm1 hz1 _ (by omega) (by omega)).mono ?_
  rintro e w2 (⟨hfit, rfl, rfl⟩ | ⟨hno, rfl, rfl⟩)
  case inr =>
    have HB := Lib.hid hb1.bel
    clear hb1 hi2
    go_wp2
    go_ret
    exact ⟨rfl, HB.out⟩
  have hll : l1.length ≤ 1048576 := by omega
  have hpos2 : ¬ (1048576 : Int) - s0.size - ((l1.length + si.sum l1 : Nat) : Int) < 0 := by omega
  have HS := Lib.hid (fun v V hv => spack_any s0 f0 v l1 V (by omega) hv hll)
  have HI := Lib.hid (fun v V hV hv => ipack_any s0 f0 v l1 V hV hv hll)
  unfold ShbPost at HS HI
  generalize packS s0 f0 l1 = x at HS HI
  generalize packF s0 f0 l1 = g at HS HI
  generalize packB s0 f0 l1 = b at HS HI
  obtain ⟨c0, c1⟩ := hb1.cells
  generalize (1048576 : Int) - s0.size - ((l1.length + si.sum l1 : Nat) : Int) = lft at hpos2 ⊢
  clear hfit hm1 hz1
  go_wp2_with fail
  refine (toSh_any s0 f0 _).mono ?_
  rintro e w3 ⟨rfl, hB3⟩
  have hb3 := hb1.later hB3
  have hi3 := hi2.later hB3
  clear hb1 hi2 hB3 c0 c1
  go_wp2_with fail
  refine (si.copy_any _ a1 cap1 l1 hi3 hll).mono ?_
  rintro e w4 ⟨v1, rfl, hO1⟩
  have hb4 := hb3.later hO1.2
  have hi4 := hi3.later hO1.2
  have hv1 := sees_of_own hO1
  clear hb3 hi3 hO1
  go_wp2_with fail
  refine (HS.out _ _ hv1).mono ?_
  rintro e w5 ⟨rfl, hB5⟩
  have hb5 := hb4.later hB5
  have hi5 := hi4.later hB5
  have hx := wd.Blk.new w5 24 #[.string x, .int .i64 g]
  have hb6 := hb5.later ((Below.refl w5.heap.size w5).alloc (Nat.le_refl _) (.cells #[.string x, .int .i64 g] 24))
  have hi6 := hi5.later ((Below.refl w5.heap.size w5).alloc (Nat.le_refl _) (.cells #[.string x, .int .i64 g] 24))
  clear hb4 hi4 hB5 hv1 hb5 hi5 HS
  go_wp2_with fail
  generalize w5.heap.size = r5 at hx ⊢
  generalize w5.alloc (.cells #[.string x, .int .i64 g] 24) = V at hx hb6 hi6 ⊢
  refine (si.copy_any _ a1 cap1 l1 hi6 hll).mono ?_
  rintro e w7 ⟨v2, rfl, hO2⟩
  have hb7 := hb6.later hO2.2
  have hi7 := hi6.later hO2.2
  have hx7 := hx.below hO2.2 hx.lt
  have hv2 := sees_of_own hO2
  obtain ⟨c0, c1⟩ := hb7.cells
  clear hb6 hi6 hx hO2
  go_wp2_with fail
  refine (toSh_any s0 f0 _).mono ?_
  rintro e w8 ⟨rfl, hB8⟩
  have hb8 := hb7.later hB8
  have hi8 := hi7.later hB8
  have hx8 := hx7.below hB8 hx7.lt
  have hv8 := hv2.later hB8
  clear hb7 hi7 hx7 hv2 hB8 c0 c1
  go_wp2_with fail
  refine (HI.out _ _ (hE.later hb8.bel) hv8).mono ?_
  rintro e w9 ⟨rfl, hB9⟩
  have hb9 := hb8.later hB9
  have hi9 := hi8.later hB9
  have hx9 := hx8.below hB9 hx8.lt
  have hv9 := hv8.later hB9
  have d0 := hx9.cell 0
  have d1 := hx9.cell 1
  simp only [List.getElem?_toArray, List.getElem?_cons_zero, List.getElem?_cons_succ] at d0 d1
  have hlt9 := hx9.lt
  have hBA := (Below.refl w9.heap.size w9).alloc (Nat.le_refl _) (.cells #[.string x, .int .i64 g] 24)
  have hbA := hb9.later hBA
  have hiA := hi9.later hBA
  have hvA := hv9.later hBA
  clear hb8 hi8 hx8 hv8 hB9 hx9 hb9 hi9 hv9 HI
  go_wp2_with fail
  refine (eqSh_same x g _).mono ?_
  rintro e wB ⟨rfl, hBB⟩
  have hbB := hbA.later hBB
  have hiB := hiA.later hBB
  have hvB := hvA.later hBB
  clear hbA hiA hvA hBB hBA d0 d1
  have hbb : ((b == b)) = true := by simp
  go_wp2_with fail
  refine (si.copy_any _ a1 cap1 l1 hiB hll).mono ?_
  rintro e wC ⟨v3, rfl, hO3⟩
  have hbC := hbB.later hO3.2
  have hvC := hvB.later hO3.2
  have hv3 := sees_of_own hO3
  clear hbB hiB hvB hO3
  go_wp2_with fail
  refine (eq_same _ _ _ l1 hvC hv3 (by omega)).mono ?_
  rintro e wD ⟨rfl, q, rfl⟩
  have HB := Lib.hid (ow.below_drewN' hbC.bel q)
  clear hbC hvC hv3
  go_wp2
  go_ret
  exact ⟨rfl, HB.out⟩

set_option maxRecDepth 100000 in
theorem lifted (os : Os) (started : os.Started) (H : Type) (enc : TypeId × Value → H) :
    ReturnsInHanded {} Tryd.checked os 12 .any (fun w args => (Rows.fnExactShelfPackSpec.pre enc Tryd.prog Tryd.f12 [] false w args ∧ laidMetH Tryd.prog dc.list6 w) ∧ sizedMet enc Tryd.prog Tryd.f12 (OpenSpec.ofChange Rows.fnExactShelfPackSpec) false w args)
      (Rows.fnExactShelfPackSpec.post enc Tryd.prog Tryd.f12 false true false false) := by
  refine returnsInHanded_of_change_and (C := Tryd.checked) (X := fun w _ => laidMetH Tryd.prog dc.list6 w) (fun _ _ _ hh h => h.of_heap hh) own started (by kernel_rfl) Tryd.func12
    (ChangeSpec.witness_shaped (enc := enc) (C := Tryd.checked) (os := os) (X := fun w _ => laidMetH Tryd.prog dc.list6 w) false (World.doorLaid Tryd.prog 400 os) #[sh.shv ByteArray.empty 0, .slice none 0 0] 8 rfl (World.shaped_of_RefB (by kernel_rfl) (by kernel_rfl)) (by kernel_rfl) (by kernel_rfl) (by kernel_rfl) (dc.met6 os _)) ?_
  intro W base args ds gs before hval0 hW _ _ hL _
  have hval : ∀ (j : Nat) t v, Tryd.f12.params[j]? = some t → args[j]? = some v → Value.okWide Tryd.prog W .any base t v := hval0
  have hW' := hW
  obtain ⟨p, q, hA0, hV, rfl, hfz, hnd⟩ := hW
  have hA : DataW.TrodAll enc Tryd.prog W 0 (fun _ => true) true Tryd.f12.params.toList args.toList ds p := hA0
  rw [Tryd.params12] at hA hval
  obtain ⟨v0, vs0, d0, ds0, p0, q0, hargs, rfl, rfl, h0, r0⟩ := trodAll_cons hA
  obtain ⟨v1, vs1, d1, ds1, p1, q1, rfl, rfl, rfl, h1, r1⟩ := trodAll_cons r0
  obtain ⟨rfl, rfl, rfl⟩ := trodAll_nil r1
  obtain rfl : args = #[v0, v1] := by cases args; simp_all
  obtain ⟨rfl, rfl⟩ := trodVars_none hV
  have k0 := h0
  have lt0 : ∀ x ∈ p0, x.block < W.heap.size := by obtain ⟨m, hm⟩ := k0; exact DataW.trod_lt m _ _ _ hm
  have k1 := h1
  have lt1 : ∀ x ∈ p1, x.block < W.heap.size := by obtain ⟨m, hm⟩ := k1; exact DataW.trod_lt m _ _ _ hm
  obtain ⟨s0, f0, rfl, hs0⟩ := sh.shelf_in (hval 0 40 v0 rfl rfl) h0
  obtain ⟨a1, len1, cap1, rfl⟩ := okWide_slice Tryd.underlying27 (hval 1 27 v1 rfl rfl)
  obtain ⟨l1, hi1, hl1, hz1, hm1⟩ := si.ins_in h1
  have hE := dc.of_list6 hL
  clear hA0 hval0
  refine (walk s0 f0 a1 len1 cap1 l1 W hs0 hi1 hl1 hz1 hm1 hE).mono fun e W' ⟨he, bel⟩ => ?_
  subst he
  exact ⟨_, rfl, _, _, _, [], _, [], hW', trodAll_mk1 (shut_bool Tryd.underlying4 _), (trodAll_cons_mk (Below.trod laidOut (by kernel_rfl) (of_decide_eq_true (by kernel_rfl)) k0 bel lt0) (trodAll_cons_mk (Below.trod laidOut (by kernel_rfl) (of_decide_eq_true (by kernel_rfl)) k1 bel lt1) trodAll_mk0)), rfl, bel.frame _, fun h => by cases h⟩

theorem over : Rows.fnExactShelfPackRow.holds Tryd.pinned (OpenSpec.ofChange Rows.fnExactShelfPackSpec) :=
  OpenClaim.holds_of_wide 12 Tryd.f12 rfl rfl rfl rfl rfl rfl rfl ⟨rfl, rfl, rfl, rfl, rfl⟩ rfl rfl rfl rfl rfl (by kernel_rfl) Tryd.func12 (by kernel_rfl)
    (of_decide_eq_true (by kernel_rfl)) (by unfold Func.isWrapper; first | (rw [if_pos (by decide +kernel)]; kernel_rfl) | (rw [if_neg (by decide +kernel)]; exact ⟨rfl, rfl⟩))
    (fun os started H enc _ => lifted os started H enc)

theorem proved : Rows.FnExactShelfPackCardSaid :=
  Claim7.holds_tied_plain_at .later [] [.data, .data, .data, .handle, .sentinel, .sentinel] true (true, "3c6fec435291172a5c816cfac6ba758a706bebda589e5f6f3d11b3c86231c966") true
    over (fun _ h => by cases h) (by kernel_rfl) (fun _ h => by cases h) fnExactShelfPack_row_tie rfl ⟨rfl, rfl⟩ (by kernel_rfl) rfl
    (fun f fn hf hfn => by
      obtain rfl : f = 12 := Option.some.inj ((show Tryd.prog.funcNamed "loop.example/bargeman/laws.FnExactShelfPack" = some 12 by kernel_rfl).symm.trans hf) |>.symm
      obtain rfl : fn = Tryd.f12 := (Option.some.inj (Tryd.func12.symm.trans hfn)).symm
      exact ⟨by kernel_rfl, fun j t ht => by
        rw [Tryd.params12] at ht
        have hm : t ∈ [40, 27] := by simpa using Array.mem_of_getElem? ht
        have hall : ([40, 27].all fun u => !Tryd.prog.wantsStandIn u) = true := by kernel_rfl
        exact (show Tryd.prog.wantsStandIn t = false by simpa using List.all_eq_true.1 hall t hm)⟩)
    (by kernel_rfl)
#print axioms proved
end Go.Proofs.YtapkfajgphkajaaDoor.fnExactShelfPack
