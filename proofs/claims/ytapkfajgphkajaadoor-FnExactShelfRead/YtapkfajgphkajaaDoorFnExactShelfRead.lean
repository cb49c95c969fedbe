/-
  At every text the program's ShelfRead answers as the specification's; the answer can be written over whole and keeps what was written behind another call: the law returns true; the condition of the row: the listed variables of math/bits, strconv and errors read as the program's text lays them (tied by the card).
-/
import Derived.Test.YtapkfajgphkajaaDoorRows
import Derived.Test.YtapkfajgphkajaaDoorCards
import Derived.Test.YtapkfajgphkajaaDoorTie
import Derived.Test.YtapkfajgphkajaaDoorLaid6
import Derived.WalkKit
import Derived.ProofKit
import Derived.OpenShut
import Derived.ShutString
import Derived.ChangeOld
import Derived.Below
import Derived.LaidMore
import Derived.Stop.Joined
import Derived.SevenTiedAt
import Derived.Test.YtapkfajgphkajaaDoorSShRead
import Derived.Test.YtapkfajgphkajaaDoorIShRead
import Derived.Test.YtapkfajgphkajaaDoorStrLists
namespace Go.Proofs.YtapkfajgphkajaaDoor.fnExactShelfRead
open Go.ChangeShapes Go.WideShapes Go.ChangeAt Go.RowKit
open Go.ChangeMaps (open_string shut_string)
open Go.Proofs.YtapkfajgphkajaaDoor.wd Go.Proofs.YtapkfajgphkajaaDoor.ow Go.Proofs.YtapkfajgphkajaaDoor.sh Go.Proofs.YtapkfajgphkajaaDoor.sl
set_option linter.unusedVariables false

theorem own : ownKnob Tryd.prog.godebug = none := by kernel_rfl
theorem laidOut : laidOutB Tryd.prog = true := by kernel_rfl

set_option maxRecDepth 100000 in
set_option maxHeartbeats 4000000 in
theorem walk (s0 : ByteArray) (w : World) (hs0 : s0.size ≤ maxLen) (hE : sh.Env w) :
    Calls Tryd.prog 7 #[.string s0] w fun e w' => e = .returned (.bool true) ∧ Below w.heap.size w w' := by
  unfold maxLen at hs0
  by_cases hg0 : 1048576 < s0.size
  · have hg' : (1048576 : Int) < s0.size := by omega
    go_enter Tryd.func7, Tryd.ntmps7
    go_wp2
    go_ret
    exact ⟨rfl, Below.refl _ _⟩
  have hg' : ¬ (1048576 : Int) < s0.size := by omega
  have hsm : ((rd s0.data.toList).map dc.str).length ≤ 262144 := by
    rw [List.length_map]
    have h2 := lg_count (rd_spec s0.data.toList).1
    have h3 := en_le s0.data.toList
    unfold en at h3
    rw [← Lib.size_eq] at h3
    omega
  have HS := Lib.hid (fun W => sread_any s0 (by omega) W)
  have HI := Lib.hid (fun W (hW : Env W) => iread_any s0 (by omega) W hW.tab hW.errs hW.errT)
  unfold ReadPost at HS HI
  have hrv : recV (rd s0.data.toList) = ((rd s0.data.toList).map dc.str).map Value.string := by simp [recV]
  rw [hrv] at HS HI
  generalize (rd s0.data.toList).map dc.str = l at hsm HS HI
  generalize en s0.data.toList = n at HS HI
  clear hrv
  go_enter Tryd.func7, Tryd.ntmps7
  go_wp2_with fail
  refine (HS.out _).mono ?_
  rintro e w2 ⟨v2, rfl, hI2⟩
  have hE2 := hE.later hI2.2
  go_wp2_with fail
  refine (HI.out _ hE2).mono ?_
  rintro e w3 ⟨v1, rfl, hI1⟩
  have hz1 := hI2.2.size
  have HE := Lib.hid hE2
  clear hE2
  go_wp2_with fail
  refine (eq_same _ _ _ l (sees_of_own hI1) ((sees_of_own hI2).later hI1.2) (by omega)).mono ?_
  rintro e w4 ⟨rfl, q, rfl⟩
  have hM : ow.Own 9 w2 (w3.drewN q) v1 (l.map Value.string) := ⟨hI1.1, below_drewN' hI1.2 q⟩
  have HS2 := Lib.hid (sees_of_own hI2)
  have HM2 := Lib.hid hM.2
  have hlv1 : ∀ g, v1.ownBlock = some g → w2.heap.size ≤ g := fun g hg => (hM.lt hg).1
  have HB := Lib.hid (hI2.2.trans (hM.2.mono hI2.2.size))
  have hz2 := hM.2.size
  clear hI1 hI2 HS
  generalize w3.drewN q = w4 at hM HM2 HB hz2 ⊢
  have hlm : (l.map Value.string).length = l.length := List.length_map _
  have hmk := mark_any hM 1 (by rw [hlm]; omega) (by omega) (by omega)
  rw [hlm] at hmk
  have HK := Lib.hid hmk
  clear hlm hmk hM
  go_wp2_with fail
  refine HK.out.mono ?_
  rintro e w5 ⟨rfl, hS5, hT5⟩
  have hB5 : Below w2.heap.size w4 w5 := hT5.below hlv1 hz2
  have hS25 : SeesS w5 v2 l := HS2.out.later (HM2.out.trans hB5)
  have HB5 := Lib.hid (HB.out.trans (hB5.mono hz1))
  have HE5 := Lib.hid (HE.out.later (HM2.out.trans hB5))
  clear HS2 HM2 HK hB5 hT5 HE
  go_wp2_with fail
  refine (held_any _ _ _ _ hS5 (by omega) (by omega) (by omega)).mono ?_
  rintro e w6 ⟨rfl, hB6⟩
  have hS6 := hS5.later hB6
  have hS26 := hS25.later hB6
  have HB6 := Lib.hid (HB5.out.trans (hB6.mono HB5.out.size))
  have HE6 := Lib.hid (HE5.out.later hB6)
  clear hS5 hS25 hB6
  go_wp2_with fail
  refine (HI.out _ HE6.out).mono ?_
  rintro e w7 ⟨v3, rfl, hI3⟩
  have hS7 := hS6.later hI3.2
  have hS27 := hS26.later hI3.2
  have HB7 := Lib.hid (HB6.out.trans (hI3.2.mono HB6.out.size))
  have hS3 := sees_of_own hI3
  clear hS6 hS26 hI3
  go_wp2_with fail
  refine (eq_same _ _ _ l hS3 hS27 (by omega)).mono ?_
  rintro e w8 ⟨rfl, q', rfl⟩
  have hS8 := hS7.drewN q'
  have HB8 := Lib.hid (below_drewN' HB7.out q')
  clear hS3 hS27 hS7
  generalize w7.drewN q' = w8 at hS8 HB8 ⊢
  go_wp2_with fail
  refine (held_any _ _ _ _ hS8 (by omega) (by omega) (by omega)).mono ?_
  rintro e w9 ⟨rfl, hB9⟩
  have HB9 := Lib.hid (HB8.out.trans (hB9.mono HB8.out.size))
  clear hB9
  go_wp2
  go_ret
  exact ⟨rfl, HB9.out⟩

set_option maxRecDepth 100000 in
theorem lifted (os : Os) (started : os.Started) (H : Type) (enc : TypeId × Value → H) :
    ReturnsInHanded {} Tryd.checked os 7 .any (fun w args => (Rows.fnExactShelfReadSpec.pre enc Tryd.prog Tryd.f7 [] false w args ∧ laidMetH Tryd.prog dc.list6 w) ∧ sizedMet enc Tryd.prog Tryd.f7 (OpenSpec.ofChange Rows.fnExactShelfReadSpec) false w args)
      (Rows.fnExactShelfReadSpec.post enc Tryd.prog Tryd.f7 false true false false) := by
  refine returnsInHanded_of_change_and (C := Tryd.checked) (X := fun w _ => laidMetH Tryd.prog dc.list6 w) (fun _ _ _ hh h => h.of_heap hh) own started (by kernel_rfl) Tryd.func7
    (ChangeSpec.witness_shaped (enc := enc) (C := Tryd.checked) (os := os) (X := fun w _ => laidMetH Tryd.prog dc.list6 w) false (World.doorLaid Tryd.prog 400 os) #[.string ByteArray.empty] 8 rfl (World.shaped_of_RefB (by kernel_rfl) (by kernel_rfl)) (by kernel_rfl) (by kernel_rfl) (by kernel_rfl) (dc.met6 os _)) ?_
  intro W base args ds gs before hval0 hW _ _ hL _
  have hval : ∀ (j : Nat) t v, Tryd.f7.params[j]? = some t → args[j]? = some v → Value.okWide Tryd.prog W .any base t v := hval0
  have hW' := hW
  obtain ⟨p, q, hA0, hV, rfl, hfz, hnd⟩ := hW
  have hA : DataW.TrodAll enc Tryd.prog W 0 (fun _ => true) true Tryd.f7.params.toList args.toList ds p := hA0
  rw [Tryd.params7] at hA hval
  obtain ⟨v0, vs0, d0, ds0, p0, q0, hargs, rfl, rfl, h0, r0⟩ := trodAll_cons hA
  obtain ⟨rfl, rfl, rfl⟩ := trodAll_nil r0
  obtain rfl : args = #[v0] := by cases args; simp_all
  obtain ⟨rfl, rfl⟩ := trodVars_none hV
  have k0 := h0
  have lt0 : ∀ x ∈ p0, x.block < W.heap.size := by obtain ⟨m, hm⟩ := k0; exact DataW.trod_lt m _ _ _ hm
  obtain ⟨s0, rfl, rfl, rfl, hs0⟩ := open_string Tryd.underlying9 (hval 0 9 v0 rfl rfl) h0
  have hE := dc.of_list6 hL
  clear hA0 hval0
  refine (walk s0 W hs0 hE).mono fun e W' ⟨he, bel⟩ => ?_
  subst he
  exact ⟨_, rfl, _, _, _, [], _, [], hW', trodAll_mk1 (shut_bool Tryd.underlying4 _), (trodAll_cons_mk (Below.trod laidOut (by kernel_rfl) (of_decide_eq_true (by kernel_rfl)) k0 bel lt0) trodAll_mk0), rfl, bel.frame _, fun h => by cases h⟩

theorem over : Rows.fnExactShelfReadRow.holds Tryd.pinned (OpenSpec.ofChange Rows.fnExactShelfReadSpec) :=
  OpenClaim.holds_of_wide 7 Tryd.f7 rfl rfl rfl rfl rfl rfl rfl ⟨rfl, rfl, rfl, rfl, rfl⟩ rfl rfl rfl rfl rfl (by kernel_rfl) Tryd.func7 (by kernel_rfl)
    (of_decide_eq_true (by kernel_rfl)) (by unfold Func.isWrapper; first | (rw [if_pos (by decide +kernel)]; kernel_rfl) | (rw [if_neg (by decide +kernel)]; exact ⟨rfl, rfl⟩))
    (fun os started H enc _ => lifted os started H enc)

theorem proved : Rows.FnExactShelfReadCardSaid :=
  Claim7.holds_tied_plain_at .later [] [.data, .data, .data, .handle, .sentinel, .sentinel] true (true, "3c6fec435291172a5c816cfac6ba758a706bebda589e5f6f3d11b3c86231c966") true
    over (fun _ h => by cases h) (by kernel_rfl) (fun _ h => by cases h) fnExactShelfRead_row_tie rfl ⟨rfl, rfl⟩ (by kernel_rfl) rfl
    (fun f fn hf hfn => by
      obtain rfl : f = 7 := Option.some.inj ((show Tryd.prog.funcNamed "loop.example/bargeman/laws.FnExactShelfRead" = some 7 by kernel_rfl).symm.trans hf) |>.symm
      obtain rfl : fn = Tryd.f7 := (Option.some.inj (Tryd.func7.symm.trans hfn)).symm
      exact ⟨by kernel_rfl, fun j t ht => by
        rw [Tryd.params7] at ht
        have hm : t ∈ [9] := by simpa using Array.mem_of_getElem? ht
        have hall : ([9].all fun u => !Tryd.prog.wantsStandIn u) = true := by kernel_rfl
        exact (show Tryd.prog.wantsStandIn t = false by simpa using List.all_eq_true.1 hall t hm)⟩)
    (by kernel_rfl)
#print axioms proved
end Go.Proofs.YtapkfajgphkajaaDoor.fnExactShelfRead
