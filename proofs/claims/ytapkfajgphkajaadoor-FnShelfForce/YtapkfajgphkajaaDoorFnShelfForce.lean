/-
  Whatever the code: of the shelf drawn by it ShelfForce answers as the specification's, forces all and changes nothing else, and behind a fall it is the same: the law returns true; the condition of the row: the listed variables of math/bits, strconv and errors read as the program's text lays them (tied by the card).
-/
import Derived.Test.YtapkfajgphkajaaDoorRows
import Derived.Test.YtapkfajgphkajaaDoorCards
import Derived.Test.YtapkfajgphkajaaDoorTie
import Derived.Test.YtapkfajgphkajaaDoorLaid6
import Derived.Test.YtapkfajgphkajaaDoorDraw0
import Derived.WalkKit
import Derived.ProofKit
import Derived.OpenShut
import Derived.ShutString
import Derived.ChangeOld
import Derived.Below
import Derived.LaidMore
import Derived.Stop.Joined
import Derived.SevenTiedAt
import Derived.Test.YtapkfajgphkajaaDoorDrawShForce
import Derived.Test.YtapkfajgphkajaaDoorIShFall
import Derived.Test.YtapkfajgphkajaaDoorSShOk
import Derived.Test.YtapkfajgphkajaaDoorLawPlain
import Derived.Deep.RegionHeld3
import Derived.Deep.RegionWith
namespace Go.Proofs.YtapkfajgphkajaaDoor.fnShelfForce
open Go.ChangeShapes Go.WideShapes Go.ChangeAt Go.RowKit
open Go.ChangeMaps (open_string shut_string)
open Go.Proofs.YtapkfajgphkajaaDoor.nb Go.Proofs.YtapkfajgphkajaaDoor.sh Go.Proofs.YtapkfajgphkajaaDoor.dr Go.Proofs.YtapkfajgphkajaaDoor.wd
set_option linter.unusedVariables false

theorem own : ownKnob Tryd.prog.godebug = none := by kernel_rfl
theorem laidOut : laidOutB Tryd.prog = true := by kernel_rfl

set_option maxRecDepth 100000 in
set_option maxHeartbeats 4000000 in
theorem walk (a0 : Option Addr) (len0 cap0 : Nat) (w : World) (hb0 : wd.Bytes w w.heap.size a0 len0) (hl0 : len0 ≤ cap0) (hm0 : cap0 ≤ maxLen) (hE : sh.Env w) :
    Calls Tryd.prog 5 #[.slice a0 len0 cap0] w fun e w' => e = .returned (.bool true) ∧ Below w.heap.size w w' := by
  have hm0' : cap0 ≤ 9223372036854775807 := hm0
  by_cases hg0 : 1048576 < len0
  · go_enter Tryd.func5, Tryd.ntmps5
    go_wp2
    go_ret
    exact ⟨rfl, Below.refl _ _⟩
  go_enter Tryd.func5, Tryd.ntmps5
  go_wp2_with fail
  refine (drawShelfForce _ _ _ _ hb0 hl0 hm0).mono ?_
  rintro e w1 ⟨s, f, rfl, hs, hB1⟩
  have HS := Lib.hid (fun V => sforce_of (fun _ => True) (fun _ _ _ _ => trivial) s f (fun V _ => sok_any s f V (by omega)) V trivial)
  have HI := Lib.hid (fun V hV => iforce_of Env (fun _ _ h hb => h.later hb) s f (fun V hV => iok_any s f V hV) V hV)
  have HO := Lib.hid (fun V => sok_any s f V (by omega))
  have HL := Lib.hid (fun V hV => ifall_any (forceS s f) (forceF s f) 0 V hV)
  have HP := Lib.hid (fun h => force_law (s := s) (f := f) h)
  unfold ShPost at HS HI HL
  generalize forceS s f = x at HS HI HL HP
  generalize forceF s f = g at HS HI HL HP
  have k1 := Blk.new w1 24 #[.string s, .int .i64 f]
  have hB2 := hB1.alloc hB1.size (.cells #[.string s, .int .i64 f] 24)
  clear hB1 hb0
  go_wp2_with fail
  generalize w1.heap.size = R0 at k1 ⊢
  generalize w1.alloc (.cells #[.string s, .int .i64 f] 24) = V1 at k1 hB2 ⊢
  refine (HS.out _).mono ?_
  rintro e w2 ⟨rfl, hB3⟩
  have k2 := k1.below hB3 k1.lt
  have hB4 := hB2.trans (hB3.mono hB2.size)
  have c0 := k2.cell 0
  have c1 := k2.cell 1
  simp only [List.getElem?_toArray, List.getElem?_cons_zero, List.getElem?_cons_succ] at c0 c1
  have l01 := k2.lt
  have n2 := Blk.new w2 24 #[.string x, .int .i64 g]
  have k3 := k2.alloc (.cells #[.string x, .int .i64 g] 24)
  have hB5 := hB4.alloc hB4.size (.cells #[.string x, .int .i64 g] 24)
  clear k1 hB2 hB3 k2 hB4 HS
  go_wp2_with fail
  generalize w2.heap.size = R1 at n2 l01 ⊢
  generalize w2.alloc (.cells #[.string x, .int .i64 g] 24) = V2 at k3 n2 hB5 ⊢
  refine (HI.out _ (hE.later hB5)).mono ?_
  rintro e w3 ⟨rfl, hB6⟩
  have k4 := k3.below hB6 k3.lt
  have n4 := n2.below hB6 n2.lt
  have hB7 := hB5.trans (hB6.mono hB5.size)
  clear c0 c1
  have c0 := k4.cell 0
  have c1 := k4.cell 1
  have d0 := n4.cell 0
  have d1 := n4.cell 1
  simp only [List.getElem?_toArray, List.getElem?_cons_zero, List.getElem?_cons_succ] at c0 c1 d0 d1
  have l02 := k4.lt
  have l12 := n4.lt
  have m3 := Blk.new w3 24 #[.string x, .int .i64 g]
  have k5 := k4.alloc (.cells #[.string x, .int .i64 g] 24)
  have n5 := n4.alloc (.cells #[.string x, .int .i64 g] 24)
  have hB8 := hB7.alloc hB7.size (.cells #[.string x, .int .i64 g] 24)
  clear k3 n2 hB5 hB6 k4 n4 hB7 HI
  go_wp2_with fail
  generalize w3.heap.size = R2 at m3 l02 l12 ⊢
  generalize w3.alloc (.cells #[.string x, .int .i64 g] 24) = V3 at k5 n5 m3 hB8 ⊢
  refine (HO.out _).mono ?_
  rintro e w4 ⟨rfl, hB9⟩
  have k6 := k5.below hB9 k5.lt
  have n6 := n5.below hB9 n5.lt
  have m6 := m3.below hB9 m3.lt
  have HBA := Lib.hid (hB8.trans (hB9.mono hB8.size))
  clear c0 c1 d0 d1
  have c0 := k6.cell 0
  have d0 := n6.cell 0
  have d1 := n6.cell 1
  have e0 := m6.cell 0
  have e1 := m6.cell 1
  simp only [List.getElem?_toArray, List.getElem?_cons_zero, List.getElem?_cons_succ] at c0 d0 d1 e0 e1
  have HE4 := Lib.hid (hE.later HBA.out)
  have HK6 := Lib.hid k6
  have HM6 := Lib.hid m6
  clear k5 n5 m3 hB8 hB9 k6 n6 m6
  cases hok : okSh s f with
  | false =>
    go_wp2
    go_ret
    exact ⟨rfl, HBA.out⟩
  | true =>
    obtain ⟨p1, p2, p3, p4⟩ := HP.out hok
    rw [p3, p4] at HL
    subst p1
    subst p2
    clear p3 p4 HP HO
    go_wp2_with fail
    go_region_held3 (fun U => U.cell? ⟨R2, 0, none⟩ = some (.string x) ∧ U.cell? ⟨R2, 1, none⟩ = some (.int .i64 (x.size : Nat)) ∧ U.cell? ⟨R0, 0, none⟩ = some (.string x)) (first | exact ⟨e0, e1, c0⟩ | exact ⟨q0, q1, q2⟩) ((go_at_call 21; refine (HL.out _ (by first | exact HE4.out | exact ⟨HE4.out.tab, HE4.out.errs, HE4.out.errT⟩)).mono ?_; rintro e w5 ⟨rfl, hBB⟩; have q0 := (hBB.cell (p := ⟨R2, 0, none⟩) HM6.out.lt).trans e0; have q1 := (hBB.cell (p := ⟨R2, 1, none⟩) HM6.out.lt).trans e1; have q2 := (hBB.cell (p := ⟨R0, 0, none⟩) HK6.out.lt).trans c0))
    go_wp2
    go_ret
    exact ⟨rfl, (show Below w.heap.size w w4.drew from ⟨HBA.out.os, HBA.out.tape, HBA.out.output, HBA.out.size, HBA.out.block⟩).trans (hBB.mono HBA.out.size)⟩

set_option maxRecDepth 100000 in
theorem lifted (os : Os) (started : os.Started) (H : Type) (enc : TypeId × Value → H) :
    ReturnsInHanded {} Tryd.checked os 5 .any (fun w args => (Rows.fnShelfForceSpec.pre enc Tryd.prog Tryd.f5 [] false w args ∧ laidMetH Tryd.prog dc.list6 w) ∧ sizedMet enc Tryd.prog Tryd.f5 (OpenSpec.ofChange Rows.fnShelfForceSpec) false w args)
      (Rows.fnShelfForceSpec.post enc Tryd.prog Tryd.f5 false true false false) := by
  refine returnsInHanded_of_change_and (C := Tryd.checked) (X := fun w _ => laidMetH Tryd.prog dc.list6 w) (fun _ _ _ hh h => h.of_heap hh) own started (by kernel_rfl) Tryd.func5
    (ChangeSpec.witness_shaped (enc := enc) (C := Tryd.checked) (os := os) (X := fun w _ => laidMetH Tryd.prog dc.list6 w) false (World.doorLaid Tryd.prog 400 os) #[.slice none 0 0] 8 rfl (World.shaped_of_RefB (by kernel_rfl) (by kernel_rfl)) (by kernel_rfl) (by kernel_rfl) (by kernel_rfl) (dc.met6 os _)) ?_
  intro W base args ds gs before hval0 hW _ _ hL _
  have hval : ∀ (j : Nat) t v, Tryd.f5.params[j]? = some t → args[j]? = some v → Value.okWide Tryd.prog W .any base t v := hval0
  have hW' := hW
  obtain ⟨p, q, hA0, hV, rfl, hfz, hnd⟩ := hW
  have hA : DataW.TrodAll enc Tryd.prog W 0 (fun _ => true) true Tryd.f5.params.toList args.toList ds p := hA0
  rw [Tryd.params5] at hA hval
  obtain ⟨v0, vs0, d0, ds0, p0, q0, hargs, rfl, rfl, h0, r0⟩ := trodAll_cons hA
  obtain ⟨rfl, rfl, rfl⟩ := trodAll_nil r0
  obtain rfl : args = #[v0] := by cases args; simp_all
  obtain ⟨rfl, rfl⟩ := trodVars_none hV
  have k0 := h0
  have lt0 : ∀ x ∈ p0, x.block < W.heap.size := by obtain ⟨m, hm⟩ := k0; exact DataW.trod_lt m _ _ _ hm
  obtain ⟨a0, len0, cap0, rfl⟩ := okWide_slice Tryd.underlying22 (hval 0 22 v0 rfl rfl)
  obtain ⟨hb0, hl0, hm0⟩ : wd.Bytes W W.heap.size a0 len0 ∧ len0 ≤ cap0 ∧ cap0 ≤ maxLen := by
    obtain ⟨fuel, hf⟩ := h0
    rcases open_ints Tryd.underlying22 Tryd.underlying5 (by kernel_rfl) hf with ⟨hcs, _⟩ | ⟨x, l, c, zs, hcs, _, hl, hm, hz, _, hcell, hwz⟩
    · simp [Value.cells] at hcs
      obtain ⟨rfl, rfl, rfl⟩ := hcs
      exact dr.bytes_of_row (zs := []) (.inl ⟨rfl, rfl, rfl, rfl⟩)
    · simp [Value.cells] at hcs
      obtain ⟨rfl, rfl, rfl⟩ := hcs
      exact dr.bytes_of_row (.inr ⟨_, rfl, hl, hm, by simpa using hz, hcell, hwz⟩)
  have hE := dc.of_list6 hL
  clear hA0 hval0
  refine (walk a0 len0 cap0 W hb0 hl0 hm0 hE).mono fun e W' ⟨he, bel⟩ => ?_
  subst he
  exact ⟨_, rfl, _, _, _, [], _, [], hW', trodAll_mk1 (shut_bool Tryd.underlying4 _), (trodAll_cons_mk (Below.trod laidOut (by kernel_rfl) (of_decide_eq_true (by kernel_rfl)) k0 bel lt0) trodAll_mk0), rfl, bel.frame _, fun h => by cases h⟩

theorem over : Rows.fnShelfForceRow.holds Tryd.pinned (OpenSpec.ofChange Rows.fnShelfForceSpec) :=
  OpenClaim.holds_of_wide 5 Tryd.f5 rfl rfl rfl rfl rfl rfl rfl ⟨rfl, rfl, rfl, rfl, rfl⟩ rfl rfl rfl rfl rfl (by kernel_rfl) Tryd.func5 (by kernel_rfl)
    (of_decide_eq_true (by kernel_rfl)) (by unfold Func.isWrapper; first | (rw [if_pos (by decide +kernel)]; kernel_rfl) | (rw [if_neg (by decide +kernel)]; exact ⟨rfl, rfl⟩))
    (fun os started H enc _ => lifted os started H enc)

theorem proved : Rows.FnShelfForceCardSaid :=
  Claim7.holds_tied_plain_at .later [] [.data, .data, .data, .handle, .sentinel, .sentinel] true (true, "3c6fec435291172a5c816cfac6ba758a706bebda589e5f6f3d11b3c86231c966") true
    over (fun _ h => by cases h) (by kernel_rfl) (fun _ h => by cases h) fnShelfForce_row_tie rfl ⟨rfl, rfl⟩ (by kernel_rfl) rfl
    (fun f fn hf hfn => by
      obtain rfl : f = 5 := Option.some.inj ((show Tryd.prog.funcNamed "loop.example/bargeman/laws.FnShelfForce" = some 5 by kernel_rfl).symm.trans hf) |>.symm
      obtain rfl : fn = Tryd.f5 := (Option.some.inj (Tryd.func5.symm.trans hfn)).symm
      exact ⟨by kernel_rfl, fun j t ht => by
        rw [Tryd.params5] at ht
        have hm : t ∈ [22] := by simpa using Array.mem_of_getElem? ht
        have hall : ([22].all fun u => !Tryd.prog.wantsStandIn u) = true := by kernel_rfl
        exact (show Tryd.prog.wantsStandIn t = false by simpa using List.all_eq_true.1 hall t hm)⟩)
    (by kernel_rfl)
#print axioms proved
end Go.Proofs.YtapkfajgphkajaaDoor.fnShelfForce
