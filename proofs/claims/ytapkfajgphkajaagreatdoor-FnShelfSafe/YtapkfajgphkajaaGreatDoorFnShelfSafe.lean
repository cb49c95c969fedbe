/-
  Whatever the code: of the shelf and the text drawn by it ShelfAdd answers as the specification's; what was added and forced is there behind a fall: the law returns true; the condition of the row: the listed variables of math/bits, strconv and errors read as the program's text lays them (tied by the card).
-/
import Derived.Test.YtapkfajgphkajaaGreatDoorRows
import Derived.Test.YtapkfajgphkajaaGreatDoorCards
import Derived.Test.YtapkfajgphkajaaGreatDoorTie
import Derived.Test.YtapkfajgphkajaaGreatDoorLaid6
import Derived.Test.YtapkfajgphkajaaGreatDoorDraw0
import Derived.WalkKit
import Derived.ProofKit
import Derived.OpenShut
import Derived.ShutString
import Derived.ChangeOld
import Derived.Below
import Derived.LaidMore
import Derived.Stop.Joined
import Derived.SevenTiedAt
import Derived.Test.YtapkfajgphkajaaGreatDoorDrawShAdd
import Derived.Test.YtapkfajgphkajaaGreatDoorSShAdd
import Derived.Test.YtapkfajgphkajaaGreatDoorIShAdd
import Derived.Test.YtapkfajgphkajaaGreatDoorIShFall
import Derived.Test.YtapkfajgphkajaaGreatDoorShForce
import Derived.Test.YtapkfajgphkajaaGreatDoorLawPlain
import Derived.Deep.RegionHeld3
import Derived.Deep.RegionWith
namespace Go.Proofs.YtapkfajgphkajaaGreatDoor.fnShelfSafe
open Go.ChangeShapes Go.WideShapes Go.ChangeAt Go.RowKit
open Go.ChangeMaps (open_string shut_string)
open Go.Proofs.YtapkfajgphkajaaGreatDoor.nb Go.Proofs.YtapkfajgphkajaaGreatDoor.sh Go.Proofs.YtapkfajgphkajaaGreatDoor.dr Go.Proofs.YtapkfajgphkajaaGreatDoor.wd
set_option linter.unusedVariables false

theorem own : ownKnob Tryz.prog.godebug = none := by kernel_rfl
theorem laidOut : laidOutB Tryz.prog = true := by kernel_rfl

set_option maxRecDepth 100000 in
set_option maxHeartbeats 4000000 in
theorem walk (a0 : Option Addr) (len0 cap0 : Nat) (w : World) (hb0 : wd.Bytes w w.heap.size a0 len0) (hl0 : len0 ≤ cap0) (hm0 : cap0 ≤ maxLen) (hE : sh.Env w) :
    Calls Tryz.prog 7 #[.slice a0 len0 cap0] w fun e w' => e = .returned (.bool true) ∧ Below w.heap.size w w' := by
  have hm0' : cap0 ≤ 9223372036854775807 := hm0
  by_cases hg0 : 1048576 < len0
  · go_enter Tryz.func7, Tryz.ntmps7
    go_wp2
    go_ret
    exact ⟨rfl, Below.refl _ _⟩
  go_enter Tryz.func7, Tryz.ntmps7
  go_wp2_with fail
  refine (drawShelfAdd _ _ _ _ hb0 hl0 hm0).mono ?_
  rintro e w1 ⟨s, f, r, rfl, hs, hr, hB1⟩
  have HS := Lib.hid (fun V => sadd_any s f r V (by omega))
  have HI := Lib.hid (fun V hV => iadd_any s f r V hV)
  have HF := Lib.hid (fun V hV => iforce_of Env (fun _ _ h hb => h.later hb) (addS s f r) (addF s f) (fun V hV => iok_any (addS s f r) (addF s f) V hV) V hV)
  have HL := Lib.hid (fun V hV => ifall_any (addS s f r) ((addS s f r).size : Nat) 0 V hV)
  have HP := Lib.hid (show addB s f r = true → okSh (addS s f r) (addF s f) = true from fun h => by
    unfold addB at h
    rw [Bool.and_eq_true] at h
    have := (add_law h.1 h.2).2.2
    unfold addS addF
    rw [if_pos h.1, if_pos h.1, if_pos h.2]
    exact this)
  unfold ShbPost at HS HI
  unfold ShPost at HF HL
  generalize addS s f r = x at HS HI HF HL HP
  generalize addF s f = g at HS HI HF HL HP
  generalize addB s f r = d at HS HI HP
  have k1 := Blk.new w1 24 #[.string s, .int .i64 f]
  have hB2 := hB1.alloc hB1.size (.cells #[.string s, .int .i64 f] 24)
  clear hB1 hb0
  go_wp2_with fail
  generalize w1.heap.size = R0 at k1 ⊢
  generalize w1.alloc (.cells #[.string s, .int .i64 f] 24) = V1 at k1 hB2 ⊢
  refine (HS.out _).mono ?_
  rintro e w2 ⟨rfl, hB3⟩
  have k2 := k1.below hB3 k1.lt
  have hB4 := hB2.trans (hB3.mono hB2.size)
  have c0 := k2.cell 0
  have c1 := k2.cell 1
  simp only [List.getElem?_toArray, List.getElem?_cons_zero, List.getElem?_cons_succ] at c0 c1
  have l01 := k2.lt
  have n2 := Blk.new w2 24 #[.string x, .int .i64 g]
  have k3 := k2.alloc (.cells #[.string x, .int .i64 g] 24)
  have hB5 := hB4.alloc hB4.size (.cells #[.string x, .int .i64 g] 24)
  clear k1 hB2 hB3 k2 hB4 HS
  go_wp2_with fail
  generalize w2.heap.size = R1 at n2 l01 ⊢
  generalize w2.alloc (.cells #[.string x, .int .i64 g] 24) = V2 at k3 n2 hB5 ⊢
  refine (HI.out _ (hE.later hB5)).mono ?_
  rintro e w3 ⟨rfl, hB6⟩
  have k4 := k3.below hB6 k3.lt
  have n4 := n2.below hB6 n2.lt
  have hB7 := hB5.trans (hB6.mono hB5.size)
  clear c0 c1
  have c0 := k4.cell 0
  have c1 := k4.cell 1
  have d0 := n4.cell 0
  have d1 := n4.cell 1
  simp only [List.getElem?_toArray, List.getElem?_cons_zero, List.getElem?_cons_succ] at c0 c1 d0 d1
  have l02 := k4.lt
  have l12 := n4.lt
  have m3 := Blk.new w3 24 #[.string x, .int .i64 g]
  have k5 := k4.alloc (.cells #[.string x, .int .i64 g] 24)
  have n5 := n4.alloc (.cells #[.string x, .int .i64 g] 24)
  have hB8 := hB7.alloc hB7.size (.cells #[.string x, .int .i64 g] 24)
  clear k3 n2 hB5 hB6 k4 n4 hB7 HI
  have HBA := Lib.hid hB8
  clear d0 d1
  have d0 := n5.cell 0
  have d1 := n5.cell 1
  have e0 := m3.cell 0
  have e1 := m3.cell 1
  simp only [List.getElem?_toArray, List.getElem?_cons_zero, List.getElem?_cons_succ] at d0 d1 e0 e1
  have HE4 := Lib.hid (hE.later HBA.out)
  have HM6 := Lib.hid m3
  clear k5 n5 m3 hB8 c0 c1 l01 l02 l12
  cases d with
  | false =>
    go_wp2
    go_ret
    exact ⟨rfl, HBA.out⟩
  | true =>
    have hok := HP.out rfl
    obtain ⟨p1, p2, _, _⟩ := force_law hok
    obtain ⟨p3, p4⟩ := fall_same (ok_whole hok) 0
    rw [p1, p2] at HF
    rw [p3, p4] at HL
    have hfld : ∀ V : World, (Instr.field 24 (shv x (x.size : Nat)) 0).run Tryz.prog V = .ok (.string x) V := fun V => by kernel_rfl
    clear p1 p2 p3 p4 HP hok
    go_wp2_with fail
    generalize w3.heap.size = R2 at HM6 e0 e1 ⊢
    generalize w3.alloc (.cells #[.string x, .int .i64 g] 24) = V3 at HM6 HBA HE4 d0 d1 e0 e1 ⊢
    go_region_held3 (fun U => U.cell? ⟨R2, 0, none⟩ = some (.string x) ∧ U.cell? ⟨R2, 1, none⟩ = some (.int .i64 g)) (first | exact ⟨e0, e1⟩ | exact ⟨r0, r1⟩ | exact ⟨q0, q1⟩) ((first | (go_at_call 20; refine (HF.out _ (by first | exact HE4.out | exact ⟨HE4.out.tab, HE4.out.errs, HE4.out.errT⟩)).mono ?_; clear HF; rintro e w5 ⟨rfl, hBB⟩; have q0 := (hBB.cell (p := ⟨R2, 0, none⟩) HM6.out.lt).trans e0; have q1 := (hBB.cell (p := ⟨R2, 1, none⟩) HM6.out.lt).trans e1; have HE5 := Lib.hid ((show Env V3.drew from ⟨HE4.out.tab, HE4.out.errs, HE4.out.errT⟩).later hBB)) | (go_at_call 19; refine (HL.out _ (by first | exact HE5.out | exact ⟨HE5.out.tab, HE5.out.errs, HE5.out.errT⟩)).mono ?_; rintro e w6 ⟨rfl, hBC⟩; have r0 := (hBC.cell (p := ⟨R2, 0, none⟩) (Nat.lt_of_lt_of_le HM6.out.lt hBB.size)).trans q0; have r1 := (hBC.cell (p := ⟨R2, 1, none⟩) (Nat.lt_of_lt_of_le HM6.out.lt hBB.size)).trans q1)))
    go_wp2
    go_ret
    exact ⟨rfl, (show Below w.heap.size w V3.drew from ⟨HBA.out.os, HBA.out.tape, HBA.out.output, HBA.out.size, HBA.out.block⟩).trans ((hBB.trans (hBC.mono hBB.size)).mono HBA.out.size)⟩

set_option maxRecDepth 100000 in
theorem lifted (os : Os) (started : os.Started) (H : Type) (enc : TypeId × Value → H) :
    ReturnsInHanded {} Tryz.checked os 7 .any (fun w args => (Rows.fnShelfSafeSpec.pre enc Tryz.prog Tryz.f7 [] false w args ∧ laidMetH Tryz.prog dc.list6 w) ∧ sizedMet enc Tryz.prog Tryz.f7 (OpenSpec.ofChange Rows.fnShelfSafeSpec) false w args)
      (Rows.fnShelfSafeSpec.post enc Tryz.prog Tryz.f7 false true false false) := by
  refine returnsInHanded_of_change_and (C := Tryz.checked) (X := fun w _ => laidMetH Tryz.prog dc.list6 w) (fun _ _ _ hh h => h.of_heap hh) own started (by kernel_rfl) Tryz.func7
    (ChangeSpec.witness_shaped (enc := enc) (C := Tryz.checked) (os := os) (X := fun w _ => laidMetH Tryz.prog dc.list6 w) false (World.doorLaid Tryz.prog 400 os) #[.slice none 0 0] 8 rfl (World.shaped_of_RefB (by kernel_rfl) (by kernel_rfl)) (by kernel_rfl) (by kernel_rfl) (by kernel_rfl) (dc.met6 os _)) ?_
  intro W base args ds gs before hval0 hW _ _ hL _
  have hval : ∀ (j : Nat) t v, Tryz.f7.params[j]? = some t → args[j]? = some v → Value.okWide Tryz.prog W .any base t v := hval0
  have hW' := hW
  obtain ⟨p, q, hA0, hV, rfl, hfz, hnd⟩ := hW
  have hA : DataW.TrodAll enc Tryz.prog W 0 (fun _ => true) true Tryz.f7.params.toList args.toList ds p := hA0
  rw [Tryz.params7] at hA hval
  obtain ⟨v0, vs0, d0, ds0, p0, q0, hargs, rfl, rfl, h0, r0⟩ := trodAll_cons hA
  obtain ⟨rfl, rfl, rfl⟩ := trodAll_nil r0
  obtain rfl : args = #[v0] := by cases args; simp_all
  obtain ⟨rfl, rfl⟩ := trodVars_none hV
  have k0 := h0
  have lt0 : ∀ x ∈ p0, x.block < W.heap.size := by obtain ⟨m, hm⟩ := k0; exact DataW.trod_lt m _ _ _ hm
  obtain ⟨a0, len0, cap0, rfl⟩ := okWide_slice Tryz.underlying22 (hval 0 22 v0 rfl rfl)
  obtain ⟨hb0, hl0, hm0⟩ : wd.Bytes W W.heap.size a0 len0 ∧ len0 ≤ cap0 ∧ cap0 ≤ maxLen := by
    obtain ⟨fuel, hf⟩ := h0
    rcases open_ints Tryz.underlying22 Tryz.underlying5 (by kernel_rfl) hf with ⟨hcs, _⟩ | ⟨x, l, c, zs, hcs, _, hl, hm, hz, _, hcell, hwz⟩
    · simp [Value.cells] at hcs
      obtain ⟨rfl, rfl, rfl⟩ := hcs
      exact dr.bytes_of_row (zs := []) (.inl ⟨rfl, rfl, rfl, rfl⟩)
    · simp [Value.cells] at hcs
      obtain ⟨rfl, rfl, rfl⟩ := hcs
      exact dr.bytes_of_row (.inr ⟨_, rfl, hl, hm, by simpa using hz, hcell, hwz⟩)
  have hE := dc.of_list6 hL
  clear hA0 hval0
  refine (walk a0 len0 cap0 W hb0 hl0 hm0 hE).mono fun e W' ⟨he, bel⟩ => ?_
  subst he
  exact ⟨_, rfl, _, _, _, [], _, [], hW', trodAll_mk1 (shut_bool Tryz.underlying4 _), (trodAll_cons_mk (Below.trod laidOut (by kernel_rfl) (of_decide_eq_true (by kernel_rfl)) k0 bel lt0) trodAll_mk0), rfl, bel.frame _, fun h => by cases h⟩

theorem over : Rows.fnShelfSafeRow.holds Tryz.pinned (OpenSpec.ofChange Rows.fnShelfSafeSpec) :=
  OpenClaim.holds_of_wide 7 Tryz.f7 rfl rfl rfl rfl rfl rfl rfl ⟨rfl, rfl, rfl, rfl, rfl⟩ rfl rfl rfl rfl rfl (by kernel_rfl) Tryz.func7 (by kernel_rfl)
    (of_decide_eq_true (by kernel_rfl)) (by unfold Func.isWrapper; first | (rw [if_pos (by decide +kernel)]; kernel_rfl) | (rw [if_neg (by decide +kernel)]; exact ⟨rfl, rfl⟩))
    (fun os started H enc _ => lifted os started H enc)

theorem proved : Rows.FnShelfSafeCardSaid :=
  Claim7.holds_tied_plain_at .later [] [.data, .data, .data, .handle, .sentinel, .sentinel] true (true, "c3baf9d8a977e26dd941f862af409529b56fe696911727dd0041dd0408c343d6") true
    over (fun _ h => by cases h) (by kernel_rfl) (fun _ h => by cases h) fnShelfSafe_row_tie rfl ⟨rfl, rfl⟩ (by kernel_rfl) rfl
    (fun f fn hf hfn => by
      obtain rfl : f = 7 := Option.some.inj ((show Tryz.prog.funcNamed "loop.example/bargeman/laws.FnShelfSafe" = some 7 by kernel_rfl).symm.trans hf) |>.symm
      obtain rfl : fn = Tryz.f7 := (Option.some.inj (Tryz.func7.symm.trans hfn)).symm
      exact ⟨by kernel_rfl, fun j t ht => by
        rw [Tryz.params7] at ht
        have hm : t ∈ [22] := by simpa using Array.mem_of_getElem? ht
        have hall : ([22].all fun u => !Tryz.prog.wantsStandIn u) = true := by kernel_rfl
        exact (show Tryz.prog.wantsStandIn t = false by simpa using List.all_eq_true.1 hall t hm)⟩)
    (by kernel_rfl)
#print axioms proved
end Go.Proofs.YtapkfajgphkajaaGreatDoor.fnShelfSafe
