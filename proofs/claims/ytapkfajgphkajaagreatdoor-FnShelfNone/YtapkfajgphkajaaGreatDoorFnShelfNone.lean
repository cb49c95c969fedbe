/-
  Whatever the code: of the shelf drawn by it ShelfAdd refuses the empty text, as the specification's does, and a text of 61 bytes; a proper shelf is then as it was: the law returns true; the condition of the row: the listed variables of math/bits, strconv and errors read as the program's text lays them (tied by the card).
-/
import Derived.Test.YtapkfajgphkajaaGreatDoorRows
import Derived.Test.YtapkfajgphkajaaGreatDoorCards
import Derived.Test.YtapkfajgphkajaaGreatDoorTie
import Derived.Test.YtapkfajgphkajaaGreatDoorLaid6
import Derived.Test.YtapkfajgphkajaaGreatDoorDraw0
import Derived.WalkKit
import Derived.ProofKit
import Derived.OpenShut
import Derived.ShutString
import Derived.ChangeOld
import Derived.Below
import Derived.LaidMore
import Derived.Stop.Joined
import Derived.SevenTiedAt
import Derived.Test.YtapkfajgphkajaaGreatDoorDrawShOk
import Derived.Test.YtapkfajgphkajaaGreatDoorSShAdd
import Derived.Test.YtapkfajgphkajaaGreatDoorIShAdd
import Derived.Test.YtapkfajgphkajaaGreatDoorSShOk
import Derived.Test.YtapkfajgphkajaaGreatDoorNoneLaw
import Derived.Test.YtapkfajgphkajaaGreatDoorBoxes
import Derived.Deep.RegionHeld3
import Derived.Deep.RegionWith
import Derived.Deep.Cut
import Derived.Deep.CutRange
namespace Go.Proofs.YtapkfajgphkajaaGreatDoor.fnShelfNone
open Go.ChangeShapes Go.WideShapes Go.ChangeAt Go.RowKit
open Go.ChangeMaps (open_string shut_string)
open Go.Proofs.YtapkfajgphkajaaGreatDoor.nb Go.Proofs.YtapkfajgphkajaaGreatDoor.ow Go.Proofs.YtapkfajgphkajaaGreatDoor.sh Go.Proofs.YtapkfajgphkajaaGreatDoor.dr Go.Proofs.YtapkfajgphkajaaGreatDoor.wd Go.Proofs.YtapkfajgphkajaaGreatDoor.sl
set_option linter.unusedVariables false

theorem own : ownKnob Tryz.prog.godebug = none := by kernel_rfl
theorem laidOut : laidOutB Tryz.prog = true := by kernel_rfl

set_option maxRecDepth 100000 in
set_option maxHeartbeats 4000000 in
theorem walk (a0 : Option Addr) (len0 cap0 : Nat) (w : World) (hb0 : wd.Bytes w w.heap.size a0 len0) (hl0 : len0 ≤ cap0) (hm0 : cap0 ≤ maxLen) (hE : sh.Env w) :
    Calls Tryz.prog 5 #[.slice a0 len0 cap0] w fun e w' => e = .returned (.bool true) ∧ Below w.heap.size w w' := by
  have hm0' : cap0 ≤ 9223372036854775807 := hm0
  by_cases hg0 : 1048576 < len0
  · go_enter Tryz.func5, Tryz.ntmps5
    go_wp2
    go_ret
    exact ⟨rfl, Below.refl _ _⟩
  go_enter Tryz.func5, Tryz.ntmps5
  go_wp2_with fail
  refine (drawShelfOk _ _ _ _ hb0 hl0 hm0).mono ?_
  rintro e w1 ⟨s, f, rfl, hs, hB1⟩
  have HS := Lib.hid (fun V => sadd_any s f ⟨#[]⟩ V (by omega))
  have HI := Lib.hid (fun V hV => iadd_any s f ⟨#[]⟩ V hV)
  have HO := Lib.hid (fun V => sok_any s f V (by omega))
  obtain ⟨z, hz⟩ : ∃ z, z = zeros := ⟨_, rfl⟩
  have HI2 := Lib.hid (fun V hV => iadd_any s f z V hV)
  have HP := Lib.hid (none_law (s := s) (f := f) hz)
  have HC := Lib.hid (fun V g (h : Blk V g 5 zcells) => hz ▸ zeros_conv V g h)
  unfold ShbPost at HS HI HI2
  unfold BoolPost at HO
  generalize addS s f ⟨#[]⟩ = x at HS HI HP
  generalize addS s f z = y at HI2 HP
  generalize addF s f = g at HS HI HI2 HP
  generalize addB s f ⟨#[]⟩ = d at HS HI HP
  generalize addB s f z = d2 at HI2 HP
  generalize okSh s f = o at HO HP
  obtain ⟨h1, h2⟩ := HP.out.1
  subst h1
  subst h2
  clear hz
  have X1 := (Bx.start hE hB1).more s f
  clear hB1 hb0
  go_wp2_with fail
  generalize w1.heap.size = R0 at X1 ⊢
  generalize w1.alloc (.cells #[.string s, .int .i64 f] 24) = V1 at X1 ⊢
  refine (HS.out _).mono ?_
  rintro e w2 ⟨rfl, hB2⟩
  have X2 := X1.later hB2
  obtain ⟨c0, c1⟩ := X2.cells (R := R0) (s := s) (f := f) (by simp)
  have l0 := (X2.all R0 s f (by simp)).lt
  have X3 := X2.more x g
  clear X1 X2 hB2 HS
  go_wp2_with fail
  generalize w2.heap.size = R1 at X3 l0 ⊢
  generalize w2.alloc (.cells #[.string x, .int .i64 g] 24) = V2 at X3 ⊢
  refine (HI.out _ X3.env).mono ?_
  rintro e w4 ⟨rfl, hB4⟩
  have X5 := X3.later hB4
  clear c0 c1 hB4 HI X3 l0
  have X6 := X5.more x g
  have l0 := (X5.all R0 s f (by simp)).lt
  have l1 := (X5.all R1 x g (by simp)).lt
  clear X5
  have HX6 := Lib.hid X6
  clear X6
  go_wp2_with fail
  generalize w4.heap.size = R2 at HX6 l0 l1 ⊢
  generalize w4.alloc (.cells #[.string x, .int .i64 g] 24) = V4 at HX6 ⊢
  obtain ⟨c0, c1⟩ := HX6.out.cells (R := R0) (s := s) (f := f) (by simp)
  have lV := HX6.out.lies (R := R0) (s := s) (f := f) (by simp)
  have lU := HX6.out.lies (R := R1) (s := x) (f := g) (by simp)
  have lW := HX6.out.lies (R := R2) (s := x) (f := g) (by simp)
  have hmk := zeros_make
  have nZ : (V4.alloc (.cells #[.string ⟨#[]⟩, .int .i64 0] 24)).heap.size = V4.heap.size + 1 := by simp
  have nY : (V4.alloc (.cells zcells 5)).heap.size = V4.heap.size + 1 := by simp
  have hcA := HC.out (V4.alloc (.cells zcells 5)).drew V4.heap.size (Blk.new V4 5 zcells)
  have hcB := HC.out ((V4.alloc (.cells #[.string ⟨#[]⟩, .int .i64 0] 24)).alloc (.cells zcells 5)).drew (V4.heap.size + 1) (nZ ▸ Blk.new (V4.alloc (.cells #[.string ⟨#[]⟩, .int .i64 0] 24)) 5 zcells)
  have hcC := HC.out ((V4.alloc (.cells zcells 5)).alloc (.cells #[.string ⟨#[]⟩, .int .i64 0] 24)).drew V4.heap.size ((Blk.new V4 5 zcells).alloc _)
  have HXA := Lib.hid (HX6.out.later ((Below.refl _ V4).alloc (Nat.le_refl _) (.cells zcells 5))).drew
  have XB := (((HX6.out.more ⟨#[]⟩ 0).later ((Below.refl _ _).alloc (Nat.le_refl _) (.cells zcells 5))).drew)
  have XC := ((HX6.out.later ((Below.refl _ V4).alloc (Nat.le_refl _) (.cells zcells 5))).more ⟨#[]⟩ 0).drew
  rw [nY] at XC
  have HXB := Lib.hid XB
  have HXC := Lib.hid XC
  have hV := HX6.out.bel.size
  have HM := Lib.hid hV
  clear XB XC HC nZ nY hV HX6
  go_cut [8, 9] from 25 to 31 (fun p b wx => ∃ R, p = .pointer (some ⟨R, 0, none⟩) ∧ b = .bool false ∧ Hid (Bx w wx [(R, y, g), (R2, x, g), (R1, x, g), (R0, s, f)]))
  case first =>
    go_region_with ((go_at_call 11; refine (HI2.out _ (by first | exact HXA.out.env | exact HXB.out.env | exact HXC.out.env)).mono ?_; clear HI2; rintro e w5 ⟨rfl, hB5⟩; first | (have X7 := HXA.out.later hB5; have X8 := X7.more y g; obtain ⟨b0, b1⟩ := X8.cells (R := w5.heap.size) (s := y) (f := g) (by simp); have HX8 := Lib.hid X8; clear X7 X8) | (have X7 := HXB.out.later hB5; obtain ⟨z0, z1⟩ := X7.cells (R := V4.heap.size) (s := ⟨#[]⟩) (f := 0) (by simp); obtain ⟨z2, z3⟩ := X7.thaw (R := V4.heap.size) (s := ⟨#[]⟩) (f := 0) (by simp); have HX8 := Lib.hid X7; clear X7) | (have X7 := HXC.out.later hB5; obtain ⟨z0, z1⟩ := X7.cells (R := V4.heap.size + 1) (s := ⟨#[]⟩) (f := 0) (by simp); obtain ⟨z2, z3⟩ := X7.thaw (R := V4.heap.size + 1) (s := ⟨#[]⟩) (f := 0) (by simp); have HX8 := Lib.hid X7; clear X7)))
    all_goals
      go_wp2_with fail
      go_meet
      first
      | exact ⟨_, rfl, rfl, HX8.out⟩
      | exact ⟨_, rfl, rfl, HX8.out.put hE HM.out (three_ne lV lU lW)⟩
      | exact ⟨_, rfl, rfl, HX8.out.put hE (Nat.le_succ_of_le HM.out) (three_ne (Nat.lt_succ_of_lt lV) (Nat.lt_succ_of_lt lU) (Nat.lt_succ_of_lt lW))⟩
  case rest =>
    obtain ⟨R3, rfl, rfl, HX9⟩ := hcut
    clear HI2 HXA HXB HXC HM hmk hcA hcB hcC c0 c1 lV lU lW l0 l1
    obtain ⟨c0, c1⟩ := HX9.out.cells (R := R0) (s := s) (f := f) (by simp)
    obtain ⟨d0, d1⟩ := HX9.out.cells (R := R1) (s := x) (f := g) (by simp)
    obtain ⟨e0, e1⟩ := HX9.out.cells (R := R2) (s := x) (f := g) (by simp)
    obtain ⟨b0, b1⟩ := HX9.out.cells (R := R3) (s := y) (f := g) (by simp)
    cases o with
    | true =>
      obtain ⟨p1, p2, p3⟩ := HP.out.2.1 rfl
      subst p1
      subst p2
      subst p3
      clear HP HO
      go_wp2
      go_ret
      exact ⟨rfl, HX9.out.bel⟩
    | false =>
      obtain ⟨p1, p2, p3, p4⟩ := HP.out.2.2 rfl
      subst p1
      subst p2
      subst p3
      clear HP
      clear p4
      go_wp2_with fail
      all_goals first
      | (go_ret; exact ⟨rfl, HX9.out.bel⟩)
      | (refine (HO.out _).mono ?_; rintro e w5 ⟨rfl, hB5⟩; have HB := Lib.hid (HX9.out.later hB5).bel; go_wp2; go_ret; exact ⟨rfl, HB.out⟩)

set_option maxRecDepth 100000 in
theorem lifted (os : Os) (started : os.Started) (H : Type) (enc : TypeId × Value → H) :
    ReturnsInHanded {} Tryz.checked os 5 .any (fun w args => (Rows.fnShelfNoneSpec.pre enc Tryz.prog Tryz.f5 [] false w args ∧ laidMetH Tryz.prog dc.list6 w) ∧ sizedMet enc Tryz.prog Tryz.f5 (OpenSpec.ofChange Rows.fnShelfNoneSpec) false w args)
      (Rows.fnShelfNoneSpec.post enc Tryz.prog Tryz.f5 false true false false) := by
  refine returnsInHanded_of_change_and (C := Tryz.checked) (X := fun w _ => laidMetH Tryz.prog dc.list6 w) (fun _ _ _ hh h => h.of_heap hh) own started (by kernel_rfl) Tryz.func5
    (ChangeSpec.witness_shaped (enc := enc) (C := Tryz.checked) (os := os) (X := fun w _ => laidMetH Tryz.prog dc.list6 w) false (World.doorLaid Tryz.prog 400 os) #[.slice none 0 0] 8 rfl (World.shaped_of_RefB (by kernel_rfl) (by kernel_rfl)) (by kernel_rfl) (by kernel_rfl) (by kernel_rfl) (dc.met6 os _)) ?_
  intro W base args ds gs before hval0 hW _ _ hL _
  have hval : ∀ (j : Nat) t v, Tryz.f5.params[j]? = some t → args[j]? = some v → Value.okWide Tryz.prog W .any base t v := hval0
  have hW' := hW
  obtain ⟨p, q, hA0, hV, rfl, hfz, hnd⟩ := hW
  have hA : DataW.TrodAll enc Tryz.prog W 0 (fun _ => true) true Tryz.f5.params.toList args.toList ds p := hA0
  rw [Tryz.params5] at hA hval
  obtain ⟨v0, vs0, d0, ds0, p0, q0, hargs, rfl, rfl, h0, r0⟩ := trodAll_cons hA
  obtain ⟨rfl, rfl, rfl⟩ := trodAll_nil r0
  obtain rfl : args = #[v0] := by cases args; simp_all
  obtain ⟨rfl, rfl⟩ := trodVars_none hV
  have k0 := h0
  have lt0 : ∀ x ∈ p0, x.block < W.heap.size := by obtain ⟨m, hm⟩ := k0; exact DataW.trod_lt m _ _ _ hm
  obtain ⟨a0, len0, cap0, rfl⟩ := okWide_slice Tryz.underlying22 (hval 0 22 v0 rfl rfl)
  obtain ⟨hb0, hl0, hm0⟩ : wd.Bytes W W.heap.size a0 len0 ∧ len0 ≤ cap0 ∧ cap0 ≤ maxLen := by
    obtain ⟨fuel, hf⟩ := h0
    rcases open_ints Tryz.underlying22 Tryz.underlying5 (by kernel_rfl) hf with ⟨hcs, _⟩ | ⟨x, l, c, zs, hcs, _, hl, hm, hz, _, hcell, hwz⟩
    · simp [Value.cells] at hcs
      obtain ⟨rfl, rfl, rfl⟩ := hcs
      exact dr.bytes_of_row (zs := []) (.inl ⟨rfl, rfl, rfl, rfl⟩)
    · simp [Value.cells] at hcs
      obtain ⟨rfl, rfl, rfl⟩ := hcs
      exact dr.bytes_of_row (.inr ⟨_, rfl, hl, hm, by simpa using hz, hcell, hwz⟩)
  have hE := dc.of_list6 hL
  clear hA0 hval0
  refine (walk a0 len0 cap0 W hb0 hl0 hm0 hE).mono fun e W' ⟨he, bel⟩ => ?_
  subst he
  exact ⟨_, rfl, _, _, _, [], _, [], hW', trodAll_mk1 (shut_bool Tryz.underlying4 _), (trodAll_cons_mk (Below.trod laidOut (by kernel_rfl) (of_decide_eq_true (by kernel_rfl)) k0 bel lt0) trodAll_mk0), rfl, bel.frame _, fun h => by cases h⟩

theorem over : Rows.fnShelfNoneRow.holds Tryz.pinned (OpenSpec.ofChange Rows.fnShelfNoneSpec) :=
  OpenClaim.holds_of_wide 5 Tryz.f5 rfl rfl rfl rfl rfl rfl rfl ⟨rfl, rfl, rfl, rfl, rfl⟩ rfl rfl rfl rfl rfl (by kernel_rfl) Tryz.func5 (by kernel_rfl)
    (of_decide_eq_true (by kernel_rfl)) (by unfold Func.isWrapper; first | (rw [if_pos (by decide +kernel)]; kernel_rfl) | (rw [if_neg (by decide +kernel)]; exact ⟨rfl, rfl⟩))
    (fun os started H enc _ => lifted os started H enc)

theorem proved : Rows.FnShelfNoneCardSaid :=
  Claim7.holds_tied_plain_at .later [] [.data, .data, .data, .handle, .sentinel, .sentinel] true (true, "c3baf9d8a977e26dd941f862af409529b56fe696911727dd0041dd0408c343d6") true
    over (fun _ h => by cases h) (by kernel_rfl) (fun _ h => by cases h) fnShelfNone_row_tie rfl ⟨rfl, rfl⟩ (by kernel_rfl) rfl
    (fun f fn hf hfn => by
      obtain rfl : f = 5 := Option.some.inj ((show Tryz.prog.funcNamed "loop.example/bargeman/laws.FnShelfNone" = some 5 by kernel_rfl).symm.trans hf) |>.symm
      obtain rfl : fn = Tryz.f5 := (Option.some.inj (Tryz.func5.symm.trans hfn)).symm
      exact ⟨by kernel_rfl, fun j t ht => by
        rw [Tryz.params5] at ht
        have hm : t ∈ [22] := by simpa using Array.mem_of_getElem? ht
        have hall : ([22].all fun u => !Tryz.prog.wantsStandIn u) = true := by kernel_rfl
        exact (show Tryz.prog.wantsStandIn t = false by simpa using List.all_eq_true.1 hall t hm)⟩)
    (by kernel_rfl)
#print axioms proved
end Go.Proofs.YtapkfajgphkajaaGreatDoor.fnShelfNone
