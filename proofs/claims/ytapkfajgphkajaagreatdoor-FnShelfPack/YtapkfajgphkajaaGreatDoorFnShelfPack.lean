/-
  Whatever the code: of the shelf and the texts drawn by it ShelfPack answers as the specification's; where the texts were packed the log reads as just these, all of it is forced and the shelf is proper: the law returns true; the condition of the row: the listed variables of math/bits, strconv and errors read as the program's text lays them (tied by the card).
-/
import Derived.Test.YtapkfajgphkajaaGreatDoorRows
import Derived.Test.YtapkfajgphkajaaGreatDoorCards
import Derived.Test.YtapkfajgphkajaaGreatDoorTie
import Derived.Test.YtapkfajgphkajaaGreatDoorLaid6
import Derived.Test.YtapkfajgphkajaaGreatDoorDraw0
import Derived.WalkKit
import Derived.ProofKit
import Derived.OpenShut
import Derived.ShutString
import Derived.ChangeOld
import Derived.Below
import Derived.LaidMore
import Derived.Stop.Joined
import Derived.SevenTiedAt
import Derived.Test.YtapkfajgphkajaaGreatDoorDrawShPack
import Derived.Test.YtapkfajgphkajaaGreatDoorSShPack
import Derived.Test.YtapkfajgphkajaaGreatDoorIShPack
import Derived.Test.YtapkfajgphkajaaGreatDoorIShOk
import Derived.Test.YtapkfajgphkajaaGreatDoorIShRead
import Derived.Test.YtapkfajgphkajaaGreatDoorPackLaw
import Derived.Test.YtapkfajgphkajaaGreatDoorBoxes
import Derived.Deep.RegionHeld3
import Derived.Deep.RegionWith
namespace Go.Proofs.YtapkfajgphkajaaGreatDoor.fnShelfPack
open Go.ChangeShapes Go.WideShapes Go.ChangeAt Go.RowKit
open Go.ChangeMaps (open_string shut_string)
open Go.Proofs.YtapkfajgphkajaaGreatDoor.nb Go.Proofs.YtapkfajgphkajaaGreatDoor.ow Go.Proofs.YtapkfajgphkajaaGreatDoor.sh Go.Proofs.YtapkfajgphkajaaGreatDoor.dr Go.Proofs.YtapkfajgphkajaaGreatDoor.wd Go.Proofs.YtapkfajgphkajaaGreatDoor.sl
set_option linter.unusedVariables false

theorem own : ownKnob Tryz.prog.godebug = none := by kernel_rfl
theorem laidOut : laidOutB Tryz.prog = true := by kernel_rfl

set_option maxRecDepth 100000 in
set_option maxHeartbeats 4000000 in
theorem walk (a0 : Option Addr) (len0 cap0 : Nat) (w : World) (hb0 : wd.Bytes w w.heap.size a0 len0) (hl0 : len0 ≤ cap0) (hm0 : cap0 ≤ maxLen) (hE : sh.Env w) :
    Calls Tryz.prog 4 #[.slice a0 len0 cap0] w fun e w' => e = .returned (.bool true) ∧ Below w.heap.size w w' := by
  have hm0' : cap0 ≤ 9223372036854775807 := hm0
  by_cases hg0 : 1048576 < len0
  · go_enter Tryz.func4, Tryz.ntmps4
    go_wp2
    go_ret
    exact ⟨rfl, Below.refl _ _⟩
  go_enter Tryz.func4, Tryz.ntmps4
  go_wp2_with fail
  refine (drawShelfPack _ _ _ _ hb0 hl0 hm0).mono ?_
  rintro e w1 ⟨s, f, v, xs, rfl, hs, hxs, hO1⟩
  have hv1 := sees_of_own hO1
  have hB1 := hO1.2
  have HS := Lib.hid (fun V (hV : SeesS V v xs) => spack_any s f v xs V (by omega) hV (by omega))
  have HI := Lib.hid (fun V (hW : Env V) (hV : SeesS V v xs) => ipack_any s f v xs V hW hV (by omega))
  have HR := Lib.hid (fun W (hW : Env W) => iread_any (packS s f xs) (by have := packS_size (xs := xs) (f := f) hs; omega) W hW.tab hW.errs hW.errT)
  have HK := Lib.hid (fun V hV => iok_any (packS s f xs) (packF s f xs) V hV)
  have HP := Lib.hid (pack_did (s := s) (f := f) (xs := xs))
  unfold ShbPost at HS HI
  unfold BoolPost at HK
  unfold ReadPost at HR
  generalize packS s f xs = x at HS HI HR HK HP
  generalize packF s f xs = g at HS HI HK HP
  generalize packB s f xs = d at HS HI HP
  have X1 := (Bx.start hE hB1).more s f
  have hv2 := hv1.later ((Below.refl _ w1).alloc (Nat.le_refl _) (.cells #[.string s, .int .i64 f] 24))
  clear hB1 hb0 hO1 hv1
  go_wp2_with fail
  generalize w1.heap.size = R0 at X1 ⊢
  generalize w1.alloc (.cells #[.string s, .int .i64 f] 24) = V1 at X1 hv2 ⊢
  refine (HS.out _ hv2).mono ?_
  rintro e w2 ⟨rfl, hB2⟩
  have X2 := X1.later hB2
  have hv3 := hv2.later hB2
  obtain ⟨c0, c1⟩ := X2.cells (R := R0) (s := s) (f := f) (by simp)
  have l0 := (X2.all R0 s f (by simp)).lt
  have X3 := X2.more x g
  have hv4 := hv3.later ((Below.refl _ w2).alloc (Nat.le_refl _) (.cells #[.string x, .int .i64 g] 24))
  clear X1 X2 hB2 HS hv2 hv3
  go_wp2_with fail
  generalize w2.heap.size = R1 at X3 l0 ⊢
  generalize w2.alloc (.cells #[.string x, .int .i64 g] 24) = V2 at X3 hv4 ⊢
  refine (HI.out _ X3.env hv4).mono ?_
  rintro e w4 ⟨rfl, hB4⟩
  have X5 := X3.later hB4
  have hv5 := hv4.later hB4
  clear c0 c1 hB4 HI X3 hv4
  obtain ⟨c0, c1⟩ := X5.cells (R := R0) (s := s) (f := f) (by simp)
  obtain ⟨d0, d1⟩ := X5.cells (R := R1) (s := x) (f := g) (by simp)
  have l1 := (X5.all R0 s f (by simp)).lt
  have l2 := (X5.all R1 x g (by simp)).lt
  have X6 := Lib.hid (X5.more x g)
  have hv6 := Lib.hid (hv5.later ((Below.refl _ w4).alloc (Nat.le_refl _) (.cells #[.string x, .int .i64 g] 24)))
  obtain ⟨e0, e1⟩ := X6.out.cells (R := w4.heap.size) (s := x) (f := g) (by simp)
  obtain ⟨d2, d3⟩ := X6.out.cells (R := R1) (s := x) (f := g) (by simp)
  clear X5 hv5 d0 d1 c0 c1 l0 l1 l2
  cases d with
  | false =>
    go_wp2
    go_ret
    exact ⟨rfl, X6.out.bel⟩
  | true =>
    obtain ⟨p1, p2, p3⟩ := HP.out rfl
    rw [p1] at HR
    rw [p3] at HK
    subst p2
    clear HP p1 p3
    go_wp2_with fail
    generalize w4.heap.size = R2 at X6 e0 e1 ⊢
    generalize w4.alloc (.cells #[.string x, .int .i64 (x.size : Nat)] 24) = V4 at X6 hv6 e0 e1 d2 d3 ⊢
    refine (HR.out _ X6.out.env).mono ?_
    rintro e w5 ⟨v5, rfl, hI5⟩
    have X7 := X6.out.later hI5.2
    have hS5 := sees_of_own hI5
    have hv7 := hv6.out.later hI5.2
    clear X6 hv6 e0 e1 d2 d3 HR hI5
    obtain ⟨e0, e1⟩ := X7.cells (R := R2) (s := x) (f := (x.size : Nat)) (by simp)
    have HX7 := Lib.hid X7
    have hl2 := (X7.all R2 x (x.size : Nat) (by simp)).lt
    clear X7
    go_wp2_with fail
    refine (lb_same _ _ _ xs hS5 hv7 (by omega)).mono ?_
    rintro e w6 ⟨rfl, q2, rfl⟩
    have XB := HX7.out.drewN q2
    clear HX7 hS5 hv7 e0 e1 hl2
    generalize w5.drewN q2 = w7 at XB ⊢
    obtain ⟨e0, e1⟩ := XB.cells (R := R2) (s := x) (f := (x.size : Nat)) (by simp)
    go_wp2_with fail
    refine (HK.out _ XB.env).mono ?_
    rintro e w8 ⟨rfl, hBC⟩
    have HB := Lib.hid (XB.later hBC).bel
    go_wp2
    go_ret
    exact ⟨rfl, HB.out⟩

set_option maxRecDepth 100000 in
theorem lifted (os : Os) (started : os.Started) (H : Type) (enc : TypeId × Value → H) :
    ReturnsInHanded {} Tryz.checked os 4 .any (fun w args => (Rows.fnShelfPackSpec.pre enc Tryz.prog Tryz.f4 [] false w args ∧ laidMetH Tryz.prog dc.list6 w) ∧ sizedMet enc Tryz.prog Tryz.f4 (OpenSpec.ofChange Rows.fnShelfPackSpec) false w args)
      (Rows.fnShelfPackSpec.post enc Tryz.prog Tryz.f4 false true false false) := by
  refine returnsInHanded_of_change_and (C := Tryz.checked) (X := fun w _ => laidMetH Tryz.prog dc.list6 w) (fun _ _ _ hh h => h.of_heap hh) own started (by kernel_rfl) Tryz.func4
    (ChangeSpec.witness_shaped (enc := enc) (C := Tryz.checked) (os := os) (X := fun w _ => laidMetH Tryz.prog dc.list6 w) false (World.doorLaid Tryz.prog 400 os) #[.slice none 0 0] 8 rfl (World.shaped_of_RefB (by kernel_rfl) (by kernel_rfl)) (by kernel_rfl) (by kernel_rfl) (by kernel_rfl) (dc.met6 os _)) ?_
  intro W base args ds gs before hval0 hW _ _ hL _
  have hval : ∀ (j : Nat) t v, Tryz.f4.params[j]? = some t → args[j]? = some v → Value.okWide Tryz.prog W .any base t v := hval0
  have hW' := hW
  obtain ⟨p, q, hA0, hV, rfl, hfz, hnd⟩ := hW
  have hA : DataW.TrodAll enc Tryz.prog W 0 (fun _ => true) true Tryz.f4.params.toList args.toList ds p := hA0
  rw [Tryz.params4] at hA hval
  obtain ⟨v0, vs0, d0, ds0, p0, q0, hargs, rfl, rfl, h0, r0⟩ := trodAll_cons hA
  obtain ⟨rfl, rfl, rfl⟩ := trodAll_nil r0
  obtain rfl : args = #[v0] := by cases args; simp_all
  obtain ⟨rfl, rfl⟩ := trodVars_none hV
  have k0 := h0
  have lt0 : ∀ x ∈ p0, x.block < W.heap.size := by obtain ⟨m, hm⟩ := k0; exact DataW.trod_lt m _ _ _ hm
  obtain ⟨a0, len0, cap0, rfl⟩ := okWide_slice Tryz.underlying22 (hval 0 22 v0 rfl rfl)
  obtain ⟨hb0, hl0, hm0⟩ : wd.Bytes W W.heap.size a0 len0 ∧ len0 ≤ cap0 ∧ cap0 ≤ maxLen := by
    obtain ⟨fuel, hf⟩ := h0
    rcases open_ints Tryz.underlying22 Tryz.underlying5 (by kernel_rfl) hf with ⟨hcs, _⟩ | ⟨x, l, c, zs, hcs, _, hl, hm, hz, _, hcell, hwz⟩
    · simp [Value.cells] at hcs
      obtain ⟨rfl, rfl, rfl⟩ := hcs
      exact dr.bytes_of_row (zs := []) (.inl ⟨rfl, rfl, rfl, rfl⟩)
    · simp [Value.cells] at hcs
      obtain ⟨rfl, rfl, rfl⟩ := hcs
      exact dr.bytes_of_row (.inr ⟨_, rfl, hl, hm, by simpa using hz, hcell, hwz⟩)
  have hE := dc.of_list6 hL
  clear hA0 hval0
  refine (walk a0 len0 cap0 W hb0 hl0 hm0 hE).mono fun e W' ⟨he, bel⟩ => ?_
  subst he
  exact ⟨_, rfl, _, _, _, [], _, [], hW', trodAll_mk1 (shut_bool Tryz.underlying4 _), (trodAll_cons_mk (Below.trod laidOut (by kernel_rfl) (of_decide_eq_true (by kernel_rfl)) k0 bel lt0) trodAll_mk0), rfl, bel.frame _, fun h => by cases h⟩

theorem over : Rows.fnShelfPackRow.holds Tryz.pinned (OpenSpec.ofChange Rows.fnShelfPackSpec) :=
  OpenClaim.holds_of_wide 4 Tryz.f4 rfl rfl rfl rfl rfl rfl rfl ⟨rfl, rfl, rfl, rfl, rfl⟩ rfl rfl rfl rfl rfl (by kernel_rfl) Tryz.func4 (by kernel_rfl)
    (of_decide_eq_true (by kernel_rfl)) (by unfold Func.isWrapper; first | (rw [if_pos (by decide +kernel)]; kernel_rfl) | (rw [if_neg (by decide +kernel)]; exact ⟨rfl, rfl⟩))
    (fun os started H enc _ => lifted os started H enc)

theorem proved : Rows.FnShelfPackCardSaid :=
  Claim7.holds_tied_plain_at .later [] [.data, .data, .data, .handle, .sentinel, .sentinel] true (true, "c3baf9d8a977e26dd941f862af409529b56fe696911727dd0041dd0408c343d6") true
    over (fun _ h => by cases h) (by kernel_rfl) (fun _ h => by cases h) fnShelfPack_row_tie rfl ⟨rfl, rfl⟩ (by kernel_rfl) rfl
    (fun f fn hf hfn => by
      obtain rfl : f = 4 := Option.some.inj ((show Tryz.prog.funcNamed "loop.example/bargeman/laws.FnShelfPack" = some 4 by kernel_rfl).symm.trans hf) |>.symm
      obtain rfl : fn = Tryz.f4 := (Option.some.inj (Tryz.func4.symm.trans hfn)).symm
      exact ⟨by kernel_rfl, fun j t ht => by
        rw [Tryz.params4] at ht
        have hm : t ∈ [22] := by simpa using Array.mem_of_getElem? ht
        have hall : ([22].all fun u => !Tryz.prog.wantsStandIn u) = true := by kernel_rfl
        exact (show Tryz.prog.wantsStandIn t = false by simpa using List.all_eq_true.1 hall t hm)⟩)
    (by kernel_rfl)
#print axioms proved
end Go.Proofs.YtapkfajgphkajaaGreatDoor.fnShelfPack
