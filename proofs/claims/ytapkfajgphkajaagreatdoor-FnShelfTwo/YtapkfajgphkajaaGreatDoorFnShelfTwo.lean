/-
  Whatever the code: of the shelf and the text drawn by it ShelfAdd answers as the specification's; another text behind it, or ahead of it, stands in that order: the law returns true; the condition of the row: the listed variables of math/bits, strconv and errors read as the program's text lays them (tied by the card).
-/
import Derived.Test.YtapkfajgphkajaaGreatDoorRows
import Derived.Test.YtapkfajgphkajaaGreatDoorCards
import Derived.Test.YtapkfajgphkajaaGreatDoorTie
import Derived.Test.YtapkfajgphkajaaGreatDoorLaid6
import Derived.Test.YtapkfajgphkajaaGreatDoorDraw0
import Derived.WalkKit
import Derived.ProofKit
import Derived.OpenShut
import Derived.ShutString
import Derived.ChangeOld
import Derived.Below
import Derived.LaidMore
import Derived.Stop.Joined
import Derived.SevenTiedAt
import Derived.Test.YtapkfajgphkajaaGreatDoorDrawShAdd
import Derived.Test.YtapkfajgphkajaaGreatDoorSShAdd
import Derived.Test.YtapkfajgphkajaaGreatDoorIShAdd
import Derived.Test.YtapkfajgphkajaaGreatDoorIShRead
import Derived.Test.YtapkfajgphkajaaGreatDoorAddLaw
import Derived.Test.YtapkfajgphkajaaGreatDoorBoxes
import Derived.Deep.RegionHeld3
import Derived.Deep.RegionWith
namespace Go.Proofs.YtapkfajgphkajaaGreatDoor.fnShelfTwo
open Go.ChangeShapes Go.WideShapes Go.ChangeAt Go.RowKit
open Go.ChangeMaps (open_string shut_string)
open Go.Proofs.YtapkfajgphkajaaGreatDoor.nb Go.Proofs.YtapkfajgphkajaaGreatDoor.ow Go.Proofs.YtapkfajgphkajaaGreatDoor.sh Go.Proofs.YtapkfajgphkajaaGreatDoor.dr Go.Proofs.YtapkfajgphkajaaGreatDoor.wd Go.Proofs.YtapkfajgphkajaaGreatDoor.sl
set_option linter.unusedVariables false

theorem own : ownKnob Tryz.prog.godebug = none := by kernel_rfl
theorem laidOut : laidOutB Tryz.prog = true := by kernel_rfl

set_option maxRecDepth 100000 in
set_option maxHeartbeats 4000000 in
theorem walk (a0 : Option Addr) (len0 cap0 : Nat) (w : World) (hb0 : wd.Bytes w w.heap.size a0 len0) (hl0 : len0 ≤ cap0) (hm0 : cap0 ≤ maxLen) (hE : sh.Env w) :
    Calls Tryz.prog 6 #[.slice a0 len0 cap0] w fun e w' => e = .returned (.bool true) ∧ Below w.heap.size w w' := by
  have hm0' : cap0 ≤ 9223372036854775807 := hm0
  by_cases hg0 : 1048576 < len0
  · go_enter Tryz.func6, Tryz.ntmps6
    go_wp2
    go_ret
    exact ⟨rfl, Below.refl _ _⟩
  go_enter Tryz.func6, Tryz.ntmps6
  go_wp2_with fail
  refine (drawShelfAdd _ _ _ _ hb0 hl0 hm0).mono ?_
  rintro e w1 ⟨s, f, r, rfl, hs, hr, hB1⟩
  have HS := Lib.hid (fun V => sadd_any s f r V (by omega))
  have HI := Lib.hid (fun V hV => iadd_any s f r V hV)
  have HI2 := Lib.hid (fun V hV => iadd_any (addS s f r) (addF s f) ⟨#[111, 116, 104, 101, 114]⟩ V hV)
  have HI3 := Lib.hid (fun V hV => iadd_any s f ⟨#[111, 116, 104, 101, 114]⟩ V hV)
  have HI4 := Lib.hid (fun V hV => iadd_any (addS s f ⟨#[111, 116, 104, 101, 114]⟩) (addF s f) r V hV)
  have HRa := Lib.hid (fun W (hW : Env W) => iread_any (addS (addS s f r) (addF s f) ⟨#[111, 116, 104, 101, 114]⟩) (by have := addS_size (addS s f r) (addF s f) ⟨#[111, 116, 104, 101, 114]⟩; omega) W hW.tab hW.errs hW.errT)
  have HRb := Lib.hid (fun W (hW : Env W) => iread_any (addS (addS s f ⟨#[111, 116, 104, 101, 114]⟩) (addF s f) r) (by have := addS_size (addS s f ⟨#[111, 116, 104, 101, 114]⟩) (addF s f) r; omega) W hW.tab hW.errs hW.errT)
  have HP := Lib.hid (two_ways (s := s) (f := f) (x := r) (y := ⟨#[111, 116, 104, 101, 114]⟩))
  unfold ShbPost at HS HI HI2 HI3 HI4
  unfold ReadPost at HRa HRb
  generalize addS (addS s f ⟨#[111, 116, 104, 101, 114]⟩) (addF s f) r = v at HI4 HRb HP
  generalize addF (addS s f ⟨#[111, 116, 104, 101, 114]⟩) (addF s f) = u at HI4 HP
  generalize addB (addS s f ⟨#[111, 116, 104, 101, 114]⟩) (addF s f) r = t at HI4 HP
  generalize addS (addS s f r) (addF s f) ⟨#[111, 116, 104, 101, 114]⟩ = y at HI2 HRa HP
  generalize addF (addS s f r) (addF s f) = h at HI2 HP
  generalize addB (addS s f r) (addF s f) ⟨#[111, 116, 104, 101, 114]⟩ = m at HI2 HP
  generalize addS s f ⟨#[111, 116, 104, 101, 114]⟩ = z at HI3 HI4 HP
  generalize addB s f ⟨#[111, 116, 104, 101, 114]⟩ = zb at HI3
  generalize addS s f r = x at HS HI HI2 HP
  generalize addF s f = g at HS HI HI2 HI3 HI4 HP
  generalize addB s f r = d at HS HI HP
  have X1 := (Bx.start hE hB1).more s f
  clear hB1 hb0
  go_wp2_with fail
  generalize w1.heap.size = R0 at X1 ⊢
  generalize w1.alloc (.cells #[.string s, .int .i64 f] 24) = V1 at X1 ⊢
  refine (HS.out _).mono ?_
  rintro e w2 ⟨rfl, hB2⟩
  have X2 := X1.later hB2
  obtain ⟨c0, c1⟩ := X2.cells (R := R0) (s := s) (f := f) (by simp)
  have l0 := (X2.all R0 s f (by simp)).lt
  have X3 := X2.more x g
  clear X1 X2 hB2 HS
  go_wp2_with fail
  generalize w2.heap.size = R1 at X3 l0 ⊢
  generalize w2.alloc (.cells #[.string x, .int .i64 g] 24) = V2 at X3 ⊢
  refine (HI.out _ X3.env).mono ?_
  rintro e w4 ⟨rfl, hB4⟩
  have X5 := X3.later hB4
  clear c0 c1 hB4 HI X3 l0
  have X6 := X5.more x g
  have l0 := (X5.all R0 s f (by simp)).lt
  have l1 := (X5.all R1 x g (by simp)).lt
  clear X5
  have HX6 := Lib.hid X6
  obtain ⟨d0, d1⟩ := X6.cells (R := R1) (s := x) (f := g) (by simp)
  obtain ⟨e0, e1⟩ := X6.cells (R := w4.heap.size) (s := x) (f := g) (by simp)
  obtain ⟨c0, c1⟩ := X6.cells (R := R0) (s := s) (f := f) (by simp)
  clear X6
  cases d with
  | false =>
    go_wp2
    go_ret
    exact ⟨rfl, HX6.out.bel⟩
  | true =>
    have hP := HP.out rfl
    clear HP
    have HP := Lib.hid hP
    clear hP
    go_wp2_with fail
    generalize w4.heap.size = R2 at HX6 e0 e1 l0 l1 ⊢
    generalize w4.alloc (.cells #[.string x, .int .i64 g] 24) = V4 at HX6 c0 c1 d0 d1 e0 e1 ⊢
    refine (HI2.out _ HX6.out.env).mono ?_
    rintro e w5 ⟨rfl, hB5⟩
    have X7 := HX6.out.later hB5
    have l2 := (X7.all R2 x g (by simp)).lt
    have X8 := X7.more y h
    clear c0 c1 d0 d1 e0 e1 HX6 hB5 HI2
    obtain ⟨c0, c1⟩ := X7.cells (R := R0) (s := s) (f := f) (by simp)
    have l3 := (X7.all R0 s f (by simp)).lt
    clear X7
    go_wp2_with fail
    generalize w5.heap.size = R3 at X8 l2 l3 ⊢
    generalize w5.alloc (.cells #[.string y, .int .i64 h] 24) = V5 at X8 ⊢
    refine (HI3.out _ X8.env).mono ?_
    rintro e w6 ⟨rfl, hB6⟩
    have X9 := X8.later hB6
    clear c0 c1 X8 hB6 HI3
    have XA := X9.more z g
    clear X9
    go_wp2_with fail
    generalize w6.heap.size = R4 at XA ⊢
    generalize w6.alloc (.cells #[.string z, .int .i64 g] 24) = V6 at XA ⊢
    refine (HI4.out _ XA.env).mono ?_
    rintro e w7 ⟨rfl, hB7⟩
    have XB := XA.later hB7
    clear XA hB7 HI4
    have lA := (XB.all R2 x g (by simp)).lt
    have lB := (XB.all R3 y h (by simp)).lt
    have XC := XB.more v u
    clear XB
    obtain ⟨a0, a1⟩ := XC.cells (R := R2) (s := x) (f := g) (by simp)
    obtain ⟨b0, b1⟩ := XC.cells (R := R3) (s := y) (f := h) (by simp)
    obtain ⟨v0, v1⟩ := XC.cells (R := w7.heap.size) (s := v) (f := u) (by simp)
    have HXC := Lib.hid XC
    clear XC
    cases m with
    | false =>
      obtain ⟨p1, p2⟩ := HP.out.1 rfl
      subst p1
      subst p2
      go_wp2
      go_ret
      exact ⟨rfl, HXC.out.bel⟩
    | true =>
      obtain ⟨ht, ls, hls, p1, p2⟩ := HP.out.2 rfl
      rw [p1] at HRa
      rw [p2] at HRb
      subst ht
      clear p1 p2 HP
      go_wp2_with fail
      generalize w7.heap.size = R5 at HXC v0 v1 lA lB ⊢
      generalize w7.alloc (.cells #[.string v, .int .i64 u] 24) = V7 at HXC a0 a1 b0 b1 v0 v1 ⊢
      refine (HRa.out _ HXC.out.env).mono ?_
      rintro e w8 ⟨va, rfl, hIa⟩
      have XD := HXC.out.later hIa.2
      clear a0 a1 b0 b1 v0 v1 HXC HRa
      obtain ⟨v0, v1⟩ := XD.cells (R := R5) (s := v) (f := u) (by simp)
      go_wp2_with fail
      refine (HRb.out _ XD.env).mono ?_
      rintro e w9 ⟨vb, rfl, hIb⟩
      have hIa2 := hIa.later hIb.2
      have HXE := Lib.hid (XD.later hIb.2).bel
      clear v0 v1 XD HRb hIa
      obtain ⟨ga, ca, rfl, qa1, qa2⟩ := two_at hIa2
      obtain ⟨gb, cb, rfl, qb1, qb2⟩ := two_at hIb
      clear hIa2 hIb
      generalize ls.length = N at *
      go_wp2
      go_ret
      exact ⟨rfl, HXE.out⟩

set_option maxRecDepth 100000 in
theorem lifted (os : Os) (started : os.Started) (H : Type) (enc : TypeId × Value → H) :
    ReturnsInHanded {} Tryz.checked os 6 .any (fun w args => (Rows.fnShelfTwoSpec.pre enc Tryz.prog Tryz.f6 [] false w args ∧ laidMetH Tryz.prog dc.list6 w) ∧ sizedMet enc Tryz.prog Tryz.f6 (OpenSpec.ofChange Rows.fnShelfTwoSpec) false w args)
      (Rows.fnShelfTwoSpec.post enc Tryz.prog Tryz.f6 false true false false) := by
  refine returnsInHanded_of_change_and (C := Tryz.checked) (X := fun w _ => laidMetH Tryz.prog dc.list6 w) (fun _ _ _ hh h => h.of_heap hh) own started (by kernel_rfl) Tryz.func6
    (ChangeSpec.witness_shaped (enc := enc) (C := Tryz.checked) (os := os) (X := fun w _ => laidMetH Tryz.prog dc.list6 w) false (World.doorLaid Tryz.prog 400 os) #[.slice none 0 0] 8 rfl (World.shaped_of_RefB (by kernel_rfl) (by kernel_rfl)) (by kernel_rfl) (by kernel_rfl) (by kernel_rfl) (dc.met6 os _)) ?_
  intro W base args ds gs before hval0 hW _ _ hL _
  have hval : ∀ (j : Nat) t v, Tryz.f6.params[j]? = some t → args[j]? = some v → Value.okWide Tryz.prog W .any base t v := hval0
  have hW' := hW
  obtain ⟨p, q, hA0, hV, rfl, hfz, hnd⟩ := hW
  have hA : DataW.TrodAll enc Tryz.prog W 0 (fun _ => true) true Tryz.f6.params.toList args.toList ds p := hA0
  rw [Tryz.params6] at hA hval
  obtain ⟨v0, vs0, d0, ds0, p0, q0, hargs, rfl, rfl, h0, r0⟩ := trodAll_cons hA
  obtain ⟨rfl, rfl, rfl⟩ := trodAll_nil r0
  obtain rfl : args = #[v0] := by cases args; simp_all
  obtain ⟨rfl, rfl⟩ := trodVars_none hV
  have k0 := h0
  have lt0 : ∀ x ∈ p0, x.block < W.heap.size := by obtain ⟨m, hm⟩ := k0; exact DataW.trod_lt m _ _ _ hm
  obtain ⟨a0, len0, cap0, rfl⟩ := okWide_slice Tryz.underlying22 (hval 0 22 v0 rfl rfl)
  obtain ⟨hb0, hl0, hm0⟩ : wd.Bytes W W.heap.size a0 len0 ∧ len0 ≤ cap0 ∧ cap0 ≤ maxLen := by
    obtain ⟨fuel, hf⟩ := h0
    rcases open_ints Tryz.underlying22 Tryz.underlying5 (by kernel_rfl) hf with ⟨hcs, _⟩ | ⟨x, l, c, zs, hcs, _, hl, hm, hz, _, hcell, hwz⟩
    · simp [Value.cells] at hcs
      obtain ⟨rfl, rfl, rfl⟩ := hcs
      exact dr.bytes_of_row (zs := []) (.inl ⟨rfl, rfl, rfl, rfl⟩)
    · simp [Value.cells] at hcs
      obtain ⟨rfl, rfl, rfl⟩ := hcs
      exact dr.bytes_of_row (.inr ⟨_, rfl, hl, hm, by simpa using hz, hcell, hwz⟩)
  have hE := dc.of_list6 hL
  clear hA0 hval0
  refine (walk a0 len0 cap0 W hb0 hl0 hm0 hE).mono fun e W' ⟨he, bel⟩ => ?_
  subst he
  exact ⟨_, rfl, _, _, _, [], _, [], hW', trodAll_mk1 (shut_bool Tryz.underlying4 _), (trodAll_cons_mk (Below.trod laidOut (by kernel_rfl) (of_decide_eq_true (by kernel_rfl)) k0 bel lt0) trodAll_mk0), rfl, bel.frame _, fun h => by cases h⟩

theorem over : Rows.fnShelfTwoRow.holds Tryz.pinned (OpenSpec.ofChange Rows.fnShelfTwoSpec) :=
  OpenClaim.holds_of_wide 6 Tryz.f6 rfl rfl rfl rfl rfl rfl rfl ⟨rfl, rfl, rfl, rfl, rfl⟩ rfl rfl rfl rfl rfl (by kernel_rfl) Tryz.func6 (by kernel_rfl)
    (of_decide_eq_true (by kernel_rfl)) (by unfold Func.isWrapper; first | (rw [if_pos (by decide +kernel)]; kernel_rfl) | (rw [if_neg (by decide +kernel)]; exact ⟨rfl, rfl⟩))
    (fun os started H enc _ => lifted os started H enc)

theorem proved : Rows.FnShelfTwoCardSaid :=
  Claim7.holds_tied_plain_at .later [] [.data, .data, .data, .handle, .sentinel, .sentinel] true (true, "c3baf9d8a977e26dd941f862af409529b56fe696911727dd0041dd0408c343d6") true
    over (fun _ h => by cases h) (by kernel_rfl) (fun _ h => by cases h) fnShelfTwo_row_tie rfl ⟨rfl, rfl⟩ (by kernel_rfl) rfl
    (fun f fn hf hfn => by
      obtain rfl : f = 6 := Option.some.inj ((show Tryz.prog.funcNamed "loop.example/bargeman/laws.FnShelfTwo" = some 6 by kernel_rfl).symm.trans hf) |>.symm
      obtain rfl : fn = Tryz.f6 := (Option.some.inj (Tryz.func6.symm.trans hfn)).symm
      exact ⟨by kernel_rfl, fun j t ht => by
        rw [Tryz.params6] at ht
        have hm : t ∈ [22] := by simpa using Array.mem_of_getElem? ht
        have hall : ([22].all fun u => !Tryz.prog.wantsStandIn u) = true := by kernel_rfl
        exact (show Tryz.prog.wantsStandIn t = false by simpa using List.all_eq_true.1 hall t hm)⟩)
    (by kernel_rfl)
#print axioms proved
end Go.Proofs.YtapkfajgphkajaaGreatDoor.fnShelfTwo
