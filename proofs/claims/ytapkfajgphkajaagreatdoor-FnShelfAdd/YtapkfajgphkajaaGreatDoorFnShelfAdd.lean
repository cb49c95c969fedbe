/-
  Whatever the code: of the shelf and the text drawn by it ShelfAdd and ShelfOk answer as the specification's; where the text was added it stands behind the records that were there, all of the log reads, what was forced is as it was and the shelf is proper: the law returns true; the condition of the row: the listed variables of math/bits, strconv and errors read as the program's text lays them (tied by the card).
-/
import Derived.Test.YtapkfajgphkajaaGreatDoorRows
import Derived.Test.YtapkfajgphkajaaGreatDoorCards
import Derived.Test.YtapkfajgphkajaaGreatDoorTie
import Derived.Test.YtapkfajgphkajaaGreatDoorLaid6
import Derived.Test.YtapkfajgphkajaaGreatDoorDraw0
import Derived.WalkKit
import Derived.ProofKit
import Derived.OpenShut
import Derived.ShutString
import Derived.ChangeOld
import Derived.Below
import Derived.LaidMore
import Derived.Stop.Joined
import Derived.SevenTiedAt
import Derived.Test.YtapkfajgphkajaaGreatDoorDrawShAdd
import Derived.Test.YtapkfajgphkajaaGreatDoorSShAdd
import Derived.Test.YtapkfajgphkajaaGreatDoorIShAdd
import Derived.Test.YtapkfajgphkajaaGreatDoorSShOk
import Derived.Test.YtapkfajgphkajaaGreatDoorIShOk
import Derived.Test.YtapkfajgphkajaaGreatDoorIShRead
import Derived.Test.YtapkfajgphkajaaGreatDoorAddLaw
import Derived.Test.YtapkfajgphkajaaGreatDoorAppLaw
import Derived.Test.YtapkfajgphkajaaGreatDoorBoxes
import Derived.Deep.RegionHeld3
import Derived.Deep.RegionWith
namespace Go.Proofs.YtapkfajgphkajaaGreatDoor.fnShelfAdd
open Go.ChangeShapes Go.WideShapes Go.ChangeAt Go.RowKit
open Go.ChangeMaps (open_string shut_string)
open Go.Proofs.YtapkfajgphkajaaGreatDoor.nb Go.Proofs.YtapkfajgphkajaaGreatDoor.ow Go.Proofs.YtapkfajgphkajaaGreatDoor.sh Go.Proofs.YtapkfajgphkajaaGreatDoor.dr Go.Proofs.YtapkfajgphkajaaGreatDoor.wd Go.Proofs.YtapkfajgphkajaaGreatDoor.sl
set_option linter.unusedVariables false

theorem own : ownKnob Tryz.prog.godebug = none := by kernel_rfl
theorem laidOut : laidOutB Tryz.prog = true := by kernel_rfl

set_option maxRecDepth 100000 in
set_option maxHeartbeats 4000000 in
theorem walk (a0 : Option Addr) (len0 cap0 : Nat) (w : World) (hb0 : wd.Bytes w w.heap.size a0 len0) (hl0 : len0 ≤ cap0) (hm0 : cap0 ≤ maxLen) (hE : sh.Env w) :
    Calls Tryz.prog 3 #[.slice a0 len0 cap0] w fun e w' => e = .returned (.bool true) ∧ Below w.heap.size w w' := by
  have hm0' : cap0 ≤ 9223372036854775807 := hm0
  by_cases hg0 : 1048576 < len0
  · go_enter Tryz.func3, Tryz.ntmps3
    go_wp2
    go_ret
    exact ⟨rfl, Below.refl _ _⟩
  obtain ⟨s0, si, sz0, sz1, sz2⟩ := info_parts infoStr
  go_enter Tryz.func3, Tryz.ntmps3
  go_wp2_with fail
  refine (drawShelfAdd _ _ _ _ hb0 hl0 hm0).mono ?_
  rintro e w1 ⟨s, f, r, rfl, hs, hr, hB1⟩
  have HS := Lib.hid (fun V => sadd_any s f r V (by omega))
  have HI := Lib.hid (fun V hV => iadd_any s f r V hV)
  have HO := Lib.hid (fun V => sok_any s f V (by omega))
  have HK := Lib.hid (fun V hV => iok_any s f V hV)
  have HR := Lib.hid (fun W (hW : Env W) => iread_any s (by omega) W hW.tab hW.errs hW.errT)
  have HR2 := Lib.hid (fun W (hW : Env W) => iread_any (addS s f r) (by have := addS_size s f r; omega) W hW.tab hW.errs hW.errT)
  have HK2 := Lib.hid (fun V hV => iok_any (addS s f r) (addF s f) V hV)
  have HP := Lib.hid (add_three (s := s) (f := f) (x := r))
  have hx := addS_size s f r
  unfold ShbPost at HS HI
  unfold BoolPost at HO HK HK2
  unfold ReadPost at HR HR2
  generalize addS s f r = x at HS HI HR2 HK2 HP hx
  generalize addF s f = g at HS HI HK2 HP
  generalize addB s f r = d at HS HI HP
  generalize okSh s f = o at HO HK HP
  have X1 := (Bx.start hE hB1).more s f
  clear hB1 hb0
  go_wp2_with fail
  generalize w1.heap.size = R0 at X1 ⊢
  generalize w1.alloc (.cells #[.string s, .int .i64 f] 24) = V1 at X1 ⊢
  refine (HS.out _).mono ?_
  rintro e w2 ⟨rfl, hB2⟩
  have X2 := X1.later hB2
  obtain ⟨c0, c1⟩ := X2.cells (R := R0) (s := s) (f := f) (by simp)
  have l0 := (X2.all R0 s f (by simp)).lt
  have X3 := X2.more x g
  clear X1 X2 hB2 HS
  go_wp2_with fail
  generalize w2.heap.size = R1 at X3 l0 ⊢
  generalize w2.alloc (.cells #[.string x, .int .i64 g] 24) = V2 at X3 ⊢
  refine (HO.out _).mono ?_
  rintro e w3 ⟨rfl, hB3⟩
  have X4 := X3.later hB3
  clear c0 c1 hB3 HO X3
  obtain ⟨c0, c1⟩ := X4.cells (R := R0) (s := s) (f := f) (by simp)
  go_wp2_with fail
  refine (HI.out _ X4.env).mono ?_
  rintro e w4 ⟨rfl, hB4⟩
  have X5 := X4.later hB4
  clear c0 c1 hB4 HI X4
  have X6 := X5.more x g
  have l1 := (X5.all R0 s f (by simp)).lt
  have l2 := (X5.all R1 x g (by simp)).lt
  clear X5 l0
  obtain ⟨c0, c1⟩ := X6.cells (R := R0) (s := s) (f := f) (by simp)
  obtain ⟨d0, d1⟩ := X6.cells (R := R1) (s := x) (f := g) (by simp)
  obtain ⟨e0, e1⟩ := X6.cells (R := w4.heap.size) (s := x) (f := g) (by simp)
  have HX := Lib.hid X6
  clear X6
  cases o with
  | false =>
    obtain ⟨p1, p2, p3⟩ := HP.out.1 rfl
    subst p1
    subst p2
    subst p3
    clear HP HR HR2 HK2
    go_wp2_with fail
    refine (HK.out _ HX.out.env).mono ?_
    rintro e w5 ⟨rfl, hB5⟩
    have X7 := HX.out.later hB5
    clear c0 c1 d0 d1 e0 e1 l1 l2
    obtain ⟨e0, e1⟩ := X7.cells (R := w4.heap.size) (s := ⟨#[]⟩) (f := 0) (by simp)
    have HB := Lib.hid X7.bel
    clear X7 hB5
    go_wp2
    go_ret
    exact ⟨rfl, HB.out⟩
  | true =>
    cases d with
    | false =>
      obtain ⟨p1, p2⟩ := HP.out.2.1 rfl rfl
      subst p1
      subst p2
      clear HP HR HR2 HK2
      go_wp2_with fail
      refine (HK.out _ HX.out.env).mono ?_
      rintro e w5 ⟨rfl, hB5⟩
      have X7 := HX.out.later hB5
      clear c0 c1 d0 d1 e0 e1 l1 l2
      obtain ⟨e0, e1⟩ := X7.cells (R := w4.heap.size) (s := x) (f := g) (by simp)
      obtain ⟨c0, c1⟩ := X7.cells (R := R0) (s := x) (f := g) (by simp)
      have HB := Lib.hid X7.bel
      clear X7 hB5
      go_wp2
      go_ret
      exact ⟨rfl, HB.out⟩
    | true =>
      obtain ⟨p0, ls, hls, p1, p2, p3, p4⟩ := HP.out.2.2 rfl rfl
      rw [p1] at HR
      rw [p2, p3] at HR2
      rw [p4] at HK2
      subst p0
      clear HP p1 p2 p3 p4
      go_wp2_with fail
      generalize w4.heap.size = R2 at HX e0 e1 l1 l2 ⊢
      generalize w4.alloc (.cells #[.string x, .int .i64 g] 24) = V4 at HX c0 c1 d0 d1 e0 e1 ⊢
      refine (HK.out _ HX.out.env).mono ?_
      rintro e w5 ⟨rfl, hB5⟩
      have X7 := HX.out.later hB5
      clear c0 c1 d0 d1 e0 e1 l1 l2 HX HK hB5
      obtain ⟨c0, c1⟩ := X7.cells (R := R0) (s := s) (f := g) (by simp)
      go_wp2_with fail
      refine (HR.out _ X7.env).mono ?_
      rintro e w6 ⟨va, rfl, hIa⟩
      have X8 := X7.later hIa.2
      clear c0 c1 X7 HR
      obtain ⟨e0, e1⟩ := X8.cells (R := R2) (s := x) (f := g) (by simp)
      go_wp2_with fail
      refine (HR2.out _ X8.env).mono ?_
      rintro e w7 ⟨vb, rfl, hIb⟩
      have X9 := X8.later hIb.2
      have hIc := hIa.later hIb.2
      have hSb := sees_of_own hIb
      clear e0 e1 X8 HR2 hIa hIb
      obtain ⟨Aa, ca, rfl, _⟩ := hIc.form
      have HX9 := Lib.hid X9
      have HSb := Lib.hid hSb
      clear X9 hSb
      have hN := own_none w7
      have hbelow := hN.2
      have hPA := hIc.later hbelow
      have PA := part_of_own hPA
      have hla : (ls.map Value.string).length = ls.length := List.length_map _
      go_wp2_with (at_builtin; refine wpList_append_strs rfl _ _ 30 rfl w7.heap.size 9 s0 (.string ⟨#[]⟩) 16 Tryz.underlying30 si sz0 sz1 sz2 rfl _ 0 [] rfl hN.1 Aa _ ca (ls.map Value.string) rfl hla.symm PA (str_ones _) (by unfold maxLen; omega) (by omega) hbelow.size ?_)
      intro v5 w8 hown hgrow
      have hO5 := own_grow hN hown hgrow
      try rw [List.nil_append] at hO5
      have hz5 := hO5.2.size
      clear hown hgrow hN hbelow hPA PA hIc
      go_wp2_with (at_builtin; refine wpList_append_own _ rfl _ _ 30 rfl w7.heap.size 9 s0 (.string ⟨#[]⟩) 1 16 Tryz.underlying30 si sz0 sz1 sz2 rfl (by decide) _ _ _ rfl (hO5.1.alloc _) ⟨w8.heap.size, 0, none⟩ 1 1 [.string r] rfl rfl ?e1 ?e2 ?e3 ?e4 ?e5 ?_)
      case e1 => exact cell_one_new _ _ _
      case e2 => intro x hx; simp at hx; subst hx; rfl
      case e3 => rw [hla]; unfold maxLen; omega
      case e4 => rw [hla]; omega
      case e5 => simp; omega
      intro v6 w9 hown1 hgrow1 _
      have hO6 : ow.Own 9 w7 w9 v6 ((ls ++ [r]).map Value.string) := by rw [List.map_append]; exact hO5.more hown1 hgrow1
      have hS6 := sees_of_own hO6
      have hSc := HSb.out.later hO6.2
      have XA := HX9.out.later hO6.2
      have hll : (ls ++ [r]).length ≤ 1048576 := by rw [List.length_append]; simp; omega
      clear hown1 hgrow1 hO5 hO6 HSb HX9 hz5 hla
      generalize ls ++ [r] = la at hS6 hSc hll
      go_wp2_with fail
      refine (lb_same _ _ _ la hSc hS6 hll).mono ?_
      rintro e wB ⟨rfl, q2, rfl⟩
      have XB := XA.drewN q2
      clear XA hS6 hSc
      generalize w9.drewN q2 = w10 at XB ⊢
      obtain ⟨c0, c1⟩ := XB.cells (R := R0) (s := s) (f := g) (by simp)
      obtain ⟨e0, e1⟩ := XB.cells (R := R2) (s := x) (f := g) (by simp)
      go_wp2_with fail
      refine (HK2.out _ XB.env).mono ?_
      rintro e w11 ⟨rfl, hBC⟩
      have HB := Lib.hid (XB.later hBC).bel
      go_wp2
      go_ret
      exact ⟨rfl, HB.out⟩

set_option maxRecDepth 100000 in
theorem lifted (os : Os) (started : os.Started) (H : Type) (enc : TypeId × Value → H) :
    ReturnsInHanded {} Tryz.checked os 3 .any (fun w args => (Rows.fnShelfAddSpec.pre enc Tryz.prog Tryz.f3 [] false w args ∧ laidMetH Tryz.prog dc.list6 w) ∧ sizedMet enc Tryz.prog Tryz.f3 (OpenSpec.ofChange Rows.fnShelfAddSpec) false w args)
      (Rows.fnShelfAddSpec.post enc Tryz.prog Tryz.f3 false true false false) := by
  refine returnsInHanded_of_change_and (C := Tryz.checked) (X := fun w _ => laidMetH Tryz.prog dc.list6 w) (fun _ _ _ hh h => h.of_heap hh) own started (by kernel_rfl) Tryz.func3
    (ChangeSpec.witness_shaped (enc := enc) (C := Tryz.checked) (os := os) (X := fun w _ => laidMetH Tryz.prog dc.list6 w) false (World.doorLaid Tryz.prog 400 os) #[.slice none 0 0] 8 rfl (World.shaped_of_RefB (by kernel_rfl) (by kernel_rfl)) (by kernel_rfl) (by kernel_rfl) (by kernel_rfl) (dc.met6 os _)) ?_
  intro W base args ds gs before hval0 hW _ _ hL _
  have hval : ∀ (j : Nat) t v, Tryz.f3.params[j]? = some t → args[j]? = some v → Value.okWide Tryz.prog W .any base t v := hval0
  have hW' := hW
  obtain ⟨p, q, hA0, hV, rfl, hfz, hnd⟩ := hW
  have hA : DataW.TrodAll enc Tryz.prog W 0 (fun _ => true) true Tryz.f3.params.toList args.toList ds p := hA0
  rw [Tryz.params3] at hA hval
  obtain ⟨v0, vs0, d0, ds0, p0, q0, hargs, rfl, rfl, h0, r0⟩ := trodAll_cons hA
  obtain ⟨rfl, rfl, rfl⟩ := trodAll_nil r0
  obtain rfl : args = #[v0] := by cases args; simp_all
  obtain ⟨rfl, rfl⟩ := trodVars_none hV
  have k0 := h0
  have lt0 : ∀ x ∈ p0, x.block < W.heap.size := by obtain ⟨m, hm⟩ := k0; exact DataW.trod_lt m _ _ _ hm
  obtain ⟨a0, len0, cap0, rfl⟩ := okWide_slice Tryz.underlying22 (hval 0 22 v0 rfl rfl)
  obtain ⟨hb0, hl0, hm0⟩ : wd.Bytes W W.heap.size a0 len0 ∧ len0 ≤ cap0 ∧ cap0 ≤ maxLen := by
    obtain ⟨fuel, hf⟩ := h0
    rcases open_ints Tryz.underlying22 Tryz.underlying5 (by kernel_rfl) hf with ⟨hcs, _⟩ | ⟨x, l, c, zs, hcs, _, hl, hm, hz, _, hcell, hwz⟩
    · simp [Value.cells] at hcs
      obtain ⟨rfl, rfl, rfl⟩ := hcs
      exact dr.bytes_of_row (zs := []) (.inl ⟨rfl, rfl, rfl, rfl⟩)
    · simp [Value.cells] at hcs
      obtain ⟨rfl, rfl, rfl⟩ := hcs
      exact dr.bytes_of_row (.inr ⟨_, rfl, hl, hm, by simpa using hz, hcell, hwz⟩)
  have hE := dc.of_list6 hL
  clear hA0 hval0
  refine (walk a0 len0 cap0 W hb0 hl0 hm0 hE).mono fun e W' ⟨he, bel⟩ => ?_
  subst he
  exact ⟨_, rfl, _, _, _, [], _, [], hW', trodAll_mk1 (shut_bool Tryz.underlying4 _), (trodAll_cons_mk (Below.trod laidOut (by kernel_rfl) (of_decide_eq_true (by kernel_rfl)) k0 bel lt0) trodAll_mk0), rfl, bel.frame _, fun h => by cases h⟩

theorem over : Rows.fnShelfAddRow.holds Tryz.pinned (OpenSpec.ofChange Rows.fnShelfAddSpec) :=
  OpenClaim.holds_of_wide 3 Tryz.f3 rfl rfl rfl rfl rfl rfl rfl ⟨rfl, rfl, rfl, rfl, rfl⟩ rfl rfl rfl rfl rfl (by kernel_rfl) Tryz.func3 (by kernel_rfl)
    (of_decide_eq_true (by kernel_rfl)) (by unfold Func.isWrapper; first | (rw [if_pos (by decide +kernel)]; kernel_rfl) | (rw [if_neg (by decide +kernel)]; exact ⟨rfl, rfl⟩))
    (fun os started H enc _ => lifted os started H enc)

theorem proved : Rows.FnShelfAddCardSaid :=
  Claim7.holds_tied_plain_at .later [] [.data, .data, .data, .handle, .sentinel, .sentinel] true (true, "c3baf9d8a977e26dd941f862af409529b56fe696911727dd0041dd0408c343d6") true
    over (fun _ h => by cases h) (by kernel_rfl) (fun _ h => by cases h) fnShelfAdd_row_tie rfl ⟨rfl, rfl⟩ (by kernel_rfl) rfl
    (fun f fn hf hfn => by
      obtain rfl : f = 3 := Option.some.inj ((show Tryz.prog.funcNamed "loop.example/bargeman/laws.FnShelfAdd" = some 3 by kernel_rfl).symm.trans hf) |>.symm
      obtain rfl : fn = Tryz.f3 := (Option.some.inj (Tryz.func3.symm.trans hfn)).symm
      exact ⟨by kernel_rfl, fun j t ht => by
        rw [Tryz.params3] at ht
        have hm : t ∈ [22] := by simpa using Array.mem_of_getElem? ht
        have hall : ([22].all fun u => !Tryz.prog.wantsStandIn u) = true := by kernel_rfl
        exact (show Tryz.prog.wantsStandIn t = false by simpa using List.all_eq_true.1 hall t hm)⟩)
    (by kernel_rfl)
#print axioms proved
end Go.Proofs.YtapkfajgphkajaaGreatDoor.fnShelfAdd
