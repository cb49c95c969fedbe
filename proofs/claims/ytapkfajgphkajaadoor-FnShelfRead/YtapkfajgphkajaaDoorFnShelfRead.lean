/-
  Whatever the two codes: of the text drawn by the second ShelfRead answers as the specification's; where the shelf drawn by the first is proper, its log with the text behind it reads as its records and then the text's: the law returns true; the condition of the row: the listed variables of math/bits, strconv and errors read as the program's text lays them (tied by the card).
-/
import Derived.Test.YtapkfajgphkajaaDoorRows
import Derived.Test.YtapkfajgphkajaaDoorCards
import Derived.Test.YtapkfajgphkajaaDoorTie
import Derived.Test.YtapkfajgphkajaaDoorLaid6
import Derived.Test.YtapkfajgphkajaaDoorDraw0
import Derived.WalkKit
import Derived.ProofKit
import Derived.OpenShut
import Derived.ShutString
import Derived.ChangeOld
import Derived.Below
import Derived.LaidMore
import Derived.Stop.Joined
import Derived.SevenTiedAt
import Derived.Test.YtapkfajgphkajaaDoorDrawShOk
import Derived.Test.YtapkfajgphkajaaDoorDrawShRead
import Derived.Test.YtapkfajgphkajaaDoorSShOk
import Derived.Test.YtapkfajgphkajaaDoorIShOk
import Derived.Test.YtapkfajgphkajaaDoorSShRead
import Derived.Test.YtapkfajgphkajaaDoorIShRead
import Derived.Test.YtapkfajgphkajaaDoorAppLaw
namespace Go.Proofs.YtapkfajgphkajaaDoor.fnShelfRead
open Go.ChangeShapes Go.WideShapes Go.ChangeAt Go.RowKit
open Go.ChangeMaps (open_string shut_string)
open Go.Proofs.YtapkfajgphkajaaDoor.nb Go.Proofs.YtapkfajgphkajaaDoor.ow Go.Proofs.YtapkfajgphkajaaDoor.sh Go.Proofs.YtapkfajgphkajaaDoor.dr Go.Proofs.YtapkfajgphkajaaDoor.wd Go.Proofs.YtapkfajgphkajaaDoor.sl
set_option linter.unusedVariables false

theorem own : ownKnob Tryd.prog.godebug = none := by kernel_rfl
theorem laidOut : laidOutB Tryd.prog = true := by kernel_rfl

set_option maxRecDepth 100000 in
set_option maxHeartbeats 4000000 in
theorem walk (a0 : Option Addr) (len0 cap0 : Nat) (a1 : Option Addr) (len1 cap1 : Nat) (w : World) (hb0 : wd.Bytes w w.heap.size a0 len0) (hl0 : len0 ≤ cap0) (hm0 : cap0 ≤ maxLen) (hb1 : wd.Bytes w w.heap.size a1 len1) (hl1 : len1 ≤ cap1) (hm1 : cap1 ≤ maxLen) (hE : sh.Env w) :
    Calls Tryd.prog 6 #[.slice a0 len0 cap0, .slice a1 len1 cap1] w fun e w' => e = .returned (.bool true) ∧ Below w.heap.size w w' := by
  have hm0' : cap0 ≤ 9223372036854775807 := hm0
  have hm1' : cap1 ≤ 9223372036854775807 := hm1
  by_cases hg0 : 1048576 < len0
  · go_enter Tryd.func6, Tryd.ntmps6
    go_wp2
    go_ret
    exact ⟨rfl, Below.refl _ _⟩
  by_cases hg1 : 1048576 < len1
  · go_enter Tryd.func6, Tryd.ntmps6
    go_wp2
    go_ret
    exact ⟨rfl, Below.refl _ _⟩
  obtain ⟨s0, si, sz0, sz1, sz2⟩ := info_parts infoStr
  go_enter Tryd.func6, Tryd.ntmps6
  go_wp2_with fail
  refine (drawShelfOk _ _ _ _ hb0 hl0 hm0).mono ?_
  rintro e w1 ⟨s, f, rfl, hs, hB1⟩
  have HO := Lib.hid (fun V => sok_any s f V (by omega))
  have k1 := Blk.new w1 24 #[.string s, .int .i64 f]
  have hB2 := hB1.alloc hB1.size (.cells #[.string s, .int .i64 f] 24)
  have hb2 := Bytes_later hb1 hB2
  clear hB1 hb0 hb1
  go_wp2_with fail
  generalize w1.heap.size = R0 at k1 ⊢
  generalize w1.alloc (.cells #[.string s, .int .i64 f] 24) = V1 at k1 hB2 hb2 ⊢
  refine (drawShelfRead _ _ _ _ hb2 hl1 hm1).mono ?_
  rintro e w2 ⟨b, rfl, hbs, hB3⟩
  have k2 := k1.below hB3 k1.lt
  have hB4 := hB2.trans (hB3.mono hB2.size)
  have HS := Lib.hid (fun W => sread_any b (by omega) W)
  have HI := Lib.hid (fun W (hW : Env W) => iread_any b (by omega) W hW.tab hW.errs hW.errT)
  have HI3 := Lib.hid (fun W (hW : Env W) => iread_any s (by omega) W hW.tab hW.errs hW.errT)
  have HI4 := Lib.hid (fun W (hW : Env W) => iread_any (s ++ b) (by rw [size_app]; omega) W hW.tab hW.errs hW.errT)
  have HA := Lib.hid (fun h => app_part (s := s) (b := b) (f := f) h)
  have hlb := rd_few (s := b) (by omega)
  have hn := en_few (b := b)
  unfold ReadPost at HS HI HI3 HI4
  rw [recV_str] at HS HI
  generalize (rd b.data.toList).map dc.str = lb at HS HI HA hlb
  generalize en b.data.toList = n at HS HI HA hn
  clear k1 hB2 hB3 hb2
  go_wp2_with fail
  refine (HS.out _).mono ?_
  rintro e w3 ⟨v2, rfl, hI2⟩
  have k3 := k2.below hI2.2 k2.lt
  have hB5 := hB4.trans (hI2.2.mono hB4.size)
  have hE3 := Lib.hid (hE.later hB5)
  clear k2 hB4 HS
  go_wp2_with fail
  refine (HI.out _ hE3.out).mono ?_
  rintro e w4 ⟨v1, rfl, hI1⟩
  have k4 := k3.below hI1.2 k3.lt
  have hB6 := hB5.trans (hI1.2.mono hB5.size)
  have c0 := k4.cell 0
  have c1 := k4.cell 1
  simp only [List.getElem?_toArray, List.getElem?_cons_zero, List.getElem?_cons_succ] at c0 c1
  have hS1 := sees_of_own hI1
  have hS2 := (sees_of_own hI2).later hI1.2
  clear k3 hB5 HI hE3 hI2
  go_wp2_with fail
  refine (lb_same _ _ _ lb hS1 hS2 (by omega)).mono ?_
  rintro e w5 ⟨rfl, q, rfl⟩
  have hB7 := below_drewN' hB6 q
  have k5 := k4.below (below_drewN' (Below.refl w4.heap.size w4) q) k4.lt
  have hS3 := hS1.drewN q
  have hS4 := hS2.drewN q
  have hI5 : ow.Own 9 w3 (w4.drewN q) v1 (lb.map Value.string) := ⟨hI1.1, below_drewN' hI1.2 q⟩
  clear c0 c1
  have c0 := k5.cell 0
  have c1 := k5.cell 1
  simp only [List.getElem?_toArray, List.getElem?_cons_zero, List.getElem?_cons_succ] at c0 c1
  clear hS1 hS2 hB6 hI1 k4
  generalize w4.drewN q = w5 at k5 hS3 hS4 hI5 c0 c1 hB7 ⊢
  go_wp2_with fail
  refine (HO.out _).mono ?_
  rintro e w6 ⟨rfl, hB8⟩
  have k6 := k5.below hB8 k5.lt
  have hB9 := hB7.trans (hB8.mono hB7.size)
  have hS5 := hS3.later hB8
  have hS6 := hS4.later hB8
  have hI6 := hI5.later hB8
  clear c0 c1
  have c0 := k6.cell 0
  have c1 := k6.cell 1
  simp only [List.getElem?_toArray, List.getElem?_cons_zero, List.getElem?_cons_succ] at c0 c1
  clear k5 hB7 hS3 hS4 hI5 hB8 HO
  cases hok : okSh s f with
  | false =>
    go_wp2_with fail
    refine (lb_same _ _ _ lb hS5 hS6 (by omega)).mono ?_
    rintro e w7 ⟨rfl, q2, rfl⟩
    go_wp2
    go_ret
    exact ⟨rfl, below_drewN' hB9 q2⟩
  | true =>
    obtain ⟨ls, hls, a1, a2, a3, a4⟩ := HA.out hok
    rw [a1, a2] at HI3
    rw [a3, a4] at HI4
    have hE6 := Lib.hid (hE.later hB9)
    clear a1 a2 a3 a4 HA hS5 hS6 hok
    go_wp2_with fail
    refine (HI3.out _ hE6.out).mono ?_
    rintro e w7 ⟨v3, rfl, hI7⟩
    have k7 := k6.below hI7.2 k6.lt
    have hI8 := hI6.later hI7.2
    have hBA := hB9.trans (hI7.2.mono hB9.size)
    clear c0 c1
    have c0 := k7.cell 0
    have c1 := k7.cell 1
    simp only [List.getElem?_toArray, List.getElem?_cons_zero, List.getElem?_cons_succ] at c0 c1
    have hE7 := Lib.hid (hE.later hBA)
    clear hI6 hB9 k6 HI3 hE6
    go_wp2_with fail
    refine (HI4.out _ hE7.out).mono ?_
    rintro e w8 ⟨v4, rfl, hI9⟩
    have hIA := hI7.later hI9.2
    have hIB := hI8.later hI9.2
    have HBB := Lib.hid (hBA.trans (hI9.2.mono hBA.size))
    have hS9 := sees_of_own hI9
    clear hI7 hI8 hI9 hBA k7 HI4 hE7 c0 c1
    obtain ⟨A3, c3, rfl, _⟩ := hIA.form
    obtain ⟨A1, c1, rfl, _⟩ := hIB.form
    have HSV := Lib.hid hS9
    have hN := own_none w8
    have hbelow := hN.2
    have hPA := (hIA.later hbelow)
    have hPB := (hIB.later hbelow)
    have P3 := part_of_own hPA
    have hl3 : (ls.map Value.string).length = ls.length := List.length_map _
    have hl1 : (lb.map Value.string).length = lb.length := List.length_map _
    go_wp2_with (at_builtin; refine wpList_append_strs rfl _ _ 27 rfl w8.heap.size 9 s0 (.string ⟨#[]⟩) 16 Tryd.underlying27 si sz0 sz1 sz2 rfl _ 0 [] rfl hN.1 A3 _ c3 (ls.map Value.string) rfl hl3.symm P3 (str_ones _) (by unfold maxLen; omega) (by omega) hbelow.size ?_)
    intro v5 w9 hown hgrow
    have hO5 := own_grow hN hown hgrow
    have hP5 := Go.Proofs.YtapkfajgphkajaaDoor.sl.Own.far hIB hbelow hgrow (fun k hk => by cases hk; exact Nat.le_refl _)
    try rw [List.nil_append] at hO5
    have P1 := part_of_own hP5
    have hS5 := hS9.later hO5.2
    have hBC := HBB.out.trans (hO5.2.mono HBB.out.size)
    have hz5 := hO5.2.size
    clear hown hgrow hN hbelow hPA hPB P3 hIA hIB hS9 hP5
    go_wp2_with (at_builtin; refine wpList_append_strs rfl _ _ 27 rfl w8.heap.size 9 s0 (.string ⟨#[]⟩) 16 Tryd.underlying27 si sz0 sz1 sz2 rfl _ _ _ rfl hO5.1 A1 _ c1 (lb.map Value.string) rfl hl1.symm P1 (str_ones _) (by unfold maxLen; omega) (by omega) hz5 ?_)
    intro v6 wA hown hgrow
    have hO6 : ow.Own 9 w8 wA v6 ((ls ++ lb).map Value.string) := by first | (rw [List.map_append]; exact own_grow hO5 hown hgrow) | exact own_grow hO5 hown hgrow
    have hS6 := sees_of_own hO6
    have HBD := Lib.hid (HBB.out.trans (hO6.2.mono HBB.out.size))
    have hv4 : SeesS wA v4 (ls ++ lb) := HSV.out.later hO6.2
    have hll : (ls ++ lb).length ≤ 1048576 := by rw [List.length_append]; omega
    clear hown hgrow hO5 hO6 hS5 P1 hBC HSV
    generalize ls ++ lb = la at hS6 hv4 hll
    go_wp2_with fail
    refine (lb_same _ _ _ la hv4 hS6 hll).mono ?_
    rintro e wB ⟨rfl, q2, rfl⟩
    go_wp2
    go_ret
    exact ⟨show Ending.returned (Value.bool ((s.size : Int) + n == (n : Int) + s.size)) = _ by rw [show ((s.size : Int) + n == (n : Int) + s.size) = true from beq_iff_eq.2 (Int.add_comm _ _)], below_drewN' HBD.out q2⟩

set_option maxRecDepth 100000 in
theorem lifted (os : Os) (started : os.Started) (H : Type) (enc : TypeId × Value → H) :
    ReturnsInHanded {} Tryd.checked os 6 .any (fun w args => (Rows.fnShelfReadSpec.pre enc Tryd.prog Tryd.f6 [] false w args ∧ laidMetH Tryd.prog dc.list6 w) ∧ sizedMet enc Tryd.prog Tryd.f6 (OpenSpec.ofChange Rows.fnShelfReadSpec) false w args)
      (Rows.fnShelfReadSpec.post enc Tryd.prog Tryd.f6 false true false false) := by
  refine returnsInHanded_of_change_and (C := Tryd.checked) (X := fun w _ => laidMetH Tryd.prog dc.list6 w) (fun _ _ _ hh h => h.of_heap hh) own started (by kernel_rfl) Tryd.func6
    (ChangeSpec.witness_shaped (enc := enc) (C := Tryd.checked) (os := os) (X := fun w _ => laidMetH Tryd.prog dc.list6 w) false (World.doorLaid Tryd.prog 400 os) #[.slice none 0 0, .slice none 0 0] 8 rfl (World.shaped_of_RefB (by kernel_rfl) (by kernel_rfl)) (by kernel_rfl) (by kernel_rfl) (by kernel_rfl) (dc.met6 os _)) ?_
  intro W base args ds gs before hval0 hW _ _ hL _
  have hval : ∀ (j : Nat) t v, Tryd.f6.params[j]? = some t → args[j]? = some v → Value.okWide Tryd.prog W .any base t v := hval0
  have hW' := hW
  obtain ⟨p, q, hA0, hV, rfl, hfz, hnd⟩ := hW
  have hA : DataW.TrodAll enc Tryd.prog W 0 (fun _ => true) true Tryd.f6.params.toList args.toList ds p := hA0
  rw [Tryd.params6] at hA hval
  obtain ⟨v0, vs0, d0, ds0, p0, q0, hargs, rfl, rfl, h0, r0⟩ := trodAll_cons hA
  obtain ⟨v1, vs1, d1, ds1, p1, q1, rfl, rfl, rfl, h1, r1⟩ := trodAll_cons r0
  obtain ⟨rfl, rfl, rfl⟩ := trodAll_nil r1
  obtain rfl : args = #[v0, v1] := by cases args; simp_all
  obtain ⟨rfl, rfl⟩ := trodVars_none hV
  have k0 := h0
  have lt0 : ∀ x ∈ p0, x.block < W.heap.size := by obtain ⟨m, hm⟩ := k0; exact DataW.trod_lt m _ _ _ hm
  have k1 := h1
  have lt1 : ∀ x ∈ p1, x.block < W.heap.size := by obtain ⟨m, hm⟩ := k1; exact DataW.trod_lt m _ _ _ hm
  obtain ⟨a0, len0, cap0, rfl⟩ := okWide_slice Tryd.underlying22 (hval 0 22 v0 rfl rfl)
  obtain ⟨hb0, hl0, hm0⟩ : wd.Bytes W W.heap.size a0 len0 ∧ len0 ≤ cap0 ∧ cap0 ≤ maxLen := by
    obtain ⟨fuel, hf⟩ := h0
    rcases open_ints Tryd.underlying22 Tryd.underlying5 (by kernel_rfl) hf with ⟨hcs, _⟩ | ⟨x, l, c, zs, hcs, _, hl, hm, hz, _, hcell, hwz⟩
    · simp [Value.cells] at hcs
      obtain ⟨rfl, rfl, rfl⟩ := hcs
      exact dr.bytes_of_row (zs := []) (.inl ⟨rfl, rfl, rfl, rfl⟩)
    · simp [Value.cells] at hcs
      obtain ⟨rfl, rfl, rfl⟩ := hcs
      exact dr.bytes_of_row (.inr ⟨_, rfl, hl, hm, by simpa using hz, hcell, hwz⟩)
  obtain ⟨a1, len1, cap1, rfl⟩ := okWide_slice Tryd.underlying22 (hval 1 22 v1 rfl rfl)
  obtain ⟨hb1, hl1, hm1⟩ : wd.Bytes W W.heap.size a1 len1 ∧ len1 ≤ cap1 ∧ cap1 ≤ maxLen := by
    obtain ⟨fuel, hf⟩ := h1
    rcases open_ints Tryd.underlying22 Tryd.underlying5 (by kernel_rfl) hf with ⟨hcs, _⟩ | ⟨x, l, c, zs, hcs, _, hl, hm, hz, _, hcell, hwz⟩
    · simp [Value.cells] at hcs
      obtain ⟨rfl, rfl, rfl⟩ := hcs
      exact dr.bytes_of_row (zs := []) (.inl ⟨rfl, rfl, rfl, rfl⟩)
    · simp [Value.cells] at hcs
      obtain ⟨rfl, rfl, rfl⟩ := hcs
      exact dr.bytes_of_row (.inr ⟨_, rfl, hl, hm, by simpa using hz, hcell, hwz⟩)
  have hE := dc.of_list6 hL
  clear hA0 hval0
  refine (walk a0 len0 cap0 a1 len1 cap1 W hb0 hl0 hm0 hb1 hl1 hm1 hE).mono fun e W' ⟨he, bel⟩ => ?_
  subst he
  exact ⟨_, rfl, _, _, _, [], _, [], hW', trodAll_mk1 (shut_bool Tryd.underlying4 _), (trodAll_cons_mk (Below.trod laidOut (by kernel_rfl) (of_decide_eq_true (by kernel_rfl)) k0 bel lt0) (trodAll_cons_mk (Below.trod laidOut (by kernel_rfl) (of_decide_eq_true (by kernel_rfl)) k1 bel lt1) trodAll_mk0)), rfl, bel.frame _, fun h => by cases h⟩

theorem over : Rows.fnShelfReadRow.holds Tryd.pinned (OpenSpec.ofChange Rows.fnShelfReadSpec) :=
  OpenClaim.holds_of_wide 6 Tryd.f6 rfl rfl rfl rfl rfl rfl rfl ⟨rfl, rfl, rfl, rfl, rfl⟩ rfl rfl rfl rfl rfl (by kernel_rfl) Tryd.func6 (by kernel_rfl)
    (of_decide_eq_true (by kernel_rfl)) (by unfold Func.isWrapper; first | (rw [if_pos (by decide +kernel)]; kernel_rfl) | (rw [if_neg (by decide +kernel)]; exact ⟨rfl, rfl⟩))
    (fun os started H enc _ => lifted os started H enc)

theorem proved : Rows.FnShelfReadCardSaid :=
  Claim7.holds_tied_plain_at .later [] [.data, .data, .data, .handle, .sentinel, .sentinel] true (true, "3c6fec435291172a5c816cfac6ba758a706bebda589e5f6f3d11b3c86231c966") true
    over (fun _ h => by cases h) (by kernel_rfl) (fun _ h => by cases h) fnShelfRead_row_tie rfl ⟨rfl, rfl⟩ (by kernel_rfl) rfl
    (fun f fn hf hfn => by
      obtain rfl : f = 6 := Option.some.inj ((show Tryd.prog.funcNamed "loop.example/bargeman/laws.FnShelfRead" = some 6 by kernel_rfl).symm.trans hf) |>.symm
      obtain rfl : fn = Tryd.f6 := (Option.some.inj (Tryd.func6.symm.trans hfn)).symm
      exact ⟨by kernel_rfl, fun j t ht => by
        rw [Tryd.params6] at ht
        have hm : t ∈ [22, 22] := by simpa using Array.mem_of_getElem? ht
        have hall : ([22, 22].all fun u => !Tryd.prog.wantsStandIn u) = true := by kernel_rfl
        exact (show Tryd.prog.wantsStandIn t = false by simpa using List.all_eq_true.1 hall t hm)⟩)
    (by kernel_rfl)
#print axioms proved
end Go.Proofs.YtapkfajgphkajaaDoor.fnShelfRead
