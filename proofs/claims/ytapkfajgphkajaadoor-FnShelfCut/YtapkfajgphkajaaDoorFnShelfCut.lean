/-
  Whatever the two codes: of the shelf drawn by the first, ShelfRead answers as the specification's, tells the whole log, and of the log's beginning, as long as the second says, it reads the first ones of the same records: the law returns true; the condition of the row: the listed variables of math/bits, strconv and errors read as the program's text lays them (tied by the card).
-/
import Derived.Test.YtapkfajgphkajaaDoorRows
import Derived.Test.YtapkfajgphkajaaDoorCards
import Derived.Test.YtapkfajgphkajaaDoorTie
import Derived.Test.YtapkfajgphkajaaDoorLaid6
import Derived.Test.YtapkfajgphkajaaDoorDraw0
import Derived.WalkKit
import Derived.ProofKit
import Derived.OpenShut
import Derived.ShutString
import Derived.ChangeOld
import Derived.Below
import Derived.LaidMore
import Derived.Stop.Joined
import Derived.SevenTiedAt
import Derived.Test.YtapkfajgphkajaaDoorDrawShOk
import Derived.Test.YtapkfajgphkajaaDoorSShOk
import Derived.Test.YtapkfajgphkajaaDoorIShOk
import Derived.Test.YtapkfajgphkajaaDoorSShRead
import Derived.Test.YtapkfajgphkajaaDoorIShRead
import Derived.Test.YtapkfajgphkajaaDoorStrLists
import Derived.Test.YtapkfajgphkajaaDoorCutLaw
import Derived.Test.YtapkfajgphkajaaDoorOwnCap
import Derived.BigQuiet
namespace Go.Proofs.YtapkfajgphkajaaDoor.fnShelfCut
open Go.ChangeShapes Go.WideShapes Go.ChangeAt Go.RowKit
open Go.ChangeMaps (open_string shut_string)
open Go.Proofs.YtapkfajgphkajaaDoor.nb Go.Proofs.YtapkfajgphkajaaDoor.ow Go.Proofs.YtapkfajgphkajaaDoor.sh Go.Proofs.YtapkfajgphkajaaDoor.dr Go.Proofs.YtapkfajgphkajaaDoor.wd Go.Proofs.YtapkfajgphkajaaDoor.sl
set_option linter.unusedVariables false

theorem own : ownKnob Tryd.prog.godebug = none := by kernel_rfl
theorem laidOut : laidOutB Tryd.prog = true := by kernel_rfl

set_option maxRecDepth 100000 in
set_option maxHeartbeats 4000000 in
theorem walk (a0 : Option Addr) (len0 cap0 : Nat) (a1 : Option Addr) (len1 cap1 : Nat) (w : World) (hb0 : wd.Bytes w w.heap.size a0 len0) (hl0 : len0 ≤ cap0) (hm0 : cap0 ≤ maxLen) (hb1 : wd.Bytes w w.heap.size a1 len1) (hl1 : len1 ≤ cap1) (hm1 : cap1 ≤ maxLen) (hE : sh.Env w) :
    Calls Tryd.prog 3 #[.slice a0 len0 cap0, .slice a1 len1 cap1] w fun e w' => e = .returned (.bool true) ∧ Below w.heap.size w w' := by
  have hm0' : cap0 ≤ 9223372036854775807 := hm0
  have hm1' : cap1 ≤ 9223372036854775807 := hm1
  by_cases hg0 : 1048576 < len0
  · go_enter Tryd.func3, Tryd.ntmps3
    go_wp2
    go_ret
    exact ⟨rfl, Below.refl _ _⟩
  by_cases hg1 : 1048576 < len1
  · go_enter Tryd.func3, Tryd.ntmps3
    go_wp2
    go_ret
    exact ⟨rfl, Below.refl _ _⟩
  go_enter Tryd.func3, Tryd.ntmps3
  go_wp2_with fail
  refine (drawShelfOk _ _ _ _ hb0 hl0 hm0).mono ?_
  rintro e w1 ⟨s, f, rfl, hs, hB1⟩
  have HO := Lib.hid (fun V => sok_any s f V (by omega))
  have HK := Lib.hid (fun V hV => iok_any s f V hV)
  have k1 := Blk.new w1 24 #[.string s, .int .i64 f]
  have hB2 := hB1.alloc hB1.size (.cells #[.string s, .int .i64 f] 24)
  have hb2 := Bytes_later hb1 hB2
  clear hB1 hb0 hb1
  go_wp2_with fail
  generalize w1.heap.size = R0 at k1 ⊢
  generalize w1.alloc (.cells #[.string s, .int .i64 f] 24) = V1 at k1 hB2 hb2 ⊢
  refine (HO.out _).mono ?_
  rintro e w2 ⟨rfl, hB3⟩
  have k2 := k1.below hB3 k1.lt
  have hB4 := hB2.trans (hB3.mono hB2.size)
  have hb4 := Bytes_later hb2 hB3
  have c0 := k2.cell 0
  have c1 := k2.cell 1
  simp only [List.getElem?_toArray, List.getElem?_cons_zero, List.getElem?_cons_succ] at c0 c1
  clear k1 hB2 hB3 HO hb2
  cases hok : okSh s f with
  | false =>
    rw [hok] at HK
    go_wp2_with fail
    refine (HK.out _ (hE.later hB4)).mono ?_
    rintro e w3 ⟨rfl, hB5⟩
    go_wp2
    go_ret
    exact ⟨rfl, hB4.trans (hB5.mono hB4.size)⟩
  | true =>
    obtain ⟨m, rfl, om, os, oe, _⟩ := ok_nat hok
    have HS := Lib.hid (fun W => sread_any s (by omega) W)
    have HI := Lib.hid (fun W (hW : Env W) => iread_any s (by omega) W hW.tab hW.errs hW.errT)
    have HJ := Lib.hid (fun (n : Nat) W (hW : Env W) => iread_any (s.extract 0 n) (by rw [ByteArray.size_extract]; omega) W hW.tab hW.errs hW.errT)
    unfold ReadPost at HS HI HJ
    rw [oe] at HS HI
    rw [recV_str] at HS HI
    have hsm := rd_few (s := s) (by omega)
    have HZ := Lib.hid (fun n => cut_part (s := s) n)
    generalize (rd s.data.toList).map dc.str = l at hsm HS HI HZ
    clear HK hok
    go_wp2_with fail
    refine (HS.out _).mono ?_
    rintro e w3 ⟨v2, rfl, hI2⟩
    have k3 := k2.below hI2.2 k2.lt
    have hb5 := Bytes_later hb4 hI2.2
    have hB5 := hB4.trans (hI2.2.mono hB4.size)
    clear c0 c1
    have c0 := k3.cell 0
    have c1 := k3.cell 1
    simp only [List.getElem?_toArray, List.getElem?_cons_zero, List.getElem?_cons_succ] at c0 c1
    have hE3 := Lib.hid (hE.later hB5)
    clear k2 hb4 hB4 HS
    go_wp2_with fail
    refine (HI.out _ hE3.out).mono ?_
    rintro e w4 ⟨v1, rfl, hI1⟩
    have k4 := k3.below hI1.2 k3.lt
    have hb6 := Bytes_later hb5 hI1.2
    have hB6 := hB5.trans (hI1.2.mono hB5.size)
    clear c0 c1
    have c0 := k4.cell 0
    have c1 := k4.cell 1
    simp only [List.getElem?_toArray, List.getElem?_cons_zero, List.getElem?_cons_succ] at c0 c1
    have hS1 := sees_of_own hI1
    have hS2 := (sees_of_own hI2).later hI1.2
    have HV := Lib.hid (own_cap hI2)
    clear k3 hb5 hB5 HI hE3 hI1 hI2
    go_wp2_with fail
    refine (lb_same _ _ _ l hS1 hS2 (by omega)).mono ?_
    rintro e w5 ⟨rfl, q, rfl⟩
    have hB7 := below_drewN' hB6 q
    have k5 := k4.below (below_drewN' (Below.refl w4.heap.size w4) q) k4.lt
    have hb7 := Bytes_later hb6 (below_drewN' (Below.refl w4.heap.size w4) q)
    have hS3 := hS2.drewN q
    clear c0 c1
    have c0 := k5.cell 0
    have c1 := k5.cell 1
    simp only [List.getElem?_toArray, List.getElem?_cons_zero, List.getElem?_cons_succ] at c0 c1
    clear hS1 hS2 hB6 hb6 k4
    generalize w4.drewN q = w5 at k5 hb7 hS3 c0 c1 hB7 ⊢
    have hE5 := Lib.hid (hE.later hB7)
    by_cases h2 : 1 < len1
    · obtain ⟨g, o, rfl, hgl, hby⟩ := hb7 (by omega)
      obtain ⟨y0, hy0, ya, yb⟩ := hby 0 (by omega)
      obtain ⟨y1, hy1, yc, yd⟩ := hby 1 (by omega)
      obtain ⟨a, ha, hat⟩ := at_nat (n := s.size) ya yc yb yd
      obtain ⟨j, k, hj, hk, hr, he⟩ := HZ.out a
      have HT := Lib.hid (HJ.out a)
      rw [hr, he] at HT
      have hsz : (s.extract 0 a).size = a := ext_of ha
      have b1 : IntKind.i64.wrap (y0 * 256) = y0 * 256 := by rw [IntKind.wrap_i64]; omega
      have b2 : IntKind.i64.wrap (y0 * 256 + y1) = y0 * 256 + y1 := by rw [IntKind.wrap_i64]; omega
      have b3 : IntKind.i64.wrap ((s.size : Int) + 1) = (s.size : Int) + 1 := by rw [IntKind.wrap_i64]; omega
      have b4 : IntKind.i64.wrap ((y0 * 256 + y1).tmod ((s.size : Int) + 1)) = (a : Int) := by rw [hat, IntKind.wrap_i64]; omega
      clear HJ HZ hr he hby hb7
      have h20 : 0 < len1 := by omega
      have h21 : (0 : Int) < len1 := by omega
      have h22 : (1 : Int) < len1 := by omega
      rw [Nat.add_zero] at hy0
      go_wp2_with fail
      go_quiet (fail)
      have hB9 := below_drewN' hB7 nq
      have hS8 := hS3.drewN nq
      have c2 := (show (w5.drewN nq).cell? ⟨R0, 0, none⟩ = _ from c0)
      have hE6 : Hid (Env (w5.drewN nq)) := ⟨hE5.out.tab, hE5.out.errs, hE5.out.errT⟩
      have ha' : (a : Int) ≤ s.size := by omega
      clear hy0 hy1 b1 b2 b3 b4 hat c0 c1 hS3 hB7 hE5 k5
      have hS3 := hS8
      have c0 := c2
      clear hS8 c2
      have c1 : True := trivial
      generalize w5.drewN nq = w8 at hB9 hS3 c0 hE6 ⊢
      go_wp2_with fail
      refine (HT.out _ hE6.out).mono ?_
      rintro e w6 ⟨v3, rfl, hI3⟩
      have hB8 := hB9.trans (hI3.2.mono hB9.size)
      have hS5 := sees_of_own hI3
      have hS6 := hS3.later hI3.2
      have hlj : (l.take j).length = j := by rw [List.length_take]; omega
      have hk' : (k : Int) ≤ a := by omega
      have hj' : (j : Int) ≤ l.length := by omega
      obtain ⟨A3, c3, rfl, _⟩ := id hS5
      rw [hlj] at hS5 ⊢
      clear hI3 hS3 c0 c1
      rcases HV.out with ⟨rfl, rfl⟩ | ⟨g2, c2, rfl, hc2, hc3⟩
      · obtain rfl : j = 0 := by simpa using hj
        clear HV
        go_wp2_with fail
        refine (lb_same _ _ _ [] hS5 hS6 (by simp)).mono ?_
        rintro e w7 ⟨rfl, q2, rfl⟩
        go_wp2
        go_ret
        exact ⟨rfl, below_drewN' hB8 q2⟩
      · have hS7 := sees_take hS6 hj
        have hjc : j ≤ c2 := by omega
        have hjc' : (j : Int) ≤ c2 := by omega
        clear HV
        go_wp2_with fail
        refine (lb_same _ _ _ (l.take j) hS5 hS7 (by omega)).mono ?_
        rintro e w7 ⟨rfl, q2, rfl⟩
        go_wp2
        go_ret
        exact ⟨rfl, below_drewN' hB8 q2⟩
    · obtain ⟨j, k, hj, hk, hr, he⟩ := HZ.out 0
      have HT := Lib.hid (HJ.out 0)
      rw [hr, he, show s.extract 0 0 = ByteArray.empty by simp] at HT
      have hE6 := hE5
      clear HJ HZ hr he k5
      go_wp2_with fail
      refine (HT.out _ hE6.out).mono ?_
      rintro e w6 ⟨v3, rfl, hI3⟩
      have hB8 := hB7.trans (hI3.2.mono hB7.size)
      have hS5 := sees_of_own hI3
      have hS6 := hS3.later hI3.2
      have hlj : (l.take j).length = j := by rw [List.length_take]; omega
      have hk' : (k : Int) ≤ 0 := by omega
      have hj' : (j : Int) ≤ l.length := by omega
      obtain ⟨A3, c3, rfl, _⟩ := id hS5
      rw [hlj] at hS5 ⊢
      clear hI3 hS3 c0 c1
      rcases HV.out with ⟨rfl, rfl⟩ | ⟨g2, c2, rfl, hc2, hc3⟩
      · obtain rfl : j = 0 := by simpa using hj
        clear HV
        go_wp2_with fail
        refine (lb_same _ _ _ [] hS5 hS6 (by simp)).mono ?_
        rintro e w7 ⟨rfl, q2, rfl⟩
        go_wp2
        go_ret
        exact ⟨rfl, below_drewN' hB8 q2⟩
      · have hS7 := sees_take hS6 hj
        have hjc : j ≤ c2 := by omega
        have hjc' : (j : Int) ≤ c2 := by omega
        clear HV
        go_wp2_with fail
        refine (lb_same _ _ _ (l.take j) hS5 hS7 (by omega)).mono ?_
        rintro e w7 ⟨rfl, q2, rfl⟩
        go_wp2
        go_ret
        exact ⟨rfl, below_drewN' hB8 q2⟩

set_option maxRecDepth 100000 in
theorem lifted (os : Os) (started : os.Started) (H : Type) (enc : TypeId × Value → H) :
    ReturnsInHanded {} Tryd.checked os 3 .any (fun w args => (Rows.fnShelfCutSpec.pre enc Tryd.prog Tryd.f3 [] false w args ∧ laidMetH Tryd.prog dc.list6 w) ∧ sizedMet enc Tryd.prog Tryd.f3 (OpenSpec.ofChange Rows.fnShelfCutSpec) false w args)
      (Rows.fnShelfCutSpec.post enc Tryd.prog Tryd.f3 false true false false) := by
  refine returnsInHanded_of_change_and (C := Tryd.checked) (X := fun w _ => laidMetH Tryd.prog dc.list6 w) (fun _ _ _ hh h => h.of_heap hh) own started (by kernel_rfl) Tryd.func3
    (ChangeSpec.witness_shaped (enc := enc) (C := Tryd.checked) (os := os) (X := fun w _ => laidMetH Tryd.prog dc.list6 w) false (World.doorLaid Tryd.prog 400 os) #[.slice none 0 0, .slice none 0 0] 8 rfl (World.shaped_of_RefB (by kernel_rfl) (by kernel_rfl)) (by kernel_rfl) (by kernel_rfl) (by kernel_rfl) (dc.met6 os _)) ?_
  intro W base args ds gs before hval0 hW _ _ hL _
  have hval : ∀ (j : Nat) t v, Tryd.f3.params[j]? = some t → args[j]? = some v → Value.okWide Tryd.prog W .any base t v := hval0
  have hW' := hW
  obtain ⟨p, q, hA0, hV, rfl, hfz, hnd⟩ := hW
  have hA : DataW.TrodAll enc Tryd.prog W 0 (fun _ => true) true Tryd.f3.params.toList args.toList ds p := hA0
  rw [Tryd.params3] at hA hval
  obtain ⟨v0, vs0, d0, ds0, p0, q0, hargs, rfl, rfl, h0, r0⟩ := trodAll_cons hA
  obtain ⟨v1, vs1, d1, ds1, p1, q1, rfl, rfl, rfl, h1, r1⟩ := trodAll_cons r0
  obtain ⟨rfl, rfl, rfl⟩ := trodAll_nil r1
  obtain rfl : args = #[v0, v1] := by cases args; simp_all
  obtain ⟨rfl, rfl⟩ := trodVars_none hV
  have k0 := h0
  have lt0 : ∀ x ∈ p0, x.block < W.heap.size := by obtain ⟨m, hm⟩ := k0; exact DataW.trod_lt m _ _ _ hm
  have k1 := h1
  have lt1 : ∀ x ∈ p1, x.block < W.heap.size := by obtain ⟨m, hm⟩ := k1; exact DataW.trod_lt m _ _ _ hm
  obtain ⟨a0, len0, cap0, rfl⟩ := okWide_slice Tryd.underlying22 (hval 0 22 v0 rfl rfl)
  obtain ⟨hb0, hl0, hm0⟩ : wd.Bytes W W.heap.size a0 len0 ∧ len0 ≤ cap0 ∧ cap0 ≤ maxLen := by
    obtain ⟨fuel, hf⟩ := h0
    rcases open_ints Tryd.underlying22 Tryd.underlying5 (by kernel_rfl) hf with ⟨hcs, _⟩ | ⟨x, l, c, zs, hcs, _, hl, hm, hz, _, hcell, hwz⟩
    · simp [Value.cells] at hcs
      obtain ⟨rfl, rfl, rfl⟩ := hcs
      exact dr.bytes_of_row (zs := []) (.inl ⟨rfl, rfl, rfl, rfl⟩)
    · simp [Value.cells] at hcs
      obtain ⟨rfl, rfl, rfl⟩ := hcs
      exact dr.bytes_of_row (.inr ⟨_, rfl, hl, hm, by simpa using hz, hcell, hwz⟩)
  obtain ⟨a1, len1, cap1, rfl⟩ := okWide_slice Tryd.underlying22 (hval 1 22 v1 rfl rfl)
  obtain ⟨hb1, hl1, hm1⟩ : wd.Bytes W W.heap.size a1 len1 ∧ len1 ≤ cap1 ∧ cap1 ≤ maxLen := by
    obtain ⟨fuel, hf⟩ := h1
    rcases open_ints Tryd.underlying22 Tryd.underlying5 (by kernel_rfl) hf with ⟨hcs, _⟩ | ⟨x, l, c, zs, hcs, _, hl, hm, hz, _, hcell, hwz⟩
    · simp [Value.cells] at hcs
      obtain ⟨rfl, rfl, rfl⟩ := hcs
      exact dr.bytes_of_row (zs := []) (.inl ⟨rfl, rfl, rfl, rfl⟩)
    · simp [Value.cells] at hcs
      obtain ⟨rfl, rfl, rfl⟩ := hcs
      exact dr.bytes_of_row (.inr ⟨_, rfl, hl, hm, by simpa using hz, hcell, hwz⟩)
  have hE := dc.of_list6 hL
  clear hA0 hval0
  refine (walk a0 len0 cap0 a1 len1 cap1 W hb0 hl0 hm0 hb1 hl1 hm1 hE).mono fun e W' ⟨he, bel⟩ => ?_
  subst he
  exact ⟨_, rfl, _, _, _, [], _, [], hW', trodAll_mk1 (shut_bool Tryd.underlying4 _), (trodAll_cons_mk (Below.trod laidOut (by kernel_rfl) (of_decide_eq_true (by kernel_rfl)) k0 bel lt0) (trodAll_cons_mk (Below.trod laidOut (by kernel_rfl) (of_decide_eq_true (by kernel_rfl)) k1 bel lt1) trodAll_mk0)), rfl, bel.frame _, fun h => by cases h⟩

theorem over : Rows.fnShelfCutRow.holds Tryd.pinned (OpenSpec.ofChange Rows.fnShelfCutSpec) :=
  OpenClaim.holds_of_wide 3 Tryd.f3 rfl rfl rfl rfl rfl rfl rfl ⟨rfl, rfl, rfl, rfl, rfl⟩ rfl rfl rfl rfl rfl (by kernel_rfl) Tryd.func3 (by kernel_rfl)
    (of_decide_eq_true (by kernel_rfl)) (by unfold Func.isWrapper; first | (rw [if_pos (by decide +kernel)]; kernel_rfl) | (rw [if_neg (by decide +kernel)]; exact ⟨rfl, rfl⟩))
    (fun os started H enc _ => lifted os started H enc)

theorem proved : Rows.FnShelfCutCardSaid :=
  Claim7.holds_tied_plain_at .later [] [.data, .data, .data, .handle, .sentinel, .sentinel] true (true, "3c6fec435291172a5c816cfac6ba758a706bebda589e5f6f3d11b3c86231c966") true
    over (fun _ h => by cases h) (by kernel_rfl) (fun _ h => by cases h) fnShelfCut_row_tie rfl ⟨rfl, rfl⟩ (by kernel_rfl) rfl
    (fun f fn hf hfn => by
      obtain rfl : f = 3 := Option.some.inj ((show Tryd.prog.funcNamed "loop.example/bargeman/laws.FnShelfCut" = some 3 by kernel_rfl).symm.trans hf) |>.symm
      obtain rfl : fn = Tryd.f3 := (Option.some.inj (Tryd.func3.symm.trans hfn)).symm
      exact ⟨by kernel_rfl, fun j t ht => by
        rw [Tryd.params3] at ht
        have hm : t ∈ [22, 22] := by simpa using Array.mem_of_getElem? ht
        have hall : ([22, 22].all fun u => !Tryd.prog.wantsStandIn u) = true := by kernel_rfl
        exact (show Tryd.prog.wantsStandIn t = false by simpa using List.all_eq_true.1 hall t hm)⟩)
    (by kernel_rfl)
#print axioms proved
end Go.Proofs.YtapkfajgphkajaaDoor.fnShelfCut
