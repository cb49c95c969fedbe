/-
  At every drawn frame FramePack answers as the specification, and no proper prefix of the bytes of a valid frame, nor these bytes with a zero behind them, are read as a frame: the law returns true for every code; the condition of the row: the program's three errors of frames read as the program's text lays them (tied by the card).
-/
import Derived.Test.YtgihbilpimempaaDoorRows
import Derived.Test.YtgihbilpimempaaDoorCards
import Derived.Test.YtgihbilpimempaaDoorTie
import Derived.Test.YtgihbilpimempaaDoorLaidF
import Derived.Test.YtgihbilpimempaaDoorDraw0
import Derived.WalkKit
import Derived.ProofKit
import Derived.OpenShut
import Derived.ShutString
import Derived.ChangeOld
import Derived.Below
import Derived.LaidMore
import Derived.Stop.Joined
import Derived.SevenTiedAt
import Derived.OpenVars
import Derived.Test.YtgihbilpimempaaDoorFrUn4
import Derived.Test.YtgihbilpimempaaDoorIPack2
import Derived.Test.YtgihbilpimempaaDoorSPack
import Derived.Test.YtgihbilpimempaaDoorFrStr
import Derived.Test.YtgihbilpimempaaDoorRegSkip
import Derived.Test.YtgihbilpimempaaDoorDrawFr
namespace Go.Proofs.YtgihbilpimempaaDoor.fnFrameShort
open Go.ChangeShapes Go.WideShapes Go.ChangeAt Go.RowKit
open Go.ChangeMaps (open_string shut_string)
open Go.Proofs.YtgihbilpimempaaDoor.nb Go.Proofs.YtgihbilpimempaaDoor.fr Go.Proofs.YtgihbilpimempaaDoor.wd Go.Proofs.YtgihbilpimempaaDoor.dr Go.Proofs.YtgihbilpimempaaDoor.ow Go.Proofs.YtgihbilpimempaaDoor.cp
set_option linter.unusedVariables false

theorem own : ownKnob Tryd.prog.godebug = none := by kernel_rfl
theorem laidOut : laidOutB Tryd.prog = true := by kernel_rfl

set_option maxRecDepth 100000 in
set_option maxHeartbeats 4000000 in
theorem walk (a0 : Option Addr) (len0 cap0 : Nat) (w : World) (hb0 : wd.Bytes w w.heap.size a0 len0) (hl0 : len0 ≤ cap0) (hm0 : cap0 ≤ maxLen) (hE : fr.FErr w.heap.size w) :
    Calls Tryd.prog 6 #[.slice a0 len0 cap0] w fun e w' => e = .returned (.bool true) ∧ Below w.heap.size w w' := by
  have hm0' : cap0 ≤ 9223372036854775807 := hm0
  by_cases hg0 : 1048576 < len0
  · have hg0' : (1048576 : Int) < len0 := by omega
    go_enter Tryd.func6, Tryd.ntmps6
    go_wp2
    go_ret
    exact ⟨rfl, Below.refl _ _⟩
  have hg0' : ¬ (1048576 : Int) < len0 := by omega
  obtain ⟨i0, hi, hz0, hz1, hz2⟩ := info_parts infoByte
  go_enter Tryd.func6, Tryd.ntmps6
  go_wp2_with fail
  refine (drawFramePack _ _ _ _ hb0 hl0 hm0).mono ?_
  rintro e w1 ⟨F, rfl, hs, hB1⟩
  have hsm : F.x.size ≤ maxLen := by unfold maxLen; omega
  have HI := Lib.hid (fun V => ipack_any F V hsm)
  have HP := Lib.hid (fun V => spack_any F V hsm)
  have hB2 := hB1.alloc hB1.size (.cells (fcs F) 24)
  have hN2 := Blk.new w1 24 (fcs F)
  have hlen := pk_len F
  have HA : Hid (pk F = [] ∨ isF (pk F) = true) := by
    cases h : okF F with
    | false => exact .inl (pk_no h)
    | true => exact .inr (pk_isF h)
  generalize pk F = l at HI HP HA hlen
  have HE := Lib.hid hE
  clear hb0 hl0 hm0 hB1 hs hsm hE
  obtain ⟨k, s, d, f, n, t, u, z, m, x⟩ := F
  unfold frv at HI HP
  unfold frv
  simp only at HI HP ⊢
  go_wp2_with fail
  generalize w1.alloc (.cells (fcs ⟨k, s, d, f, n, t, u, z, m, x⟩) 24) = W at hN2 hB2 ⊢
  refine (HI.out _).mono ?_
  rintro e w3 ⟨A3, n3, p3, rfl, hO3⟩
  obtain ⟨hn3, hR3⟩ := own_rowN hO3
  subst hn3
  have HN3 := Lib.hid (hN2.below hO3.2 hN2.lt)
  have HB3 := Lib.hid (hB2.trans (hO3.2.mono hB2.size))
  have HR3 := Lib.hid hR3
  have hlc : l.length ≤ p3 ∧ p3 ≤ maxLen := by
    rcases hO3.1.2 with ⟨e, h0⟩ | ⟨g, cap, cur, e, _, _, h1, h2, _⟩
    · injection e with e1 e2 e3
      rw [List.length_map] at h0
      omega
    · injection e with e1 e2 e3
      rw [List.length_map] at h1
      exact ⟨by omega, by omega⟩
  clear hO3 hN2 hB2 hR3 HI
  have hne : ((txt l).toList != (txt l).toList) = false := by simp
  have heq : ((txt l).toList == (txt l).toList) = true := by simp
  rcases HA.out with hl0 | hi
  · have hlz : ((l.length : Int) == 0) = true := by rw [hl0]; rfl
    clear hl0 HA hlen
    go_wp2_with fail
    refine wp_region_held_drew (S := (fun w' : World => RowB w' A3 l ∧ Blk w' w1.heap.size 24 (fcs ⟨k, s, d, f, n, t, u, z, m, x⟩))) (by kernel_rfl) ⟨HR3.out, HN3.out⟩ (fun hHeld => ?_)
    refine rs.want_take (i := 0) 17 (v := ?_) rfl rfl (by kernel_rfl) (by kernel_rfl) (by kernel_rfl) (fun _ _ _ _ h => h) rfl ?_ (by assumption) ?_
    rotate_left 1
    · (intro w hSw; go_simp; try with_reducible rfl)
    simp only [List.setIfInBounds_toArray, List.set_cons_zero, List.set_cons_succ]
    refine rs.want_take (i := 1) 18 (v := ?_) rfl rfl (by kernel_rfl) (by kernel_rfl) (by kernel_rfl) (fun _ _ _ _ h => h) rfl ?_ (by assumption) ?_
    rotate_left 1
    · (intro w hSw; have hcv := conv_any hSw.1 p3; go_simp; try with_reducible rfl)
    simp only [List.setIfInBounds_toArray, List.set_cons_zero, List.set_cons_succ]
    refine rs.want_take (i := 2) 19 (v := ?_) rfl rfl (by kernel_rfl) (by kernel_rfl) (by kernel_rfl) (fun _ _ _ _ h => h) rfl ?_ (by assumption) ?_
    rotate_left 1
    · (intro w hSw; obtain ⟨c0, c1, c2, c3, c4, c5, c6, c7, c8, c9, _⟩ := ten hSw.2; go_simp; try with_reducible rfl)
    simp only [List.setIfInBounds_toArray, List.set_cons_zero, List.set_cons_succ]
    refine wpAnyH_ready (rs := [3]) (by kernel_rfl) (by simp) ?_
    refine AllReadyH.cons rfl (fun K hK => ?_) AllReadyH.nil
    go_simp
    refine (HP.out _).mono ?_
    rintro e w5 ⟨A5, n5, p5, rfl, hO5⟩
    obtain ⟨hn5, hR5⟩ := own_rowN hO5
    subst hn5
    have hS5 : RowB w5 A3 l ∧ Blk w5 w1.heap.size 24 (fcs ⟨k, s, d, f, n, t, u, z, m, x⟩) := ⟨hHeld.1.later hO5.2, hHeld.2.below hO5.2 hHeld.2.lt⟩
    have HB5 := Lib.hid (HB3.out.drew.trans (hO5.2.mono HB3.out.drew.size))
    have HR5 := Lib.hid hR5
    refine hK.out _ _ hS5 (fun hHeld => ?_)
    clear hK K
    refine wpAnyH_ready (rs := [4]) (by kernel_rfl) (by simp) ?_
    refine AllReadyH.cons rfl (fun K hK => ?_) AllReadyH.nil
    have hcv5 := conv_any hR5 p5
    go_simp
    refine hK.out _ _ hS5 (fun hHeld => ?_)
    clear hK K
    refine rs.want_take (i := 5) 22 (v := ?_) rfl rfl (by kernel_rfl) (by kernel_rfl) (by kernel_rfl) (fun _ _ _ _ h => h) rfl ?_ (by assumption) ?_
    rotate_left 1
    · (intro w hSw; go_simp; try with_reducible rfl)
    simp only [List.setIfInBounds_toArray, List.set_cons_zero, List.set_cons_succ]
    refine rs.want_take (i := 6) 23 (v := ?_) rfl rfl (by kernel_rfl) (by kernel_rfl) (by kernel_rfl) (fun _ _ _ _ h => h) rfl ?_ (by assumption) ?_
    rotate_left 1
    · (intro w hSw; go_simp; try with_reducible rfl)
    simp only [List.setIfInBounds_toArray, List.set_cons_zero, List.set_cons_succ]
    refine rs.want_take (i := 7) 24 (v := ?_) rfl rfl (by kernel_rfl) (by kernel_rfl) (by kernel_rfl) (fun _ _ _ _ h => h) rfl ?_ (by assumption) ?_
    rotate_left 1
    · (intro w hSw; go_simp; try with_reducible rfl)
    simp only [List.setIfInBounds_toArray, List.set_cons_zero, List.set_cons_succ]
    refine rs.want_take (i := 8) 25 (v := ?_) rfl rfl (by kernel_rfl) (by kernel_rfl) (by kernel_rfl) (fun _ _ _ _ h => h) rfl ?_ (by assumption) ?_
    rotate_left 1
    · (intro w hSw; go_simp; try with_reducible rfl)
    simp only [List.setIfInBounds_toArray, List.set_cons_zero, List.set_cons_succ]
    refine rs.want_take (i := 9) 26 (v := ?_) rfl rfl (by kernel_rfl) (by kernel_rfl) (by kernel_rfl) (fun _ _ _ _ h => h) rfl ?_ (by assumption) ?_
    rotate_left 1
    · (intro w hSw; go_simp; try with_reducible rfl)
    simp only [List.setIfInBounds_toArray, List.set_cons_zero, List.set_cons_succ]
    refine rs.want_take (i := 10) 27 (v := ?_) rfl rfl (by kernel_rfl) (by kernel_rfl) (by kernel_rfl) (fun _ _ _ _ h => h) rfl ?_ (by assumption) ?_
    rotate_left 1
    · (intro w hSw; go_simp; try with_reducible rfl)
    simp only [List.setIfInBounds_toArray, List.set_cons_zero, List.set_cons_succ]
    refine wpAnyH_done (by kernel_rfl) ?_ _
    clear hcv5 hR5 hO5 HN3 HB3 HR3
    have HN3 := Lib.hid hS5.2
    have HR3 := Lib.hid hS5.1
    have HB3 := HB5
    clear hS5 HB5 HR5
    generalize w5 = w3 at HN3 HR3 HB3 ⊢
    go_wp2_with fail
    refine wp_region_held_drew (S := (fun w' : World => RowB w' A3 l ∧ Blk w' w1.heap.size 24 (fcs ⟨k, s, d, f, n, t, u, z, m, x⟩))) (by kernel_rfl) ⟨HR3.out, HN3.out⟩ (fun hHeld => ?_)
    refine rs.want_take (i := 0) 28 (v := ?_) rfl rfl (by kernel_rfl) (by kernel_rfl) (by kernel_rfl) (fun _ _ _ _ h => h) rfl ?_ (by assumption) ?_
    rotate_left 1
    · (intro w hSw; go_simp; try with_reducible rfl)
    simp only [List.setIfInBounds_toArray, List.set_cons_zero, List.set_cons_succ]
    refine rs.want_take (i := 1) 29 (v := ?_) rfl rfl (by kernel_rfl) (by kernel_rfl) (by kernel_rfl) (fun _ _ _ _ h => h) rfl ?_ (by assumption) ?_
    rotate_left 1
    · (intro w hSw; have hcv := conv_any hSw.1 p3; go_simp; try with_reducible rfl)
    simp only [List.setIfInBounds_toArray, List.set_cons_zero, List.set_cons_succ]
    refine rs.want_take (i := 2) 30 (v := ?_) rfl rfl (by kernel_rfl) (by kernel_rfl) (by kernel_rfl) (fun _ _ _ _ h => h) rfl ?_ (by assumption) ?_
    rotate_left 1
    · (intro w hSw; obtain ⟨c0, c1, c2, c3, c4, c5, c6, c7, c8, c9, _⟩ := ten hSw.2; go_simp; try with_reducible rfl)
    simp only [List.setIfInBounds_toArray, List.set_cons_zero, List.set_cons_succ]
    refine wpAnyH_ready (rs := [3]) (by kernel_rfl) (by simp) ?_
    refine AllReadyH.cons rfl (fun K hK => ?_) AllReadyH.nil
    go_simp
    refine (HP.out _).mono ?_
    rintro e w5 ⟨A5, n5, p5, rfl, hO5⟩
    obtain ⟨hn5, hR5⟩ := own_rowN hO5
    subst hn5
    have hS5 : RowB w5 A3 l ∧ Blk w5 w1.heap.size 24 (fcs ⟨k, s, d, f, n, t, u, z, m, x⟩) := ⟨hHeld.1.later hO5.2, hHeld.2.below hO5.2 hHeld.2.lt⟩
    have HB5 := Lib.hid (HB3.out.drew.trans (hO5.2.mono HB3.out.drew.size))
    have HR5 := Lib.hid hR5
    refine hK.out _ _ hS5 (fun hHeld => ?_)
    clear hK K
    refine wpAnyH_ready (rs := [4]) (by kernel_rfl) (by simp) ?_
    refine AllReadyH.cons rfl (fun K hK => ?_) AllReadyH.nil
    have hcv5 := conv_any hR5 p5
    go_simp
    refine hK.out _ _ hS5 (fun hHeld => ?_)
    clear hK K
    refine rs.want_take (i := 5) 33 (v := ?_) rfl rfl (by kernel_rfl) (by kernel_rfl) (by kernel_rfl) (fun _ _ _ _ h => h) rfl ?_ (by assumption) ?_
    rotate_left 1
    · (intro w hSw; go_simp; try with_reducible rfl)
    simp only [List.setIfInBounds_toArray, List.set_cons_zero, List.set_cons_succ]
    refine rs.want_take (i := 6) 2 (v := ?_) rfl rfl (by kernel_rfl) (by kernel_rfl) (by kernel_rfl) (fun _ _ _ _ h => h) rfl ?_ (by assumption) ?_
    rotate_left 1
    · (intro w hSw; go_simp; try with_reducible rfl)
    simp only [List.setIfInBounds_toArray, List.set_cons_zero, List.set_cons_succ]
    refine wpAnyH_done (by kernel_rfl) ?_ _
    clear hcv5 hR5 hO5
    go_wp2
    go_ret
    exact ⟨rfl, HB5.out⟩
  · have HI := Lib.hid hi
    have hl10 : 10 ≤ l.length ∧ l.length ≤ 17 := by
      have := isF_len hi
      rcases lenOf_cases l with ⟨_, e⟩ | ⟨_, e⟩ <;> omega
    obtain ⟨hl1, hl2⟩ := hl10
    have hlz : ((l.length : Int) == 0) = false := beq_eq_false_iff_ne.2 (by omega)
    clear HA hlen hi
    go_wp2_with fail
    refine wp_region_held_drew (S := (fun w' : World => RowB w' A3 l ∧ Blk w' w1.heap.size 24 (fcs ⟨k, s, d, f, n, t, u, z, m, x⟩))) (by kernel_rfl) ⟨HR3.out, HN3.out⟩ (fun hHeld => ?_)
    refine rs.want_take (i := 0) 17 (v := ?_) rfl rfl (by kernel_rfl) (by kernel_rfl) (by kernel_rfl) (fun _ _ _ _ h => h) rfl ?_ (by assumption) ?_
    rotate_left 1
    · (intro w hSw; go_simp; try with_reducible rfl)
    simp only [List.setIfInBounds_toArray, List.set_cons_zero, List.set_cons_succ]
    refine rs.want_take (i := 1) 18 (v := ?_) rfl rfl (by kernel_rfl) (by kernel_rfl) (by kernel_rfl) (fun _ _ _ _ h => h) rfl ?_ (by assumption) ?_
    rotate_left 1
    · (intro w hSw; have hcv := conv_any hSw.1 p3; go_simp; try with_reducible rfl)
    simp only [List.setIfInBounds_toArray, List.set_cons_zero, List.set_cons_succ]
    refine rs.want_take (i := 2) 19 (v := ?_) rfl rfl (by kernel_rfl) (by kernel_rfl) (by kernel_rfl) (fun _ _ _ _ h => h) rfl ?_ (by assumption) ?_
    rotate_left 1
    · (intro w hSw; obtain ⟨c0, c1, c2, c3, c4, c5, c6, c7, c8, c9, _⟩ := ten hSw.2; go_simp; try with_reducible rfl)
    simp only [List.setIfInBounds_toArray, List.set_cons_zero, List.set_cons_succ]
    refine wpAnyH_ready (rs := [3]) (by kernel_rfl) (by simp) ?_
    refine AllReadyH.cons rfl (fun K hK => ?_) AllReadyH.nil
    go_simp
    refine (HP.out _).mono ?_
    rintro e w5 ⟨A5, n5, p5, rfl, hO5⟩
    obtain ⟨hn5, hR5⟩ := own_rowN hO5
    subst hn5
    have hS5 : RowB w5 A3 l ∧ Blk w5 w1.heap.size 24 (fcs ⟨k, s, d, f, n, t, u, z, m, x⟩) := ⟨hHeld.1.later hO5.2, hHeld.2.below hO5.2 hHeld.2.lt⟩
    have HB5 := Lib.hid (HB3.out.drew.trans (hO5.2.mono HB3.out.drew.size))
    have HR5 := Lib.hid hR5
    refine hK.out _ _ hS5 (fun hHeld => ?_)
    clear hK K
    refine wpAnyH_ready (rs := [4]) (by kernel_rfl) (by simp) ?_
    refine AllReadyH.cons rfl (fun K hK => ?_) AllReadyH.nil
    have hcv5 := conv_any hR5 p5
    go_simp
    refine hK.out _ _ hS5 (fun hHeld => ?_)
    clear hK K
    refine rs.want_take (i := 5) 22 (v := ?_) rfl rfl (by kernel_rfl) (by kernel_rfl) (by kernel_rfl) (fun _ _ _ _ h => h) rfl ?_ (by assumption) ?_
    rotate_left 1
    · (intro w hSw; go_simp; try with_reducible rfl)
    simp only [List.setIfInBounds_toArray, List.set_cons_zero, List.set_cons_succ]
    refine rs.want_take (i := 6) 23 (v := ?_) rfl rfl (by kernel_rfl) (by kernel_rfl) (by kernel_rfl) (fun _ _ _ _ h => h) rfl ?_ (by assumption) ?_
    rotate_left 1
    · (intro w hSw; go_simp; try with_reducible rfl)
    simp only [List.setIfInBounds_toArray, List.set_cons_zero, List.set_cons_succ]
    refine rs.want_take (i := 7) 24 (v := ?_) rfl rfl (by kernel_rfl) (by kernel_rfl) (by kernel_rfl) (fun _ _ _ _ h => h) rfl ?_ (by assumption) ?_
    rotate_left 1
    · (intro w hSw; go_simp; try with_reducible rfl)
    simp only [List.setIfInBounds_toArray, List.set_cons_zero, List.set_cons_succ]
    refine rs.want_take (i := 8) 25 (v := ?_) rfl rfl (by kernel_rfl) (by kernel_rfl) (by kernel_rfl) (fun _ _ _ _ h => h) rfl ?_ (by assumption) ?_
    rotate_left 1
    · (intro w hSw; go_simp; try with_reducible rfl)
    simp only [List.setIfInBounds_toArray, List.set_cons_zero, List.set_cons_succ]
    refine rs.want_take (i := 9) 26 (v := ?_) rfl rfl (by kernel_rfl) (by kernel_rfl) (by kernel_rfl) (fun _ _ _ _ h => h) rfl ?_ (by assumption) ?_
    rotate_left 1
    · (intro w hSw; go_simp; try with_reducible rfl)
    simp only [List.setIfInBounds_toArray, List.set_cons_zero, List.set_cons_succ]
    refine rs.want_take (i := 10) 27 (v := ?_) rfl rfl (by kernel_rfl) (by kernel_rfl) (by kernel_rfl) (fun _ _ _ _ h => h) rfl ?_ (by assumption) ?_
    rotate_left 1
    · (intro w hSw; go_simp; try with_reducible rfl)
    simp only [List.setIfInBounds_toArray, List.set_cons_zero, List.set_cons_succ]
    refine wpAnyH_done (by kernel_rfl) ?_ _
    clear hcv5 hR5 hO5 hne heq HN3 HB3 HR3 HR5 HP
    have HR5 := Lib.hid hS5.1
    have HE5 := Lib.hid ((HE.out.below HB5.out).less HB5.out.size)
    clear hS5 HE
    obtain ⟨g5, o5, e5, hg5, hc5⟩ := HR5.out (by omega)
    subst e5
    have HC5 := Lib.hid hc5
    clear hc5
    go_wp2
    go_loopw [5] (fun i wr => ∃ j : Nat, j ≤ l.length ∧ i = .int .i64 j ∧ Below w5.heap.size w5 wr) (fun i _ => (l.length + 1 : Nat) - (intOf i).toNat)
    case atStart => exact ⟨0, by omega, rfl, Below.refl _ _⟩
    case round =>
      obtain ⟨j, hj, rfl, hBr⟩ := hrel
      have hsr := hBr.size
      have HBr := Lib.hid hBr
      have HEr := Lib.hid ((HE5.out.below hBr).less hsr)
      have HRr := Lib.hid (HR5.out.later hBr)
      by_cases hjl : j < l.length
      · have hj0 : (0 : Int) ≤ (j : Int) := by omega
        have hj1 : (j : Int) < (l.length : Int) := by omega
        have hj2 : (j : Int) ≤ (p3 : Int) := by omega
        have htl : (l.take j).length = j := by rw [List.length_take]; omega
        have hU := iunp_any _ _ p3 (l.take j) (HRr.out.take j) HEr.out (by omega) (by omega) hlc.2
        have hsh := short HI.out hjl
        rw [htl] at hU
        unfold UnPost at hU
        rw [hsh, unp_no hsh] at hU
        unfold frv fr0 at hU
        simp only at hU
        have HU := Lib.hid hU
        clear hU htl hsh hBr
        go_wp2_with fail
        refine HU.out.mono ?_
        rintro e w7 ⟨rfl, hB7⟩
        have HB7 := Lib.hid (HBr.out.trans (hB7.mono HBr.out.size))
        clear hB7 HU HBr HEr HRr
        go_wp2
        go_roundw
        case rel => exact ⟨j + 1, by omega, by go_num, HB7.out.alloc HB7.out.size _⟩
        case measure => simp [intOf]; omega
      · obtain rfl : j = l.length := by omega
        clear hj hjl
        have hO0 : Own 5 wr (wr.alloc (.cells #[] 5)) (.slice (some ⟨wr.heap.size, 0, none⟩) 0 0) [] := Own.empty wr
        go_wp2_with (at_builtin; refine wpList_append_own _ rfl (.tmp 49) (.tmp 50) 22 rfl wr.heap.size 5 i0 (.int .u8 0) 1 1 Tryd.underlying22 hi hz0 hz1 hz2 rfl (by decide) _ _ _ rfl (hO0.1) ⟨g5, o5, none⟩ l.length p3 (l.map bv) rfl ?e0 ?e1 ?e2 ?e3 ?e4 ?e5 ?_)
        case e0 => rw [List.length_map]; omega
        case e1 =>
          intro q y hy
          have hq : q < l.length := by
            have := (List.getElem?_eq_some_iff.1 hy).1
            rwa [List.length_map] at this
          have e : (⟨g5, o5, none⟩ : Addr).add q = ⟨g5, o5 + q, none⟩ := by unfold Addr.add; split <;> simp_all
          have hlow : Below w5.heap.size w5 (wr.alloc (.cells #[] 5)) := HBr.out.trans ((Below.refl wr.heap.size wr).alloc (Nat.le_refl _) _ |>.mono hsr)
          rw [e, (hlow.cell (p := ⟨g5, o5 + q, none⟩) hg5).trans (HC5.out q hq), ← hy, List.getElem?_map, List.getElem?_eq_getElem hq]
          unfold bv vl
          rw [List.getD_eq_getElem?_getD, List.getElem?_eq_getElem hq]
          rfl
        case e2 => exact bv_one _
        case e3 => unfold maxLen; simp; omega
        case e4 => simp; omega
        case e5 => simp
        intro v1 w6 hown6 hgrow6 _
        have hO6 := own_app hO0 hown6 hgrow6
        rw [List.nil_append] at hO6
        clear hown6 hgrow6 hO0
        have hsz6 := hO6.2.size
        obtain ⟨A6, N6, c6, rfl⟩ := own_slice hO6
        have HO6 := Lib.hid hO6
        have hlm : (l.map bv).length = l.length := List.length_map ..
        clear hO6
        go_wp2_with (at_builtin; refine wpList_append_own _ rfl (.tmp 51) (.tmp 52) 22 rfl wr.heap.size 5 i0 (.int .u8 0) 1 1 Tryd.underlying22 hi hz0 hz1 hz2 rfl (by decide) _ _ _ rfl ((own_alloc HO6.out _).1) ⟨w6.heap.size, 0, none⟩ 1 1 [.int .u8 0] rfl rfl ?d1 ?d2 ?d3 ?d4 ?d5 ?_)
        case d1 => exact World.news_of_block (heap_alloc_new w6 _)
        case d2 => intro x hx; simp at hx; subst hx; rfl
        case d3 => unfold maxLen; omega
        case d4 => omega
        case d5 => simp; omega
        intro v8 w8 hown8 hgrow8 _
        have hO8 := own_app (own_alloc HO6.out _) hown8 hgrow8
        rw [show [Value.int .u8 0] = [(0 : UInt8)].map bv from rfl, ← List.map_append] at hO8
        obtain ⟨A8, N8, c8, rfl⟩ := own_slice hO8
        obtain ⟨hn8, hR8⟩ := own_rowN hO8
        have hlc8 : (l ++ [0]).length ≤ c8 ∧ c8 ≤ maxLen := by
          rcases hO8.1.2 with ⟨e, h0⟩ | ⟨g, cap, cur, e, _, _, h1, h2, _⟩
          · injection e with e1 e2 e3
            rw [List.length_map] at h0
            omega
          · injection e with e1 e2 e3
            rw [List.length_map] at h1
            exact ⟨by omega, by omega⟩
        have hB8 := HBr.out.trans (hO8.2.mono hsr)
        have hU := iunp_any w8 A8 c8 (l ++ [0]) hR8 ((HE5.out.below hB8).less hB8.size) (by rw [List.length_append, List.length_singleton]; omega) hlc8.1 hlc8.2
        unfold UnPost at hU
        rw [long HI.out 0, unp_no (long HI.out 0), ← hn8] at hU
        unfold frv fr0 at hU
        simp only at hU
        have HU := Lib.hid hU
        have HB8 := Lib.hid hB8
        clear hU hB8 hR8 hO8 hown8 hgrow8 hlc8 hn8 HO6 hsz6 hlm
        go_wp2_with fail
        refine HU.out.mono ?_
        rintro e w9 ⟨rfl, hB9⟩
        have HB9 := Lib.hid (HB5.out.trans ((HB8.out.trans (hB9.mono HB8.out.size)).mono HB5.out.size))
        clear hB9 HU HB8 HBr HEr HRr
        go_wp2
        go_ret
        exact ⟨rfl, HB9.out.alloc HB9.out.size _⟩

set_option maxRecDepth 100000 in
theorem lifted (os : Os) (started : os.Started) (H : Type) (enc : TypeId × Value → H) :
    ReturnsInHanded {} Tryd.checked os 6 .any (fun w args => (Rows.fnFrameShortSpec.pre enc Tryd.prog Tryd.f6 [] false w args ∧ laidMetH Tryd.prog fr.listF w) ∧ sizedMet enc Tryd.prog Tryd.f6 (OpenSpec.ofChange Rows.fnFrameShortSpec) false w args)
      (Rows.fnFrameShortSpec.post enc Tryd.prog Tryd.f6 false true false false) := by
  refine returnsInHanded_of_change_and (C := Tryd.checked) (X := fun w _ => laidMetH Tryd.prog fr.listF w) (fun _ _ _ hh h => h.of_heap hh) own started (by kernel_rfl) Tryd.func6
    (ChangeSpec.witness_shaped (enc := enc) (C := Tryd.checked) (os := os) (X := fun w _ => laidMetH Tryd.prog fr.listF w) false (World.doorLaid Tryd.prog 400 os) #[.slice none 0 0] 8 rfl (World.shaped_of_RefB (by kernel_rfl) (by kernel_rfl)) (by kernel_rfl) (by kernel_rfl) (by kernel_rfl) (fr.metF os _)) ?_
  intro W base args ds gs before hval0 hW _ _ hL _
  have hval : ∀ (j : Nat) t v, Tryd.f6.params[j]? = some t → args[j]? = some v → Value.okWide Tryd.prog W .any base t v := hval0
  have hW' := hW
  obtain ⟨p, q, hA0, hV, rfl, hfz, hnd⟩ := hW
  have hA : DataW.TrodAll enc Tryd.prog W 0 (fun _ => true) true Tryd.f6.params.toList args.toList ds p := hA0
  rw [Tryd.params6] at hA hval
  obtain ⟨v0, vs0, d0, ds0, p0, q0, hargs, rfl, rfl, h0, r0⟩ := trodAll_cons hA
  obtain ⟨rfl, rfl, rfl⟩ := trodAll_nil r0
  obtain rfl : args = #[v0] := by cases args; simp_all
  have hV2 := hV
  obtain ⟨x1, x2, x3, rfl⟩ := fr.vars3 (show DataW.TrodVars enc Tryd.prog W (fun _ => true) ["loop.example/bargeman/impl.errFrameTooShort", "loop.example/bargeman/impl.errFrameSum", "loop.example/bargeman/impl.errFrameTooLong"] gs q from hV)
  have k0 := h0
  have lt0 : ∀ x ∈ p0, x.block < W.heap.size := by obtain ⟨m, hm⟩ := k0; exact DataW.trod_lt m _ _ _ hm
  obtain ⟨a0, len0, cap0, rfl⟩ := okWide_slice Tryd.underlying22 (hval 0 22 v0 rfl rfl)
  obtain ⟨hb0, hl0, hm0⟩ : wd.Bytes W W.heap.size a0 len0 ∧ len0 ≤ cap0 ∧ cap0 ≤ maxLen := by
    obtain ⟨fuel, hf⟩ := h0
    rcases open_ints Tryd.underlying22 Tryd.underlying5 (by kernel_rfl) hf with ⟨hcs, _⟩ | ⟨x, l, c, zs, hcs, _, hl, hm, hz, _, hcell, hwz⟩
    · simp [Value.cells] at hcs
      obtain ⟨rfl, rfl, rfl⟩ := hcs
      exact dr.bytes_of_row (zs := []) (.inl ⟨rfl, rfl, rfl, rfl⟩)
    · simp [Value.cells] at hcs
      obtain ⟨rfl, rfl, rfl⟩ := hcs
      exact dr.bytes_of_row (.inr ⟨_, rfl, hl, hm, by simpa using hz, hcell, hwz⟩)
  have hE := fr.of_listF hL
  clear hA0 hval0
  refine (walk a0 len0 cap0 W hb0 hl0 hm0 hE).mono fun e W' ⟨he, bel⟩ => ?_
  subst he
  exact ⟨_, rfl, _, _, _, [], _, q, hW', trodAll_mk1 (shut_bool Tryd.underlying4 _), (trodAll_cons_mk (Below.trod laidOut (by kernel_rfl) (of_decide_eq_true (by kernel_rfl)) k0 bel lt0) trodAll_mk0), Below.trodVars laidOut bel (by kernel_rfl) hV2, bel.frame _, fun h => by cases h⟩

theorem over : Rows.fnFrameShortRow.holds Tryd.pinned (OpenSpec.ofChange Rows.fnFrameShortSpec) :=
  OpenClaim.holds_of_wide 6 Tryd.f6 rfl rfl rfl rfl rfl rfl rfl ⟨rfl, rfl, rfl, rfl, rfl⟩ rfl rfl rfl rfl rfl (by kernel_rfl) Tryd.func6 (by kernel_rfl)
    (of_decide_eq_true (by kernel_rfl)) (by unfold Func.isWrapper; first | (rw [if_pos (by decide +kernel)]; kernel_rfl) | (rw [if_neg (by decide +kernel)]; exact ⟨rfl, rfl⟩))
    (fun os started H enc _ => lifted os started H enc)

theorem proved : Rows.FnFrameShortCardSaid :=
  Claim7.holds_tied_plain_at .later [] [.sentinel, .sentinel, .sentinel] true (true, "8124b395191f46d9daa81c645c99eae09524d1cac78349357a50e128310eb475") false
    over (fun _ h => by cases h) (by kernel_rfl) (fun _ h => by cases h) fnFrameShort_row_tie rfl ⟨rfl, rfl⟩ (by kernel_rfl) rfl
    (fun f fn hf hfn => by
      obtain rfl : f = 6 := Option.some.inj ((show Tryd.prog.funcNamed "loop.example/bargeman/laws.FnFrameShort" = some 6 by kernel_rfl).symm.trans hf) |>.symm
      obtain rfl : fn = Tryd.f6 := (Option.some.inj (Tryd.func6.symm.trans hfn)).symm
      exact ⟨by kernel_rfl, fun j t ht => by
        rw [Tryd.params6] at ht
        have hm : t ∈ [22] := by simpa using Array.mem_of_getElem? ht
        have hall : ([22].all fun u => !Tryd.prog.wantsStandIn u) = true := by kernel_rfl
        exact (show Tryd.prog.wantsStandIn t = false by simpa using List.all_eq_true.1 hall t hm)⟩)
    (by kernel_rfl)
#print axioms proved
end Go.Proofs.YtgihbilpimempaaDoor.fnFrameShort
