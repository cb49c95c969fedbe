/-
  At every drawn list of bytes both FrameUnpack answer alike; what is not read is the zero frame, and what is read is a valid frame whose bytes are these: the law returns true for every code; the condition of the row: the program's three errors of frames read as the program's text lays them (tied by the card).
-/
import Derived.Test.YtgihbilpimempaaDoorRows
import Derived.Test.YtgihbilpimempaaDoorCards
import Derived.Test.YtgihbilpimempaaDoorTie
import Derived.Test.YtgihbilpimempaaDoorLaidF
import Derived.Test.YtgihbilpimempaaDoorDraw0
import Derived.WalkKit
import Derived.ProofKit
import Derived.OpenShut
import Derived.ShutString
import Derived.ChangeOld
import Derived.Below
import Derived.LaidMore
import Derived.Stop.Joined
import Derived.SevenTiedAt
import Derived.OpenVars
import Derived.Test.YtgihbilpimempaaDoorFrUn4
import Derived.Test.YtgihbilpimempaaDoorIPack2
import Derived.Test.YtgihbilpimempaaDoorSUn
import Derived.Test.YtgihbilpimempaaDoorDrawFu
import Derived.Test.YtgihbilpimempaaDoorRegSkip
import Derived.Deep.Cut
namespace Go.Proofs.YtgihbilpimempaaDoor.fnFrameStrict
open Go.ChangeShapes Go.WideShapes Go.ChangeAt Go.RowKit
open Go.ChangeMaps (open_string shut_string)
open Go.Proofs.YtgihbilpimempaaDoor.nb Go.Proofs.YtgihbilpimempaaDoor.fr Go.Proofs.YtgihbilpimempaaDoor.wd Go.Proofs.YtgihbilpimempaaDoor.dr Go.Proofs.YtgihbilpimempaaDoor.ow Go.Proofs.YtgihbilpimempaaDoor.cp
set_option linter.unusedVariables false

theorem own : ownKnob Tryd.prog.godebug = none := by kernel_rfl
theorem laidOut : laidOutB Tryd.prog = true := by kernel_rfl

set_option maxRecDepth 100000 in
set_option maxHeartbeats 4000000 in
theorem walk (a0 : Option Addr) (len0 cap0 : Nat) (w : World) (hb0 : wd.Bytes w w.heap.size a0 len0) (hl0 : len0 ≤ cap0) (hm0 : cap0 ≤ maxLen) (hE : fr.FErr w.heap.size w) :
    Calls Tryd.prog 4 #[.slice a0 len0 cap0] w fun e w' => e = .returned (.bool true) ∧ Below w.heap.size w w' := by
  have hm0' : cap0 ≤ 9223372036854775807 := hm0
  by_cases hg0 : 1048576 < len0
  · have hg0' : (1048576 : Int) < len0 := by omega
    go_enter Tryd.func4, Tryd.ntmps4
    go_wp2
    go_ret
    exact ⟨rfl, Below.refl _ _⟩
  have hg0' : ¬ (1048576 : Int) < len0 := by omega
  go_enter Tryd.func4, Tryd.ntmps4
  go_wp2_with fail
  refine (drawFrameUnpack _ _ _ _ hb0 hl0 hm0).mono ?_
  rintro e w1 ⟨A, c, l, rfl, hR, hlc, hc, hl, hB⟩
  have hE1 := (hE.below hB).less hB.size
  have HE1 := Lib.hid hE1
  have HR1 := Lib.hid hR
  have HB1 := Lib.hid hB
  have HS := Lib.hid (sunp_any w1 A c l hR (by omega) hlc hc)
  have HU := Lib.hid (fun V (hr : RowB V A l) (hE : FErr V.heap.size V) => iunp_any V A c l hr hE (by omega) hlc hc)
  have HT := Lib.hid (fun (h : isF l = true) => (show okF (unp l) = true ∧ pk (unp l) = l by
    have ha := h
    rw [isF_acc] at ha
    unfold acc at ha
    rw [Bool.and_eq_true] at ha
    rw [unp_yes h]
    exact ⟨ha.2, (of_decide_eq_true h).2⟩))
  have HF := Lib.hid (fun (h : isF l = false) => unp_no h)
  have hx : (unp l).x.size ≤ maxLen := by
    unfold unp psr
    unfold maxLen
    split
    · split
      · show (4 : Nat) ≤ _; omega
      · exact Nat.zero_le _
    · exact Nat.zero_le _
  have HIO := Lib.hid (fun V => ifok_any (unp l) V hx)
  have HIP := Lib.hid (fun V => ipack_any (unp l) V hx)
  clear hb0 hl0 hm0 hE hE1 hR hB hlc hc hx
  unfold UnPost at HU
  unfold SUnPost at HS
  go_wp2_with fail
  refine HS.out.mono ?_
  rintro e w2 ⟨rfl, hB2⟩
  have HN2 := Lib.hid (Blk.new w2 24 (fcs (unp l)))
  have HBx : Hid (Below w1.heap.size w1 (w2.alloc (.cells (fcs (unp l)) 24))) := hB2.alloc hB2.size _
  clear hB2 HS
  generalize unp l = F at HN2 HBx HU HT HF HIO HIP ⊢
  cases hok : isF l with
  | false =>
    have hf := HF.out hok
    subst hf
    rw [hok] at HU
    clear HT HF HIO HIP hok
    unfold frv fr0 at HU
    unfold frv fr0
    simp only at HU ⊢
    go_upto_region 5 with (fail)
    have HN2 : Hid (Blk (w2.alloc (.cells zF0 24)) w2.heap.size 24 zF0) := HN2
    have HBx : Hid (Below w1.heap.size w1 (w2.alloc (.cells zF0 24))) := HBx
    generalize w2.alloc (.cells zF0 24) = W at HN2 HBx ⊢
    have HUn := Lib.hid (HU.out W (HR1.out.later HBx.out) ((HE1.out.below HBx.out).less HBx.out.size))
    clear HU HE1
    go_wp2_with fail
    refine HUn.out.mono ?_
    rintro e w4 ⟨rfl, hB4⟩
    have HN4 := Lib.hid ((HN2.out.below hB4 HN2.out.lt).alloc (.cells zF0 24))
    have HM4 := Lib.hid (Blk.new w4 24 zF0)
    have HB4 := Lib.hid (HB1.out.trans ((HBx.out.trans ((hB4.alloc hB4.size (.cells zF0 24)).mono HBx.out.size)).mono HB1.out.size))
    clear hB4 HUn HN2 HBx HB1 HR1
    go_upto_region 6 with (fail)
    generalize w4.alloc (.cells zF0 24) = W5 at HN4 HM4 HB4 ⊢
    obtain ⟨c0, c1, c2, c3, c4, c5, c6, c7, c8, c9, _⟩ := ten HN4.out
    obtain ⟨m0, m1, m2, m3, m4, m5, m6, m7, m8, m9, _⟩ := ten HM4.out
    go_upto_region 8 with (fail)
    refine wp_region_held_drew (S := (fun w' : World => True ∧ Blk w' w4.heap.size 24 zF0)) (by kernel_rfl) ⟨trivial, HM4.out⟩ (fun hHeld => ?_)
    refine rs.want_take (i := 0) 31 (v := ?_) rfl rfl (by kernel_rfl) (by kernel_rfl) (by kernel_rfl) (fun _ _ _ _ h => h) rfl ?_ (by assumption) ?_
    rotate_left 1
    · (intro w hSw; go_simp; try with_reducible rfl)
    simp only [List.setIfInBounds_toArray, List.set_cons_zero, List.set_cons_succ]
    refine rs.want_take (i := 1) 32 (v := ?_) rfl rfl (by kernel_rfl) (by kernel_rfl) (by kernel_rfl) (fun _ _ _ _ h => h) rfl ?_ (by assumption) ?_
    rotate_left 1
    · (intro w hSw; go_simp; try with_reducible rfl)
    simp only [List.setIfInBounds_toArray, List.set_cons_zero, List.set_cons_succ]
    refine rs.want_take (i := 2) 33 (v := ?_) rfl rfl (by kernel_rfl) (by kernel_rfl) (by kernel_rfl) (fun _ _ _ _ h => h) rfl ?_ (by assumption) ?_
    rotate_left 1
    · (intro w hSw; go_simp; try with_reducible rfl)
    simp only [List.setIfInBounds_toArray, List.set_cons_zero, List.set_cons_succ]
    refine rs.want_take (i := 3) 34 (v := ?_) rfl rfl (by kernel_rfl) (by kernel_rfl) (by kernel_rfl) (fun _ _ _ _ h => h) rfl ?_ (by assumption) ?_
    rotate_left 1
    · (intro w hSw; obtain ⟨c0, c1, c2, c3, c4, c5, c6, c7, c8, c9, _⟩ := ten hSw.2; go_simp; try with_reducible rfl)
    simp only [List.setIfInBounds_toArray, List.set_cons_zero, List.set_cons_succ]
    refine rs.want_take (i := 4) 35 (v := ?_) rfl rfl (by kernel_rfl) (by kernel_rfl) (by kernel_rfl) (fun _ _ _ _ h => h) rfl ?_ (by assumption) ?_
    rotate_left 1
    · (intro w hSw; go_simp; try with_reducible rfl)
    simp only [List.setIfInBounds_toArray, List.set_cons_zero, List.set_cons_succ]
    refine rs.want_take (i := 5) 36 (v := ?_) rfl rfl (by kernel_rfl) (by kernel_rfl) (by kernel_rfl) (fun _ _ _ _ h => h) rfl ?_ (by assumption) ?_
    rotate_left 1
    · (intro w hSw; go_simp; try with_reducible rfl)
    simp only [List.setIfInBounds_toArray, List.set_cons_zero, List.set_cons_succ]
    refine rs.want_take (i := 6) 37 (v := ?_) rfl rfl (by kernel_rfl) (by kernel_rfl) (by kernel_rfl) (fun _ _ _ _ h => h) rfl ?_ (by assumption) ?_
    rotate_left 1
    · (intro w hSw; go_simp; try with_reducible rfl)
    simp only [List.setIfInBounds_toArray, List.set_cons_zero, List.set_cons_succ]
    refine rs.want_take (i := 7) 38 (v := ?_) rfl rfl (by kernel_rfl) (by kernel_rfl) (by kernel_rfl) (fun _ _ _ _ h => h) rfl ?_ (by assumption) ?_
    rotate_left 1
    · (intro w hSw; go_simp; try with_reducible rfl)
    simp only [List.setIfInBounds_toArray, List.set_cons_zero, List.set_cons_succ]
    refine rs.skip_take (i := 8) 39 rfl (by kernel_rfl) (by kernel_rfl) (by kernel_rfl) (fun _ _ _ _ h => h) rfl (by assumption) ?_
    simp only [List.setIfInBounds_toArray, List.set_cons_zero, List.set_cons_succ]
    refine rs.skip_take (i := 9) 40 rfl (by kernel_rfl) (by kernel_rfl) (by kernel_rfl) (fun _ _ _ _ h => h) rfl (by assumption) ?_
    simp only [List.setIfInBounds_toArray, List.set_cons_zero, List.set_cons_succ]
    refine rs.skip_take (i := 10) 41 rfl (by kernel_rfl) (by kernel_rfl) (by kernel_rfl) (fun _ _ _ _ h => h) rfl (by assumption) ?_
    simp only [List.setIfInBounds_toArray, List.set_cons_zero, List.set_cons_succ]
    refine rs.skip_take (i := 11) 42 rfl (by kernel_rfl) (by kernel_rfl) (by kernel_rfl) (fun _ _ _ _ h => h) rfl (by assumption) ?_
    simp only [List.setIfInBounds_toArray, List.set_cons_zero, List.set_cons_succ]
    refine rs.skip_take (i := 12) 43 rfl (by kernel_rfl) (by kernel_rfl) (by kernel_rfl) (fun _ _ _ _ h => h) rfl (by assumption) ?_
    simp only [List.setIfInBounds_toArray, List.set_cons_zero, List.set_cons_succ]
    refine rs.skip_take (i := 13) 44 rfl (by kernel_rfl) (by kernel_rfl) (by kernel_rfl) (fun _ _ _ _ h => h) rfl (by assumption) ?_
    simp only [List.setIfInBounds_toArray, List.set_cons_zero, List.set_cons_succ]
    refine rs.skip_take (i := 14) 45 rfl (by kernel_rfl) (by kernel_rfl) (by kernel_rfl) (fun _ _ _ _ h => h) rfl (by assumption) ?_
    simp only [List.setIfInBounds_toArray, List.set_cons_zero, List.set_cons_succ]
    refine rs.skip_take (i := 15) 46 rfl (by kernel_rfl) (by kernel_rfl) (by kernel_rfl) (fun _ _ _ _ h => h) rfl (by assumption) ?_
    simp only [List.setIfInBounds_toArray, List.set_cons_zero, List.set_cons_succ]
    refine rs.skip_take (i := 16) 47 rfl (by kernel_rfl) (by kernel_rfl) (by kernel_rfl) (fun _ _ _ _ h => h) rfl (by assumption) ?_
    simp only [List.setIfInBounds_toArray, List.set_cons_zero, List.set_cons_succ]
    refine rs.skip_take (i := 17) 48 rfl (by kernel_rfl) (by kernel_rfl) (by kernel_rfl) (fun _ _ _ _ h => h) rfl (by assumption) ?_
    simp only [List.setIfInBounds_toArray, List.set_cons_zero, List.set_cons_succ]
    refine rs.skip_take (i := 18) 49 rfl (by kernel_rfl) (by kernel_rfl) (by kernel_rfl) (fun _ _ _ _ h => h) rfl (by assumption) ?_
    simp only [List.setIfInBounds_toArray, List.set_cons_zero, List.set_cons_succ]
    refine rs.skip_take (i := 19) 50 rfl (by kernel_rfl) (by kernel_rfl) (by kernel_rfl) (fun _ _ _ _ h => h) rfl (by assumption) ?_
    simp only [List.setIfInBounds_toArray, List.set_cons_zero, List.set_cons_succ]
    refine rs.skip_take (i := 20) 51 rfl (by kernel_rfl) (by kernel_rfl) (by kernel_rfl) (fun _ _ _ _ h => h) rfl (by assumption) ?_
    simp only [List.setIfInBounds_toArray, List.set_cons_zero, List.set_cons_succ]
    refine rs.want_take (i := 21) 52 (v := ?_) rfl rfl (by kernel_rfl) (by kernel_rfl) (by kernel_rfl) (fun _ _ _ _ h => h) rfl ?_ (by assumption) ?_
    rotate_left 1
    · (intro w hSw; go_simp; try with_reducible rfl)
    simp only [List.setIfInBounds_toArray, List.set_cons_zero, List.set_cons_succ]
    refine rs.want_take (i := 22) 2 (v := ?_) rfl rfl (by kernel_rfl) (by kernel_rfl) (by kernel_rfl) (fun _ _ _ _ h => h) rfl ?_ (by assumption) ?_
    rotate_left 1
    · (intro w hSw; go_simp; try with_reducible rfl)
    simp only [List.setIfInBounds_toArray, List.set_cons_zero, List.set_cons_succ]
    refine wpAnyH_done (by kernel_rfl) ?_ _
    have HD := Lib.hid HB4.out.drew
    go_wp2
    go_ret
    exact ⟨rfl, HD.out⟩
  | true =>
    obtain ⟨ho, hp⟩ := HT.out hok
    rw [hok] at HU
    rw [ho] at HIO
    rw [hp] at HIP
    clear HT HF ho hp hok
    obtain ⟨k, s, d, f, n, t, u, z, m, x⟩ := F
    unfold frv at HU HIO HIP
    unfold frv
    simp only at HU HIO HIP ⊢
    go_upto_region 5 with (fail)
    generalize w2.alloc (.cells (fcs ⟨k, s, d, f, n, t, u, z, m, x⟩) 24) = W at HN2 HBx ⊢
    have HUn := Lib.hid (HU.out W (HR1.out.later HBx.out) ((HE1.out.below HBx.out).less HBx.out.size))
    clear HU HE1
    go_wp2_with fail
    refine HUn.out.mono ?_
    rintro e w4 ⟨rfl, hB4⟩
    have HN4 := Lib.hid ((HN2.out.below hB4 HN2.out.lt).alloc (.cells (fcs ⟨k, s, d, f, n, t, u, z, m, x⟩) 24))
    have HM4 := Lib.hid (Blk.new w4 24 (fcs ⟨k, s, d, f, n, t, u, z, m, x⟩))
    have hB5 := HBx.out.trans ((hB4.alloc hB4.size (.cells (fcs ⟨k, s, d, f, n, t, u, z, m, x⟩) 24)).mono HBx.out.size)
    have HR4 := Lib.hid (HR1.out.later hB5)
    have HB4 := Lib.hid (HB1.out.trans (hB5.mono HB1.out.size))
    clear hB4 hB5 HUn HN2 HBx HB1 HR1
    go_upto_region 6 with (fail)
    generalize w4.alloc (.cells (fcs ⟨k, s, d, f, n, t, u, z, m, x⟩) 24) = W5 at HN4 HM4 HR4 HB4 ⊢
    obtain ⟨c0, c1, c2, c3, c4, c5, c6, c7, c8, c9, _⟩ := ten HN4.out
    obtain ⟨m0, m1, m2, m3, m4, m5, m6, m7, m8, m9, _⟩ := ten HM4.out
    go_upto_region 8 with (fail)
    clear c0 c1 c2 c3 c4 c5 c6 c7 c8 c9 m0 m1 m2 m3 m4 m5 m6 m7 m8 m9
    refine wp_region_held_drew (S := (fun w' : World => RowB w' A l ∧ Blk w' w4.heap.size 24 (fcs ⟨k, s, d, f, n, t, u, z, m, x⟩))) (by kernel_rfl) ⟨HR4.out, HM4.out⟩ (fun hHeld => ?_)
    refine rs.want_take (i := 0) 31 (v := ?_) rfl rfl (by kernel_rfl) (by kernel_rfl) (by kernel_rfl) (fun _ _ _ _ h => h) rfl ?_ (by assumption) ?_
    rotate_left 1
    · (intro w hSw; go_simp; try with_reducible rfl)
    simp only [List.setIfInBounds_toArray, List.set_cons_zero, List.set_cons_succ]
    refine rs.want_take (i := 1) 32 (v := ?_) rfl rfl (by kernel_rfl) (by kernel_rfl) (by kernel_rfl) (fun _ _ _ _ h => h) rfl ?_ (by assumption) ?_
    rotate_left 1
    · (intro w hSw; go_simp; try with_reducible rfl)
    simp only [List.setIfInBounds_toArray, List.set_cons_zero, List.set_cons_succ]
    refine rs.want_take (i := 2) 33 (v := ?_) rfl rfl (by kernel_rfl) (by kernel_rfl) (by kernel_rfl) (fun _ _ _ _ h => h) rfl ?_ (by assumption) ?_
    rotate_left 1
    · (intro w hSw; go_simp; try with_reducible rfl)
    simp only [List.setIfInBounds_toArray, List.set_cons_zero, List.set_cons_succ]
    refine rs.skip_take (i := 3) 34 rfl (by kernel_rfl) (by kernel_rfl) (by kernel_rfl) (fun _ _ _ _ h => h) rfl (by assumption) ?_
    simp only [List.setIfInBounds_toArray, List.set_cons_zero, List.set_cons_succ]
    refine rs.skip_take (i := 4) 35 rfl (by kernel_rfl) (by kernel_rfl) (by kernel_rfl) (fun _ _ _ _ h => h) rfl (by assumption) ?_
    simp only [List.setIfInBounds_toArray, List.set_cons_zero, List.set_cons_succ]
    refine rs.skip_take (i := 5) 36 rfl (by kernel_rfl) (by kernel_rfl) (by kernel_rfl) (fun _ _ _ _ h => h) rfl (by assumption) ?_
    simp only [List.setIfInBounds_toArray, List.set_cons_zero, List.set_cons_succ]
    refine rs.want_take (i := 6) 37 (v := ?_) rfl rfl (by kernel_rfl) (by kernel_rfl) (by kernel_rfl) (fun _ _ _ _ h => h) rfl ?_ (by assumption) ?_
    rotate_left 1
    · (intro w hSw; go_simp; try with_reducible rfl)
    simp only [List.setIfInBounds_toArray, List.set_cons_zero, List.set_cons_succ]
    refine rs.want_take (i := 7) 38 (v := ?_) rfl rfl (by kernel_rfl) (by kernel_rfl) (by kernel_rfl) (fun _ _ _ _ h => h) rfl ?_ (by assumption) ?_
    rotate_left 1
    · (intro w hSw; go_simp; try with_reducible rfl)
    simp only [List.setIfInBounds_toArray, List.set_cons_zero, List.set_cons_succ]
    refine rs.want_take (i := 8) 39 (v := ?_) rfl rfl (by kernel_rfl) (by kernel_rfl) (by kernel_rfl) (fun _ _ _ _ h => h) rfl ?_ (by assumption) ?_
    rotate_left 1
    · (intro w hSw; go_simp; try with_reducible rfl)
    simp only [List.setIfInBounds_toArray, List.set_cons_zero, List.set_cons_succ]
    refine rs.want_take (i := 9) 40 (v := ?_) rfl rfl (by kernel_rfl) (by kernel_rfl) (by kernel_rfl) (fun _ _ _ _ h => h) rfl ?_ (by assumption) ?_
    rotate_left 1
    · (intro w hSw; go_simp; try with_reducible rfl)
    simp only [List.setIfInBounds_toArray, List.set_cons_zero, List.set_cons_succ]
    refine rs.want_take (i := 10) 41 (v := ?_) rfl rfl (by kernel_rfl) (by kernel_rfl) (by kernel_rfl) (fun _ _ _ _ h => h) rfl ?_ (by assumption) ?_
    rotate_left 1
    · (intro w hSw; obtain ⟨c0, c1, c2, c3, c4, c5, c6, c7, c8, c9, _⟩ := ten hSw.2; go_simp; try with_reducible rfl)
    simp only [List.setIfInBounds_toArray, List.set_cons_zero, List.set_cons_succ]
    refine wpAnyH_ready (rs := [11]) (by kernel_rfl) (by simp) ?_
    refine AllReadyH.cons rfl (fun K hK => ?_) AllReadyH.nil
    go_simp
    refine (HIO.out _).mono ?_
    rintro e w5 ⟨rfl, hB5⟩
    have hS5 : RowB w5 A l ∧ Blk w5 w4.heap.size 24 (fcs ⟨k, s, d, f, n, t, u, z, m, x⟩) := ⟨hHeld.1.later hB5, hHeld.2.below hB5 hHeld.2.lt⟩
    have HB5 := Lib.hid (HB4.out.drew.trans (hB5.mono HB4.out.drew.size))
    refine hK.out _ _ hS5 (fun hHeld => ?_)
    clear hK K
    refine rs.want_take (i := 12) 43 (v := ?_) rfl rfl (by kernel_rfl) (by kernel_rfl) (by kernel_rfl) (fun _ _ _ _ h => h) rfl ?_ (by assumption) ?_
    rotate_left 1
    · (intro w hSw; go_simp; try with_reducible rfl)
    simp only [List.setIfInBounds_toArray, List.set_cons_zero, List.set_cons_succ]
    refine rs.want_take (i := 13) 44 (v := ?_) rfl rfl (by kernel_rfl) (by kernel_rfl) (by kernel_rfl) (fun _ _ _ _ h => h) rfl ?_ (by assumption) ?_
    rotate_left 1
    · (intro w hSw; go_simp; try with_reducible rfl)
    simp only [List.setIfInBounds_toArray, List.set_cons_zero, List.set_cons_succ]
    refine rs.want_take (i := 14) 45 (v := ?_) rfl rfl (by kernel_rfl) (by kernel_rfl) (by kernel_rfl) (fun _ _ _ _ h => h) rfl ?_ (by assumption) ?_
    rotate_left 1
    · (intro w hSw; obtain ⟨c0, c1, c2, c3, c4, c5, c6, c7, c8, c9, _⟩ := ten hSw.2; go_simp; try with_reducible rfl)
    simp only [List.setIfInBounds_toArray, List.set_cons_zero, List.set_cons_succ]
    refine rs.want_take (i := 17) 48 (v := ?_) rfl rfl (by kernel_rfl) (by kernel_rfl) (by kernel_rfl) (fun _ _ _ _ h => h) rfl ?_ (by assumption) ?_
    rotate_left 1
    · (intro w hSw; go_simp; try with_reducible rfl)
    simp only [List.setIfInBounds_toArray, List.set_cons_zero, List.set_cons_succ]
    refine rs.want_take (i := 18) 49 (v := ?_) rfl rfl (by kernel_rfl) (by kernel_rfl) (by kernel_rfl) (fun _ _ _ _ h => h) rfl ?_ (by assumption) ?_
    rotate_left 1
    · (intro w hSw; have hcv := conv_any hSw.1 c; go_simp; try with_reducible rfl)
    simp only [List.setIfInBounds_toArray, List.set_cons_zero, List.set_cons_succ]
    refine wpAnyH_ready (rs := [15]) (by kernel_rfl) (by simp) ?_
    refine AllReadyH.cons rfl (fun K hK => ?_) AllReadyH.nil
    go_simp
    refine (HIP.out _).mono ?_
    rintro e w6 ⟨A6, n6, p6, rfl, hO6⟩
    obtain ⟨hn6, hR6⟩ := own_rowN hO6
    subst hn6
    have hS6 : RowB w6 A l ∧ Blk w6 w4.heap.size 24 (fcs ⟨k, s, d, f, n, t, u, z, m, x⟩) := ⟨hS5.1.later hO6.2, hS5.2.below hO6.2 hS5.2.lt⟩
    have HB6 := Lib.hid (HB5.out.trans (hO6.2.mono HB5.out.size))
    refine hK.out _ _ hS6 (fun hHeld => ?_)
    clear hK K
    refine wpAnyH_ready (rs := [16]) (by kernel_rfl) (by simp) ?_
    refine AllReadyH.cons rfl (fun K hK => ?_) AllReadyH.nil
    have hcv6 := conv_any hR6 p6
    go_simp
    refine hK.out _ _ hS6 (fun hHeld => ?_)
    clear hK K hcv6
    refine rs.want_take (i := 19) 50 (v := ?_) rfl rfl (by kernel_rfl) (by kernel_rfl) (by kernel_rfl) (fun _ _ _ _ h => h) rfl ?_ (by assumption) ?_
    rotate_left 1
    · (intro w hSw; go_simp; try with_reducible rfl)
    simp only [List.setIfInBounds_toArray, List.set_cons_zero, List.set_cons_succ]
    refine rs.want_take (i := 20) 51 (v := ?_) rfl rfl (by kernel_rfl) (by kernel_rfl) (by kernel_rfl) (fun _ _ _ _ h => h) rfl ?_ (by assumption) ?_
    rotate_left 1
    · (intro w hSw; go_simp; try with_reducible rfl)
    simp only [List.setIfInBounds_toArray, List.set_cons_zero, List.set_cons_succ]
    refine rs.want_take (i := 21) 52 (v := ?_) rfl rfl (by kernel_rfl) (by kernel_rfl) (by kernel_rfl) (fun _ _ _ _ h => h) rfl ?_ (by assumption) ?_
    rotate_left 1
    · (intro w hSw; go_simp; try with_reducible rfl)
    simp only [List.setIfInBounds_toArray, List.set_cons_zero, List.set_cons_succ]
    refine rs.want_take (i := 22) 2 (v := ?_) rfl rfl (by kernel_rfl) (by kernel_rfl) (by kernel_rfl) (fun _ _ _ _ h => h) rfl ?_ (by assumption) ?_
    rotate_left 1
    · (intro w hSw; go_simp; try with_reducible rfl)
    simp only [List.setIfInBounds_toArray, List.set_cons_zero, List.set_cons_succ]
    refine wpAnyH_done (by kernel_rfl) ?_ _
    go_wp2
    go_ret
    exact ⟨rfl, HB6.out⟩

set_option maxRecDepth 100000 in
theorem lifted (os : Os) (started : os.Started) (H : Type) (enc : TypeId × Value → H) :
    ReturnsInHanded {} Tryd.checked os 4 .any (fun w args => (Rows.fnFrameStrictSpec.pre enc Tryd.prog Tryd.f4 [] false w args ∧ laidMetH Tryd.prog fr.listF w) ∧ sizedMet enc Tryd.prog Tryd.f4 (OpenSpec.ofChange Rows.fnFrameStrictSpec) false w args)
      (Rows.fnFrameStrictSpec.post enc Tryd.prog Tryd.f4 false true false false) := by
  refine returnsInHanded_of_change_and (C := Tryd.checked) (X := fun w _ => laidMetH Tryd.prog fr.listF w) (fun _ _ _ hh h => h.of_heap hh) own started (by kernel_rfl) Tryd.func4
    (ChangeSpec.witness_shaped (enc := enc) (C := Tryd.checked) (os := os) (X := fun w _ => laidMetH Tryd.prog fr.listF w) false (World.doorLaid Tryd.prog 400 os) #[.slice none 0 0] 8 rfl (World.shaped_of_RefB (by kernel_rfl) (by kernel_rfl)) (by kernel_rfl) (by kernel_rfl) (by kernel_rfl) (fr.metF os _)) ?_
  intro W base args ds gs before hval0 hW _ _ hL _
  have hval : ∀ (j : Nat) t v, Tryd.f4.params[j]? = some t → args[j]? = some v → Value.okWide Tryd.prog W .any base t v := hval0
  have hW' := hW
  obtain ⟨p, q, hA0, hV, rfl, hfz, hnd⟩ := hW
  have hA : DataW.TrodAll enc Tryd.prog W 0 (fun _ => true) true Tryd.f4.params.toList args.toList ds p := hA0
  rw [Tryd.params4] at hA hval
  obtain ⟨v0, vs0, d0, ds0, p0, q0, hargs, rfl, rfl, h0, r0⟩ := trodAll_cons hA
  obtain ⟨rfl, rfl, rfl⟩ := trodAll_nil r0
  obtain rfl : args = #[v0] := by cases args; simp_all
  have hV2 := hV
  obtain ⟨x1, x2, x3, rfl⟩ := fr.vars3 (show DataW.TrodVars enc Tryd.prog W (fun _ => true) ["loop.example/bargeman/impl.errFrameTooShort", "loop.example/bargeman/impl.errFrameSum", "loop.example/bargeman/impl.errFrameTooLong"] gs q from hV)
  have k0 := h0
  have lt0 : ∀ x ∈ p0, x.block < W.heap.size := by obtain ⟨m, hm⟩ := k0; exact DataW.trod_lt m _ _ _ hm
  obtain ⟨a0, len0, cap0, rfl⟩ := okWide_slice Tryd.underlying22 (hval 0 22 v0 rfl rfl)
  obtain ⟨hb0, hl0, hm0⟩ : wd.Bytes W W.heap.size a0 len0 ∧ len0 ≤ cap0 ∧ cap0 ≤ maxLen := by
    obtain ⟨fuel, hf⟩ := h0
    rcases open_ints Tryd.underlying22 Tryd.underlying5 (by kernel_rfl) hf with ⟨hcs, _⟩ | ⟨x, l, c, zs, hcs, _, hl, hm, hz, _, hcell, hwz⟩
    · simp [Value.cells] at hcs
      obtain ⟨rfl, rfl, rfl⟩ := hcs
      exact dr.bytes_of_row (zs := []) (.inl ⟨rfl, rfl, rfl, rfl⟩)
    · simp [Value.cells] at hcs
      obtain ⟨rfl, rfl, rfl⟩ := hcs
      exact dr.bytes_of_row (.inr ⟨_, rfl, hl, hm, by simpa using hz, hcell, hwz⟩)
  have hE := fr.of_listF hL
  clear hA0 hval0
  refine (walk a0 len0 cap0 W hb0 hl0 hm0 hE).mono fun e W' ⟨he, bel⟩ => ?_
  subst he
  exact ⟨_, rfl, _, _, _, [], _, q, hW', trodAll_mk1 (shut_bool Tryd.underlying4 _), (trodAll_cons_mk (Below.trod laidOut (by kernel_rfl) (of_decide_eq_true (by kernel_rfl)) k0 bel lt0) trodAll_mk0), Below.trodVars laidOut bel (by kernel_rfl) hV2, bel.frame _, fun h => by cases h⟩

theorem over : Rows.fnFrameStrictRow.holds Tryd.pinned (OpenSpec.ofChange Rows.fnFrameStrictSpec) :=
  OpenClaim.holds_of_wide 4 Tryd.f4 rfl rfl rfl rfl rfl rfl rfl ⟨rfl, rfl, rfl, rfl, rfl⟩ rfl rfl rfl rfl rfl (by kernel_rfl) Tryd.func4 (by kernel_rfl)
    (of_decide_eq_true (by kernel_rfl)) (by unfold Func.isWrapper; first | (rw [if_pos (by decide +kernel)]; kernel_rfl) | (rw [if_neg (by decide +kernel)]; exact ⟨rfl, rfl⟩))
    (fun os started H enc _ => lifted os started H enc)

theorem proved : Rows.FnFrameStrictCardSaid :=
  Claim7.holds_tied_plain_at .later [] [.sentinel, .sentinel, .sentinel] true (true, "8124b395191f46d9daa81c645c99eae09524d1cac78349357a50e128310eb475") false
    over (fun _ h => by cases h) (by kernel_rfl) (fun _ h => by cases h) fnFrameStrict_row_tie rfl ⟨rfl, rfl⟩ (by kernel_rfl) rfl
    (fun f fn hf hfn => by
      obtain rfl : f = 4 := Option.some.inj ((show Tryd.prog.funcNamed "loop.example/bargeman/laws.FnFrameStrict" = some 4 by kernel_rfl).symm.trans hf) |>.symm
      obtain rfl : fn = Tryd.f4 := (Option.some.inj (Tryd.func4.symm.trans hfn)).symm
      exact ⟨by kernel_rfl, fun j t ht => by
        rw [Tryd.params4] at ht
        have hm : t ∈ [22] := by simpa using Array.mem_of_getElem? ht
        have hall : ([22].all fun u => !Tryd.prog.wantsStandIn u) = true := by kernel_rfl
        exact (show Tryd.prog.wantsStandIn t = false by simpa using List.all_eq_true.1 hall t hm)⟩)
    (by kernel_rfl)
#print axioms proved
end Go.Proofs.YtgihbilpimempaaDoor.fnFrameStrict
