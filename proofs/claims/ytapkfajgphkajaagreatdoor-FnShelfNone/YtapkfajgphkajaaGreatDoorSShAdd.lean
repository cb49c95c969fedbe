/-
  Contract of spec.ShelfAdd.
-/
import Derived.Test.YtapkfajgphkajaaGreatDoorSShOk
import Derived.Deep.RegionHeld3
import Derived.Deep.RegionWith
import Derived.Deep.QuietTactic
import Derived.BigQuiet
namespace Go.Proofs.YtapkfajgphkajaaGreatDoor.sh
open Go.ChangeShapes Go.WideShapes Go.ChangeAt Go.RowKit
open Go.Proofs.YtapkfajgphkajaaGreatDoor.nb Go.Proofs.YtapkfajgphkajaaGreatDoor.ok Go.Proofs.YtapkfajgphkajaaGreatDoor.wd Go.Proofs.YtapkfajgphkajaaGreatDoor.dc

theorem fits_iff {s x : ByteArray} : fits s x = true ↔ (1 ≤ x.size ∧ x.size ≤ 60 ∧ s.size + (stS x).size ≤ 2400) := by unfold fits; exact decide_eq_true_iff
theorem fits_f {s x : ByteArray} (h : ¬ (1 ≤ x.size ∧ x.size ≤ 60 ∧ s.size + (stS x).size ≤ 2400)) : fits s x = false := decide_eq_false h
theorem two_drew {w V : World} {s : ByteArray} {f : Int} (h : Two w V s f) : Two w V.drew s f := ⟨h.arg, h.res, h.bel.drew⟩
theorem add_no {s x : ByteArray} {f : Int} (h : okSh s f = true) (h2 : fits s x = false) : addS s f x = s ∧ addF s f = f ∧ addB s f x = false := by simp [addS, addF, addB, h, h2]
theorem add_yes {s x : ByteArray} {f : Int} (h : okSh s f = true) (h2 : fits s x = true) : addS s f x = s ++ stS x ∧ addF s f = f ∧ addB s f x = true := by simp [addS, addF, addB, h, h2]
theorem add_bad {s x : ByteArray} {f : Int} (h : okSh s f = false) : addS s f x = ⟨#[]⟩ ∧ addF s f = 0 ∧ addB s f x = false := by simp [addS, addF, addB, h]
theorem ok_small {s : ByteArray} {f : Int} (h : okSh s f = true) : s.size ≤ 2400 := by have := (okSh_iff.1 h).1; rwa [← Lib.size_eq] at this

set_option maxRecDepth 100000 in
set_option maxHeartbeats 2000000 in
theorem sadd_any (s : ByteArray) (f : Int) (x : ByteArray) (w : World) (hs : s.size ≤ 8388608) :
    Calls Tryz.prog 9 #[shv s f, .string x] w (ShbPost w (addS s f x) (addF s f) (addB s f x)) := by
  have hT := Two.new w s f
  have H := Lib.hid (fun V => sok_any s f V hs)
  go_enter Tryz.func9, Tryz.ntmps9
  go_wp2_with fail
  generalize (w.alloc (.cells #[.string s, .int .i64 f] 24)).alloc (.cells #[.string ⟨#[]⟩, .int .i64 0] 24) = V at hT ⊢
  refine (H.out _).mono ?_
  rintro e V1 ⟨rfl, hB⟩
  have hT1 := hT.later hB
  obtain ⟨a0, a1, r0, r1, f0, f1⟩ := hT1.cells
  have HT := Lib.hid hT1
  clear hT hT1 hB H
  by_cases hok : okSh s f = true
  · have hsz := ok_small hok
    have HO := Lib.hid hok
    rw [hok]
    clear hok
    have HI := Lib.hid (fun W => recOk_any x W)
    by_cases hx : 1 ≤ x.size ∧ x.size ≤ 60
    · rw [inB_nat.2 hx] at HI
      have hst := stS_size hx
      have HX := Lib.hid (fun W => srec_any x (by omega) W)
      by_cases hfit : s.size + (stS x).size ≤ 2400
      · have HF := Lib.hid (add_yes HO.out (fits_iff.2 ⟨hx.1, hx.2, hfit⟩))
        generalize stS x = y at HX HF hst hfit
        obtain ⟨z, ez, qz, rz⟩ := adds s y (by omega)
        have HZ := Lib.hid ez
        clear ez qz
        go_wp2_with fail
        go_region_held3 (fun U => U.cell? ⟨w.heap.size, 0, none⟩ = some (.string s)) (first | exact a0 | exact q0) ((first | (go_at_call 24; refine (HI.out _).mono ?_; rintro e V2 ⟨rfl, rfl⟩) | (go_at_call 25; refine (HX.out _).mono ?_; rintro e V2 ⟨rfl, hB2⟩; have q0 := (hB2.cell (p := ⟨w.heap.size, 0, none⟩) HT.out.arg.lt).trans a0)))
        have hT2 := HT.out.later (show Below V1.heap.size V1 V2 from ⟨hB2.os, hB2.tape, hB2.output, hB2.size, hB2.block⟩)
        obtain ⟨a0, a1, r0, r1, f0, f1⟩ := hT2.cells
        have HT2 := Lib.hid hT2
        have hw : IntKind.i64.wrap ((s.size : Int) + y.size) = (s.size : Int) + y.size := by rw [IntKind.wrap_i64]; omega
        rw [hw]
        have hle : ¬ (2400 : Int) < (s.size : Int) + y.size := by omega
        clear hT2 hB2 q0
        go_wp2_with fail
        go_region_held3 (fun U => U.cell? ⟨w.heap.size, 0, none⟩ = some (.string s) ∧ U.cell? ⟨w.heap.size, 1, none⟩ = some (.int .i64 f)) (first | exact ⟨a0, a1⟩ | exact ⟨q0, q1⟩ | exact HT3.out.put_arg _ _) ((go_at_call 25; refine (HX.out _).mono ?_; rintro e V3 ⟨rfl, hB3⟩; have HT3 := Lib.hid (HT2.out.later (show Below V2.heap.size V2 V3 from ⟨hB3.os, hB3.tape, hB3.output, hB3.size, hB3.block⟩)); obtain ⟨q0, q1, q2, q3, q4, q5⟩ := HT3.out.cells))
        go_wp2
        obtain ⟨c0, c1, hB⟩ := HT3.out.put z f
        exact bodyPost_ret (v := .tuple #[shv z f, .bool true]) (by simp [results, Tryz.results9, go_sem, c0, c1]) rfl ⟨by rw [HF.out.1, HF.out.2.1, HF.out.2.2, ← HZ.out], hB⟩
      · have HF := Lib.hid (add_no HO.out (fits_f (s := s) (x := x) (by omega)))
        generalize stS x = y at HX hst hfit
        go_wp2_with fail
        go_region_held3 (fun U => U.cell? ⟨w.heap.size, 0, none⟩ = some (.string s)) (first | exact a0 | exact q0) ((first | (go_at_call 24; refine (HI.out _).mono ?_; rintro e V2 ⟨rfl, rfl⟩) | (go_at_call 25; refine (HX.out _).mono ?_; rintro e V2 ⟨rfl, hB2⟩; have q0 := (hB2.cell (p := ⟨w.heap.size, 0, none⟩) HT.out.arg.lt).trans a0)))
        have hT2 := HT.out.later (show Below V1.heap.size V1 V2 from ⟨hB2.os, hB2.tape, hB2.output, hB2.size, hB2.block⟩)
        obtain ⟨a0, a1, r0, r1, f0, f1⟩ := hT2.cells
        have HT2 := Lib.hid hT2
        have hw : IntKind.i64.wrap ((s.size : Int) + y.size) = (s.size : Int) + y.size := by rw [IntKind.wrap_i64]; omega
        rw [hw]
        have hle : (2400 : Int) < (s.size : Int) + y.size := by omega
        clear hT2 hB2 q0
        go_wp2
        obtain ⟨c0, c1, hB⟩ := HT2.out.put s f
        exact bodyPost_ret (v := .tuple #[shv s f, .bool false]) (by simp [results, Tryz.results9, go_sem, c0, c1]) rfl ⟨by rw [HF.out.1, HF.out.2.1, HF.out.2.2], hB⟩
    · have hin : inB (x.size : Int) 1 60 = false := by
        cases h : inB (x.size : Int) 1 60 with
        | false => rfl
        | true => exact absurd (inB_nat.1 h) hx
      rw [hin] at HI
      have HF := Lib.hid (add_no HO.out (fits_f (s := s) (x := x) (by omega)))
      go_wp2_with fail
      go_quiet ((go_at_call 24; exact Calls.quiet_of_same ((HI.out _).mono fun _ _ h => ⟨h.1, h.2.symm⟩)))
      go_wp2
      obtain ⟨c0, c1, hB⟩ := (HT.out.drewN nq).put s f
      exact bodyPost_ret (v := .tuple #[shv s f, .bool false]) (by simp [results, Tryz.results9, go_sem, c0, c1]) rfl ⟨by rw [HF.out.1, HF.out.2.1, HF.out.2.2], hB⟩
  · have hok' : okSh s f = false := by simpa using hok
    have HF := Lib.hid (add_bad (x := x) hok')
    rw [hok']
    go_wp2
    obtain ⟨c0, c1, hB⟩ := HT.out.put ⟨#[]⟩ 0
    exact bodyPost_ret (v := .tuple #[shv ⟨#[]⟩ 0, .bool false]) (by simp [results, Tryz.results9, go_sem, c0, c1]) rfl ⟨by rw [HF.out.1, HF.out.2.1, HF.out.2.2], hB⟩
end Go.Proofs.YtapkfajgphkajaaGreatDoor.sh
