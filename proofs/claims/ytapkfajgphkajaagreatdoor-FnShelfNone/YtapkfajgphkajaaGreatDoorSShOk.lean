/-
  Contracts of spec.ShelfOk, spec.ShelfForce, spec.ShelfAdd.
-/
import Derived.Test.YtapkfajgphkajaaGreatDoorSShRead
import Derived.Test.YtapkfajgphkajaaGreatDoorShelfTwo
import Derived.Deep.RegionHeld3
import Derived.Deep.RegionWith
namespace Go.Proofs.YtapkfajgphkajaaGreatDoor.sh
open Go.ChangeShapes Go.WideShapes Go.ChangeAt Go.RowKit
open Go.Proofs.YtapkfajgphkajaaGreatDoor.nb Go.Proofs.YtapkfajgphkajaaGreatDoor.ok Go.Proofs.YtapkfajgphkajaaGreatDoor.wd Go.Proofs.YtapkfajgphkajaaGreatDoor.dc

theorem okL_f1 {l : List UInt8} {f : Int} (h : 2400 < l.length ∨ f < 0 ∨ (l.length : Int) < f) : ¬ okL l f := by unfold okL; omega

set_option maxRecDepth 100000 in
set_option maxHeartbeats 1000000 in
theorem sok_any (s : ByteArray) (f : Int) (w : World) (hs : s.size ≤ 8388608) :
    Calls Tryz.prog 10 #[shv s f] w (BoolPost w (okSh s f)) := by
  by_cases h1 : 2400 < s.size
  · have HR := Lib.hid (okSh_f (s := s) (f := f) (okL_f1 (.inl (by rw [← Lib.size_eq]; exact h1))))
    have h1' : (2400 : Int) < s.size := by omega
    go_enter Tryz.func10, Tryz.ntmps10
    go_wp2
    go_ret
    exact ⟨by rw [HR.out]; rfl, (Below.refl _ _).alloc (Nat.le_refl _) _⟩
  have h1' : ¬ (2400 : Int) < s.size := by omega
  by_cases h2 : 0 ≤ f ∧ f ≤ s.size
  · obtain ⟨m, rfl⟩ := Int.eq_ofNat_of_zero_le h2.1
    have hm : m ≤ s.size := by omega
    have HI := Lib.hid (fun W => in_any (m : Int) 0 (s.size : Int) W)
    rw [inB_t (by omega) (by omega)] at HI
    have b0 : (0 : Int) ≤ (m : Int) := by omega
    have b1 : (m : Int) ≤ (s.size : Int) := by omega
    have HA := Lib.hid (fun W => sread_any s hs W)
    have HB := Lib.hid (fun W => sread_any (s.extract 0 m) (by rw [ByteArray.size_extract]; omega) W)
    rw [ext_take] at HB
    have HR := Lib.hid (okSh_nat (s := s) (m := m) (by omega) hm)
    generalize hn1 : en s.data.toList = n1 at HA HR
    generalize hn2 : en (s.data.toList.take m) = n2 at HB HR
    unfold ReadPost at HA HB
    simp only [hn1] at HA
    simp only [hn2] at HB
    clear h2 hn1 hn2
    have hZ := Blk.new w 24 #[.string s, .int .i64 m]
    have hB0 := (Below.refl w.heap.size w).alloc (Nat.le_refl _) (.cells #[.string s, .int .i64 m] 24)
    go_enter Tryz.func10, Tryz.ntmps10
    go_wp2_with fail
    refine (HI.out _).mono ?_
    rintro e w1 ⟨rfl, rfl⟩
    go_wp2_with fail
    refine (HA.out _).mono ?_
    rintro e w2 ⟨v, rfl, hO⟩
    have hZ2 := hZ.below hO.2 hZ.lt
    have hB2 := hB0.trans (hO.2.mono hB0.size)
    have c0 := hZ2.cell 0
    have c1 := hZ2.cell 1
    simp only [List.getElem?_toArray, List.getElem?_cons_zero, List.getElem?_cons_succ] at c0 c1
    clear hO HA HI
    go_wp2_with fail
    refine (HB.out _).mono ?_
    rintro e w3 ⟨v', rfl, hO⟩
    have hZ3 := hZ2.below hO.2 hZ2.lt
    have HB3 := Lib.hid (hB2.trans (hO.2.mono hB2.size))
    have d0 := hZ3.cell 0
    have d1 := hZ3.cell 1
    simp only [List.getElem?_toArray, List.getElem?_cons_zero, List.getElem?_cons_succ] at d0 d1
    clear hO HB c0 c1 hZ2 hZ3 hB2 hB0 hZ
    by_cases e1 : n1 = s.size
    · have k1 : ((n1 : Int) == (s.size : Int)) = true := by rw [beq_iff_eq]; omega
      by_cases e2 : n2 = m
      · have k2 : ((n2 : Int) == (m : Int)) = true := by rw [beq_iff_eq]; omega
        go_wp2
        go_ret
        exact ⟨by rw [HR.out, e1, e2]; simp, HB3.out⟩
      · have k2 : ((n2 : Int) == (m : Int)) = false := by rw [beq_eq_false_iff_ne]; omega
        go_wp2
        go_ret
        exact ⟨by rw [HR.out, show (n2 == m) = false by simpa using e2, Bool.and_false]; simp, HB3.out⟩
    · have k1 : ((n1 : Int) == (s.size : Int)) = false := by rw [beq_eq_false_iff_ne]; omega
      go_wp2
      go_ret
      exact ⟨by rw [HR.out, show (n1 == s.size) = false by simpa using e1, Bool.false_and]; simp, HB3.out⟩
  · have HR := Lib.hid (okSh_f (s := s) (f := f) (okL_f1 (by rw [← Lib.size_eq]; omega)))
    have HI := Lib.hid (fun W => in_any f 0 (s.size : Int) W)
    rw [inB_f (by omega)] at HI
    go_enter Tryz.func10, Tryz.ntmps10
    go_wp2_with fail
    refine (HI.out _).mono ?_
    rintro e w1 ⟨rfl, rfl⟩
    go_wp2
    go_ret
    exact ⟨by rw [HR.out]; rfl, (Below.refl _ _).alloc (Nat.le_refl _) _⟩
end Go.Proofs.YtapkfajgphkajaaGreatDoor.sh
