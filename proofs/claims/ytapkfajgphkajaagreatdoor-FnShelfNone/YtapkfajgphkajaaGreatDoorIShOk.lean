/-
  Contracts of impl.isCompleteLog and impl.ShelfOk.
-/
import Derived.Test.YtapkfajgphkajaaGreatDoorIShRead
import Derived.Test.YtapkfajgphkajaaGreatDoorShelfTwo
namespace Go.Proofs.YtapkfajgphkajaaGreatDoor.sh
open Go.ChangeShapes Go.WideShapes Go.ChangeAt Go.RowKit
open Go.Proofs.YtapkfajgphkajaaGreatDoor.nb Go.Proofs.YtapkfajgphkajaaGreatDoor.ok Go.Proofs.YtapkfajgphkajaaGreatDoor.wd Go.Proofs.YtapkfajgphkajaaGreatDoor.dc

/-- the library's variables are laid -/
structure Env (w : World) : Prop where
  tab : Tab w
  errs : Errs w
  errT : as.ErrT w
theorem Env.later {V V' : World} (h : Env V) (hb : Below V.heap.size V V') : Env V' := ⟨h.tab.later hb, h.errs.later hb, h.errT.later hb⟩

theorem complete_any (s : ByteArray) (hs : s.size ≤ 8388608) (w : World) (h : Env w) :
    Calls Tryz.prog 29 #[.string s] w (BoolPost w (en s.data.toList == s.size)) := by
  have H := Lib.hid (iread_any s hs w h.tab h.errs h.errT)
  unfold ReadPost at H
  generalize hn : en s.data.toList = n at H
  clear hn
  go_enter Tryz.func29, Tryz.ntmps29
  go_wp2_with fail
  refine H.out.mono ?_
  rintro e w1 ⟨v, rfl, hO⟩
  have hB := hO.2
  clear hO H
  go_wp2
  go_ret
  refine ⟨?_, hB⟩
  by_cases e1 : n = s.size
  · subst e1; simp
  · have k1 : ((n : Int) == (s.size : Int)) = false := by rw [beq_eq_false_iff_ne]; omega
    have k2 : (n == s.size) = false := by simpa using e1
    rw [k2]
    simp
    omega

set_option maxRecDepth 100000 in
set_option maxHeartbeats 1000000 in
theorem iok_any (s : ByteArray) (f : Int) (w : World) (h : Env w) :
    Calls Tryz.prog 12 #[shv s f] w (BoolPost w (okSh s f)) := by
  have hB0 := (Below.refl w.heap.size w).alloc (Nat.le_refl _) (.cells #[.string s, .int .i64 f] 24)
  by_cases h1 : 2400 < s.size
  · have HR := Lib.hid (okSh_f (s := s) (f := f) (by unfold okL; rw [← Lib.size_eq]; omega))
    have h1' : (2400 : Int) < s.size := by omega
    go_enter Tryz.func12, Tryz.ntmps12
    go_wp2
    go_ret
    exact ⟨by rw [HR.out]; rfl, hB0⟩
  have h1' : ¬ (2400 : Int) < s.size := by omega
  by_cases h2 : f < 0
  · have HR := Lib.hid (okSh_f (s := s) (f := f) (by unfold okL; omega))
    go_enter Tryz.func12, Tryz.ntmps12
    go_wp2
    go_ret
    exact ⟨by rw [HR.out]; rfl, hB0⟩
  by_cases h3 : (s.size : Int) < f
  · have HR := Lib.hid (okSh_f (s := s) (f := f) (by unfold okL; rw [← Lib.size_eq]; omega))
    go_enter Tryz.func12, Tryz.ntmps12
    go_wp2
    go_ret
    exact ⟨by rw [HR.out]; rfl, hB0⟩
  obtain ⟨m, rfl⟩ := Int.eq_ofNat_of_zero_le (Int.not_lt.1 h2)
  have hm : m ≤ s.size := by omega
  have b0 : (0 : Int) ≤ (m : Int) := by omega
  have b1 : (m : Int) ≤ (s.size : Int) := by omega
  have HA := Lib.hid (fun W hE => complete_any s (by omega) W hE)
  have HB := Lib.hid (fun W hE => complete_any (s.extract 0 m) (by rw [ByteArray.size_extract]; omega) W hE)
  rw [ext_take, show (s.extract 0 m).size = m by rw [ByteArray.size_extract]; omega] at HB
  have HR := Lib.hid (okSh_nat (s := s) (m := m) (by omega) hm)
  generalize (en s.data.toList == s.size) = p1 at HA HR
  generalize (en (s.data.toList.take m) == m) = p2 at HB HR
  have hZ := Blk.new w 24 #[.string s, .int .i64 m]
  go_enter Tryz.func12, Tryz.ntmps12
  go_wp2_with fail
  refine (HA.out _ (h.later hB0)).mono ?_
  rintro e w2 ⟨rfl, hB⟩
  have hZ2 := hZ.below hB hZ.lt
  have hB2 := hB0.trans (hB.mono hB0.size)
  have hE2 := Lib.hid (h.later hB2)
  have c0 := hZ2.cell 0
  have c1 := hZ2.cell 1
  simp only [List.getElem?_toArray, List.getElem?_cons_zero, List.getElem?_cons_succ] at c0 c1
  clear hB HA hZ hZ2
  cases p1 with
  | false =>
    go_wp2
    go_ret
    exact ⟨by rw [HR.out]; rfl, hB2⟩
  | true =>
    go_wp2_with fail
    refine (HB.out _ hE2.out).mono ?_
    rintro e w3 ⟨rfl, hB⟩
    have HB3 := Lib.hid (hB2.trans (hB.mono hB2.size))
    clear hB HB hB2 hB0
    go_wp2
    go_ret
    exact ⟨by rw [HR.out, Bool.true_and]; rfl, HB3.out⟩
end Go.Proofs.YtapkfajgphkajaaGreatDoor.sh
