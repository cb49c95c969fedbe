/-
  Contracts of impl.withRecord and impl.ShelfAdd.
-/
import Derived.Test.YtapkfajgphkajaaGreatDoorIShOk
import Derived.Test.YtapkfajgphkajaaGreatDoorSShAdd
import Derived.Test.YtapkfajgphkajaaGreatDoorILim
namespace Go.Proofs.YtapkfajgphkajaaGreatDoor.sh
open Go.ChangeShapes Go.WideShapes Go.ChangeAt Go.RowKit
open Go.Proofs.YtapkfajgphkajaaGreatDoor.nb Go.Proofs.YtapkfajgphkajaaGreatDoor.ok Go.Proofs.YtapkfajgphkajaaGreatDoor.wd Go.Proofs.YtapkfajgphkajaaGreatDoor.dc

def withS (s x : ByteArray) : ByteArray := if fits s x then s ++ stS x else ⟨#[]⟩
def WithPost (w : World) (s x : ByteArray) (e : Ending) (w' : World) : Prop := e = .returned (.tuple #[.string (withS s x), .bool (fits s x)]) ∧ Below w.heap.size w w'

set_option maxRecDepth 100000 in
set_option maxHeartbeats 2000000 in
theorem with_any (s x : ByteArray) (hs : s.size ≤ 2400) (w : World) (h : Tab w) :
    Calls Tryz.prog 28 #[.string s, .string x] w (WithPost w s x) := by
  by_cases hx : 1 ≤ x.size ∧ x.size ≤ 60
  · have HO := Lib.hid (fun W => outside_any (x.size : Int) 1 60 W)
    rw [inB_nat.2 hx] at HO
    have hst := stS_size hx
    have HX := Lib.hid (fun W hW => istored_any x (by omega) W hW)
    by_cases hfit : s.size + (stS x).size ≤ 2400
    · have HF := Lib.hid (fits_iff.2 ⟨hx.1, hx.2, hfit⟩)
      have HW := Lib.hid (show withS s x = s ++ stS x by unfold withS; rw [if_pos HF.out])
      generalize stS x = y at HX HW hst hfit
      obtain ⟨z, ez, qz, rz⟩ := adds s y (by omega)
      have HZ := Lib.hid ez
      clear ez
      go_enter Tryz.func28, Tryz.ntmps28
      go_wp2_with fail
      refine (limRec_any _ _).mono ?_
      rintro e w1 ⟨rfl, hB1⟩
      go_wp2_with fail
      refine (HO.out _).mono ?_
      rintro e w2 ⟨rfl, hB2⟩
      have hB3 := hB1.trans (hB2.mono hB1.size)
      clear hB1 hB2
      go_wp2_with fail
      refine (HX.out _ (h.later hB3)).mono ?_
      rintro e w3 ⟨rfl, hB4⟩
      have HB := Lib.hid (hB3.trans (hB4.mono hB3.size))
      clear hB3 hB4
      have hle : ¬ (2400 : Int) < (z.size : Nat) := by omega
      go_wp2
      go_ret2
      exact ⟨by rw [HW.out, HF.out, ← HZ.out]; rfl, HB.out⟩
    · have HF := Lib.hid (fits_f (s := s) (x := x) (by omega))
      have HW := Lib.hid (show withS s x = ⟨#[]⟩ by unfold withS; rw [if_neg (by rw [HF.out]; simp)])
      generalize stS x = y at HX hst hfit
      obtain ⟨z, ez, qz, rz⟩ := adds s y (by omega)
      clear ez
      go_enter Tryz.func28, Tryz.ntmps28
      go_wp2_with fail
      refine (limRec_any _ _).mono ?_
      rintro e w1 ⟨rfl, hB1⟩
      go_wp2_with fail
      refine (HO.out _).mono ?_
      rintro e w2 ⟨rfl, hB2⟩
      have hB3 := hB1.trans (hB2.mono hB1.size)
      clear hB1 hB2
      go_wp2_with fail
      refine (HX.out _ (h.later hB3)).mono ?_
      rintro e w3 ⟨rfl, hB4⟩
      have HB := Lib.hid (hB3.trans (hB4.mono hB3.size))
      clear hB3 hB4
      have hle : (2400 : Int) < (z.size : Nat) := by omega
      go_wp2
      go_ret2
      exact ⟨by rw [HW.out, HF.out]; rfl, HB.out⟩
  · have hin : inB (x.size : Int) 1 60 = false := by
      cases h : inB (x.size : Int) 1 60 with
      | false => rfl
      | true => exact absurd (inB_nat.1 h) hx
    have HO := Lib.hid (fun W => outside_any (x.size : Int) 1 60 W)
    rw [hin] at HO
    have HF := Lib.hid (fits_f (s := s) (x := x) (by omega))
    have HW := Lib.hid (show withS s x = ⟨#[]⟩ by unfold withS; rw [if_neg (by rw [HF.out]; simp)])
    go_enter Tryz.func28, Tryz.ntmps28
    go_wp2_with fail
    refine (limRec_any _ _).mono ?_
    rintro e w1 ⟨rfl, hB1⟩
    go_wp2_with fail
    refine (HO.out _).mono ?_
    rintro e w2 ⟨rfl, hB2⟩
    have HB := Lib.hid (hB1.trans (hB2.mono hB1.size))
    clear hB1 hB2
    go_wp2
    go_ret2
    exact ⟨by rw [HW.out, HF.out]; rfl, HB.out⟩

theorem with_yes {s x : ByteArray} (h : fits s x = true) : withS s x = s ++ stS x := by unfold withS; rw [if_pos h]

set_option maxRecDepth 100000 in
set_option maxHeartbeats 2000000 in
theorem iadd_any (s : ByteArray) (f : Int) (x : ByteArray) (w : World) (h : Env w) :
    Calls Tryz.prog 11 #[shv s f, .string x] w (ShbPost w (addS s f x) (addF s f) (addB s f x)) := by
  have hT := Two.new w s f
  have H := Lib.hid (fun V hV => iok_any s f V hV)
  go_enter Tryz.func11, Tryz.ntmps11
  go_wp2_with fail
  generalize (w.alloc (.cells #[.string s, .int .i64 f] 24)).alloc (.cells #[.string ⟨#[]⟩, .int .i64 0] 24) = V at hT ⊢
  refine (H.out _ (h.later hT.bel)).mono ?_
  rintro e V1 ⟨rfl, hB⟩
  have hT1 := hT.later hB
  obtain ⟨a0, a1, r0, r1, f0, f1⟩ := hT1.cells
  have HT := Lib.hid hT1
  clear hT hT1 hB H
  by_cases hok : okSh s f = true
  · have hsz := ok_small hok
    have HO := Lib.hid hok
    rw [hok]
    clear hok
    have HWi := Lib.hid (with_any s x hsz V1 (h.later HT.out.bel).tab)
    go_wp2_with fail
    refine HWi.out.mono ?_
    rintro e V2 ⟨rfl, hB2⟩
    have hT2 := HT.out.later hB2
    obtain ⟨a0, a1, r0, r1, f0, f1⟩ := hT2.cells
    have HT2 := Lib.hid hT2
    clear hT2 hB2 HWi
    by_cases hfit : fits s x = true
    · have HF := Lib.hid (add_yes HO.out hfit)
      rw [hfit, with_yes hfit]
      generalize s ++ stS x = z at HF
      clear hfit
      go_wp2
      obtain ⟨c0, c1, hB⟩ := HT2.out.put z f
      exact bodyPost_ret (v := .tuple #[shv z f, .bool true]) (by simp [results, Tryz.results11, go_sem, c0, c1]) rfl ⟨by rw [HF.out.1, HF.out.2.1, HF.out.2.2], hB⟩
    · have hfit' : fits s x = false := by simpa using hfit
      have HF := Lib.hid (add_no HO.out hfit')
      rw [hfit']
      generalize withS s x = z
      clear hfit hfit'
      go_wp2
      obtain ⟨c0, c1, hB⟩ := HT2.out.put s f
      exact bodyPost_ret (v := .tuple #[shv s f, .bool false]) (by simp [results, Tryz.results11, go_sem, c0, c1]) rfl ⟨by rw [HF.out.1, HF.out.2.1, HF.out.2.2], hB⟩
  · have hok' : okSh s f = false := by simpa using hok
    have HF := Lib.hid (add_bad (x := x) hok')
    rw [hok']
    go_wp2
    obtain ⟨c0, c1, hB⟩ := HT.out.put ⟨#[]⟩ 0
    exact bodyPost_ret (v := .tuple #[shv ⟨#[]⟩ 0, .bool false]) (by simp [results, Tryz.results11, go_sem, c0, c1]) rfl ⟨by rw [HF.out.1, HF.out.2.1, HF.out.2.2], hB⟩
end Go.Proofs.YtapkfajgphkajaaGreatDoor.sh
