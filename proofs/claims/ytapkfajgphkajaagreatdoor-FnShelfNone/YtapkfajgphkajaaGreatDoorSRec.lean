/-
  Contracts of spec.l11Rec and spec.l11RecOk: a record as it is stored; whether a text can be one.
-/
import Derived.Test.YtapkfajgphkajaaGreatDoorDec
import Derived.Test.YtapkfajgphkajaaGreatDoorSWrite
import Derived.Test.YtapkfajgphkajaaGreatDoorShelfPlain2
namespace Go.Proofs.YtapkfajgphkajaaGreatDoor.sh
open Go.ChangeShapes Go.WideShapes Go.ChangeAt Go.RowKit
open Go.Proofs.YtapkfajgphkajaaGreatDoor.nb Go.Proofs.YtapkfajgphkajaaGreatDoor.ok Go.Proofs.YtapkfajgphkajaaGreatDoor.wd Go.Proofs.YtapkfajgphkajaaGreatDoor.dc

/-- a record as it is stored, as a string -/
def stS (x : ByteArray) : ByteArray := str (st x.data.toList)
theorem size_list (s : ByteArray) : s.data.toList.length = s.size := (Lib.size_eq s).symm
theorem stS_eq (x : ByteArray) : stS x = ((str (dl (x.size : Int)) ++ ⟨#[58]⟩) ++ x) ++ ⟨#[59]⟩ := by
  have e1 : (⟨#[58]⟩ : ByteArray) = str [58] := rfl
  have e2 : (⟨#[59]⟩ : ByteArray) = str [59] := rfl
  have e3 : x = str x.data.toList := (str_data x).symm
  have e4 : (((str (dl (x.size : Int)) ++ ⟨#[58]⟩) ++ x) ++ ⟨#[59]⟩ : ByteArray) = ((str (dl (x.size : Int)) ++ str [58]) ++ str x.data.toList) ++ str [59] := by rw [e1, e2, ← e3]
  unfold stS st
  rw [e4, str_app, str_app, str_app, size_list]
  simp

theorem recOk_any (x : ByteArray) (w : World) :
    Calls Tryz.prog 24 #[.string x] w fun e w' => e = .returned (.bool (inB x.size 1 60)) ∧ w = w' := by
  go_enter Tryz.func24, Tryz.ntmps24
  go_wp2_with ((go_at_call 26; refine (in_any _ _ _ _).mono ?_; rintro e w' ⟨rfl, rfl⟩))
  go_ret
  exact ⟨rfl, rfl⟩

theorem dl_len4' {n : Nat} (h : n ≤ 9999) : (dl (n : Int)).length ≤ 4 := by
  by_cases h1 : n < 10
  · rw [dl_one (by omega) (by omega)]; simp
  · have := dl_len (n := (n : Int) / 10) (by omega)
    rw [dl_step (by omega), List.length_append]
    simp
    omega

theorem srec_any (x : ByteArray) (hx : x.size ≤ 9999) (w : World) :
    Calls Tryz.prog 25 #[.string x] w (StrPost w (stS x)) := by
  have HD := Lib.hid (fun W => dec_any (x.size : Int) (by omega) (by omega) W)
  have HL := dl_len4' (n := x.size) hx
  have HR := Lib.hid (stS_eq x)
  have hsz : (str (dl (x.size : Int))).size ≤ 4 := by rw [str_size]; exact HL
  generalize str (dl (x.size : Int)) = d at HD HR hsz
  obtain ⟨y1, ey1, qy1, ry1⟩ := adds d ⟨#[58]⟩ (by have : (⟨#[58]⟩ : ByteArray).size = 1 := rfl; omega)
  obtain ⟨y2, ey2, qy2, ry2⟩ := adds y1 x (by have : (⟨#[58]⟩ : ByteArray).size = 1 := rfl; omega)
  obtain ⟨y3, ey3, qy3, ry3⟩ := adds y2 ⟨#[59]⟩ (by have : (⟨#[58]⟩ : ByteArray).size = 1 := rfl; have : (⟨#[59]⟩ : ByteArray).size = 1 := rfl; omega)
  have HE := Lib.hid (show stS x = y3 by rw [HR.out, ey3, ey2, ey1])
  clear ey1 ey2 ey3 qy1 qy2 qy3 HR HL
  go_enter Tryz.func25, Tryz.ntmps25
  go_wp2_with fail
  refine (HD.out _).mono ?_
  rintro e w2 ⟨rfl, hB⟩
  go_wp2
  go_ret
  exact ⟨by rw [HE.out]; rfl, hB⟩
end Go.Proofs.YtapkfajgphkajaaGreatDoor.sh
