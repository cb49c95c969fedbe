/-
  Contract of strings.Cut at a colon.
-/
import Derived.Test.YtapkfajgphkajaaGreatDoorShelfPlain2
import Derived.Test.YtapkfajgphkajaaGreatDoorShelf
import Derived.Test.YtapkfajgphkajaaGreatDoorRows
import Derived.WalkKit
import Derived.ProofKit
import Derived.Lib.Hide
import Derived.Deep.QuietTactic
import Derived.BigQuiet
import Derived.Below
namespace Go.Proofs.YtapkfajgphkajaaGreatDoor.sh
open Go.ChangeShapes Go.WideShapes Go.ChangeAt Go.RowKit
open Go.Proofs.YtapkfajgphkajaaGreatDoor.nb Go.Proofs.YtapkfajgphkajaaGreatDoor.ok Go.Proofs.YtapkfajgphkajaaGreatDoor.dc

theorem bdrewN {B : Nat} {a w : World} (h : Below B a w) (n : Nat) : Below B a (w.drewN n) := ⟨h.os, h.tape, h.output, h.size, h.block⟩
theorem hd_parts {s : ByteArray} {i : Nat} (hi : s.data.toList[i]? = some 58) (hb : ∀ k, k < i → s.data.toList[k]? ≠ some 58) :
    s.extract 0 i = str (hd s.data.toList).1 ∧ s.extract (i + 1) s.size = str (hd s.data.toList).2 := by
  rw [hd_at hi hb, Lib.extract_eq, Lib.extract_eq]
  refine ⟨by simp [str], ?_⟩
  unfold str
  congr 2
  show List.take (s.size - (i + 1)) (List.drop (i + 1) s.data.toList) = _
  rw [List.take_of_length_le (by rw [List.length_drop, ← Lib.size_eq]; exact Nat.le_refl _)]
theorem hd_whole {s : ByteArray} (h : ∀ k : Nat, s.data.toList[k]? ≠ some 58) : s = str (hd s.data.toList).1 ∧ (⟨#[]⟩ : ByteArray) = str (hd s.data.toList).2 := by
  rw [hd_none h]
  exact ⟨(str_data s).symm, rfl⟩
def Cut58Post (w : World) (s : ByteArray) (e : Ending) (w' : World) : Prop := ∃ b, e = .returned (.tuple #[.string (str (hd s.data.toList).1), .string (str (hd s.data.toList).2), .bool b]) ∧ Below w.heap.size w w'

theorem idx58_any (s : ByteArray) (w : World) : Calls Tryz.prog 66 #[.string s, .string ⟨#[58]⟩] w fun e w' => e = .returned (.int .i64 (Lib.indexByte s.data.toList 58)) ∧ w = w' :=
  (Tryz.stringslite_Index_one s 58 w).mono fun _ _ ⟨a, b⟩ => ⟨a, b.symm⟩

theorem cut58_inner (s : ByteArray) (hs : s.size ≤ 8388608) (w : World) :
    Calls Tryz.prog 62 #[.string s, .string ⟨#[58]⟩] w (Cut58Post w s) := by
  by_cases hneg : Lib.indexByte s.data.toList 58 < 0
  · have e1 : Lib.indexByte s.data.toList 58 = -1 := by have := Lib.indexByte_ge s.data.toList 58; omega
    have HW := Lib.hid (hd_whole (Lib.indexByte_none e1))
    have HI := Lib.hid (fun W => (idx58_any s W))
    rw [e1] at HI
    clear hneg e1
    go_enter Tryz.func62, Tryz.ntmps62
    go_wp2_with ((go_at_call 66; refine (HI.out _).mono ?_; rintro e w' ⟨rfl, rfl⟩))
    go_ret3
    exact ⟨false, by rw [← HW.out.1, ← HW.out.2]; rfl, Below.refl _ _⟩
  · obtain ⟨o, ho⟩ := Int.eq_ofNat_of_zero_le (Int.not_lt.1 hneg)
    obtain ⟨h1, h2⟩ := Lib.indexByte_some ho
    have HW := Lib.hid (hd_parts h1 h2)
    have HI := Lib.hid (fun W => (idx58_any s W))
    rw [ho] at HI
    have hlt : o < s.size := by have := (List.getElem?_eq_some_iff.1 h1).1; rwa [← Lib.size_eq] at this
    clear hneg ho h1 h2
    have b0 : (0 : Int) ≤ (o : Int) := by omega
    have b1 : (o : Int) ≤ (s.size : Int) := by omega
    have b2 : IntKind.i64.wrap ((o : Int) + 1) = (o : Int) + 1 := by rw [IntKind.wrap_i64]; omega
    have b3 : (0 : Int) ≤ (o : Int) + 1 := by omega
    have b4 : (o : Int) + 1 ≤ (s.size : Int) := by omega
    have b5 : ((o : Int) + 1).toNat = o + 1 := by omega
    go_enter Tryz.func62, Tryz.ntmps62
    go_wp2_with ((go_at_call 66; refine (HI.out _).mono ?_; rintro e w' ⟨rfl, rfl⟩))
    go_quiet (fail)
    go_wp2
    go_ret3
    exact ⟨true, by rw [← HW.out.1, ← HW.out.2]; rfl, bdrewN (Below.refl _ _) _⟩

theorem cut58_any (s : ByteArray) (hs : s.size ≤ 8388608) (w : World) :
    Calls Tryz.prog 55 #[.string s, .string ⟨#[58]⟩] w (Cut58Post w s) := by
  have H := Lib.hid (fun W => cut58_inner s hs W)
  go_enter Tryz.func55, Tryz.ntmps55
  go_wp2_with fail
  refine (H.out _).mono ?_
  rintro e w1 ⟨b, rfl, hB⟩
  go_wp2
  go_ret3
  exact ⟨b, rfl, hB⟩

end Go.Proofs.YtapkfajgphkajaaGreatDoor.sh
