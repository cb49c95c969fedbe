/-
  Contracts of impl.limitedRecordSize, of (impl.limited).isOutside, of strconv.Itoa at any number, of impl.storedRecord.
-/
import Derived.Test.YtapkfajgphkajaaGreatDoorEnv
import Derived.Test.YtapkfajgphkajaaGreatDoorSRec
import Derived.Below
namespace Go.Proofs.YtapkfajgphkajaaGreatDoor.sh
open Go.ChangeShapes Go.WideShapes Go.ChangeAt Go.RowKit
open Go.Proofs.YtapkfajgphkajaaGreatDoor.nb Go.Proofs.YtapkfajgphkajaaGreatDoor.ok Go.Proofs.YtapkfajgphkajaaGreatDoor.wd Go.Proofs.YtapkfajgphkajaaGreatDoor.dc

abbrev lim (v a b : Int) : Value := .agg #[.int .i64 v, .int .i64 a, .int .i64 b]

theorem limRec_any (n : Int) (w : World) :
    Calls Tryz.prog 42 #[.int .i64 n] w fun e w' => e = .returned (lim n 1 60) ∧ Below w.heap.size w w' := by
  go_enter Tryz.func42, Tryz.ntmps42
  go_wp2
  exact bodyPost_ret (v := lim n 1 60) (by simp [results, Tryz.results42, go_sem, lim]) rfl ⟨rfl, (Below.refl _ _).alloc (Nat.le_refl _) _⟩

theorem outside_any (v a b : Int) (w : World) :
    Calls Tryz.prog 43 #[lim v a b] w fun e w' => e = .returned (.bool (!inB v a b)) ∧ Below w.heap.size w w' := by
  unfold lim
  by_cases h1 : v < a
  · rw [inB_f (.inl h1)]
    go_enter Tryz.func43, Tryz.ntmps43
    go_wp2
    go_ret
    exact ⟨rfl, (Below.refl _ _).alloc (Nat.le_refl _) _⟩
  · by_cases h2 : b < v
    · rw [inB_f (.inr h2)]
      go_enter Tryz.func43, Tryz.ntmps43
      go_wp2
      go_ret
      exact ⟨rfl, (Below.refl _ _).alloc (Nat.le_refl _) _⟩
    · rw [inB_t (by omega) (by omega)]
      go_enter Tryz.func43, Tryz.ntmps43
      go_wp2
      go_ret
      exact ⟨rfl, (Below.refl _ _).alloc (Nat.le_refl _) _⟩

theorem itoa_all (n : Int) (h0 : -9223372036854775808 ≤ n) (h1 : n ≤ 9223372036854775807) (w : World) (h : Tab w) :
    Calls Tryz.prog 54 #[.int .i64 n] w (StrPost w (str (Lib.itoa n))) := by
  refine (Tryz.strconv_Itoa n h0 h1 w h).mono ?_
  rintro e w' ⟨rfl, k, os, rfl⟩
  exact ⟨rfl, below_grow w k os⟩

theorem istored_any (x : ByteArray) (hx : x.size ≤ 9999) (w : World) (h : Tab w) :
    Calls Tryz.prog 44 #[.string x] w (StrPost w (stS x)) := by
  have HD := Lib.hid (itoa_all (x.size : Int) (by omega) (by omega) w h)
  rw [itoa_dl (by omega)] at HD
  have HL := dl_len4' (n := x.size) hx
  have HR := Lib.hid (stS_eq x)
  have hsz : (str (dl (x.size : Int))).size ≤ 4 := by rw [str_size]; exact HL
  generalize str (dl (x.size : Int)) = d at HD HR hsz
  obtain ⟨y1, ey1, qy1, ry1⟩ := adds d ⟨#[58]⟩ (by have : (⟨#[58]⟩ : ByteArray).size = 1 := rfl; omega)
  obtain ⟨y2, ey2, qy2, ry2⟩ := adds y1 x (by have : (⟨#[58]⟩ : ByteArray).size = 1 := rfl; omega)
  obtain ⟨y3, ey3, qy3, ry3⟩ := adds y2 ⟨#[59]⟩ (by have : (⟨#[58]⟩ : ByteArray).size = 1 := rfl; have : (⟨#[59]⟩ : ByteArray).size = 1 := rfl; omega)
  have HE := Lib.hid (show stS x = y3 by rw [HR.out, ey3, ey2, ey1])
  clear ey1 ey2 ey3 qy1 qy2 qy3 HR HL
  go_enter Tryz.func44, Tryz.ntmps44
  go_wp2_with fail
  refine HD.out.mono ?_
  rintro e w2 ⟨rfl, hB⟩
  go_wp2
  go_ret
  exact ⟨by rw [HE.out]; rfl, hB⟩

/-! what the size that Atoi reads says -/
theorem atoiV_range (l : List UInt8) : -9223372036854775808 ≤ atoiV l ∧ atoiV l ≤ 9223372036854775807 := by
  unfold atoiV
  cases h : Lib.atoiAll l with
  | ok v =>
    simp only
    unfold Lib.atoiAll at h
    cases l with
    | nil => cases h
    | cons c r =>
      simp only at h
      cases hp : Lib.parseMag (if c.toNat = 43 ∨ c.toNat = 45 then r else c :: r) with
      | ok u =>
        rw [hp] at h
        simp only at h
        split at h
        · cases h
        · split at h
          · cases h
          · injection h with h
            rw [← h]
            split <;> omega
      | _ => rw [hp] at h; cases h
  | range => simp only; unfold Lib.atoiSat; split <;> omega
  | _ => simp only; omega
theorem sz_atoi {d : List UInt8} (h : sz d ≠ 0) : atoiV d = (sz d : Int) ∧ Lib.itoa (atoiV d) = d ∧ 1 ≤ atoiV d ∧ atoiV d ≤ 60 := by
  obtain ⟨h1, h2, h3⟩ := sz_pos h
  have e : atoiV d = (sz d : Int) := by
    have := atoiV_dl (n := (sz d : Int)) (by omega) (by omega)
    rw [← h3] at this
    exact this
  exact ⟨e, by rw [e, itoa_dl (by omega)]; exact h3.symm, by omega, by omega⟩
theorem sz_of_atoi {d : List UInt8} {n : Nat} (h : Lib.itoa (atoiV d) = d) (hn : atoiV d = (n : Int)) (h1 : 1 ≤ n) (h2 : n ≤ 60) : sz d = n := by
  rw [hn, itoa_dl (by omega)] at h
  rw [← h]
  exact sz_dl h1 h2
end Go.Proofs.YtapkfajgphkajaaGreatDoor.sh
