/-
  Contract of spec.l3Dec, sharper: -1 where the string is no numeral of a number up to 9999, else the number.
-/
import Derived.Test.YtapkfajgphkajaaGreatDoorDec
namespace Go.Proofs.YtapkfajgphkajaaGreatDoor.dc
open Go.ChangeShapes Go.WideShapes Go.ChangeAt Go.RowKit
open Go.Proofs.YtapkfajgphkajaaGreatDoor.nb Go.Proofs.YtapkfajgphkajaaGreatDoor.ok Go.Proofs.YtapkfajgphkajaaGreatDoor.wd

/-- what a string of digits spells: -1 if it is no numeral of a number up to 9999 -/
def Reads (l : List UInt8) (v : Int) : Prop := (v = -1 ∧ ∀ m : Int, 0 ≤ m → m ≤ 9999 → l ≠ dl m) ∨ (0 ≤ v ∧ v ≤ 9999 ∧ l = dl v)
def ReadsPost (w : World) (l : List UInt8) (e : Ending) (w' : World) : Prop := ∃ v : Int, e = .returned (.int .i64 v) ∧ Reads l v ∧ Below w.heap.size w w'

theorem reads_not {l : List UInt8} (h : ∀ m : Int, 0 ≤ m → m ≤ 9999 → l ≠ dl m) : Reads l (-1) := .inl ⟨rfl, h⟩
theorem dl_len4 {m : Int} (h0 : 0 ≤ m) (h1 : m ≤ 9999) : 1 ≤ (dl m).length ∧ (dl m).length ≤ 4 := by
  by_cases h : m < 10
  · rw [dl_one h0 h]; simp
  · have := dl_len (n := m / 10) (by omega)
    rw [dl_step (by omega), List.length_append]
    simp
    omega
theorem not_len4 {l : List UInt8} (h : l.length < 1 ∨ 4 < l.length) : ∀ m : Int, 0 ≤ m → m ≤ 9999 → l ≠ dl m := fun m h0 h1 e => by
  have := dl_len4 h0 h1
  rw [← e] at this
  omega
theorem not_digit4 {l : List UInt8} {c : UInt8} (hm : c ∈ l) (h : dg c = false) : ∀ m : Int, 0 ≤ m → m ≤ 9999 → l ≠ dl m := fun m _ _ e => by
  have := List.all_eq_true.1 (dl_all m) c (e ▸ hm)
  rw [h] at this
  cases this
theorem not_val4 {l : List UInt8} (h : dl (val 0 l : Int) ≠ l) : ∀ m : Int, 0 ≤ m → m ≤ 9999 → l ≠ dl m := fun m h0 _ e => by
  apply h
  have : (val 0 l : Int) = m := by
    rw [e]
    unfold dl
    rw [dd_val]
    omega
  rw [this]
  exact e.symm

set_option maxHeartbeats 1000000 in
theorem dec3x_any (s : ByteArray) (hs : s.size ≤ 8388608) (w : World) :
    Calls Tryz.prog 53 #[.string s] w (ReadsPost w s.data.toList) := by
  by_cases h0 : s.size < 1
  · have R := Lib.hid (reads_not (not_len4 (l := s.data.toList) (.inl (by rw [← Lib.size_eq]; exact h0))))
    have h0' : (s.size : Int) < 1 := by omega
    go_enter Tryz.func53, Tryz.ntmps53
    go_wp2_with fail
    go_ret
    exact ⟨-1, rfl, R.out, Below.refl _ _⟩
  by_cases h1 : 4 < s.size
  · have R := Lib.hid (reads_not (not_len4 (l := s.data.toList) (.inr (by rw [← Lib.size_eq]; exact h1))))
    have h0' : ¬ (s.size : Int) < 1 := by omega
    have h1' : 4 < (s.size : Int) := by omega
    go_enter Tryz.func53, Tryz.ntmps53
    go_wp2_with fail
    go_ret
    exact ⟨-1, rfl, R.out, Below.refl _ _⟩
  have h0' : ¬ (s.size : Int) < 1 := by omega
  have h1' : ¬ 4 < (s.size : Int) := by omega
  go_enter Tryz.func53, Tryz.ntmps53
  go_wp2_with fail
  go_loop [3, 4] (fun x i => ∃ (k : Nat) (a : Int), k ≤ s.size ∧ i = .int .i64 k ∧ x = .int .i64 a ∧ 0 ≤ a ∧ a ≤ 9999 ∧ Hid (a = (val 0 (s.data.toList.take k) : Int) ∧ (s.data.toList.take k).all dg = true)) (fun _ i => s.size - (intOf i).toNat)
  case atStart => exact ⟨0, 0, by omega, rfl, rfl, by omega, by omega, rfl, rfl⟩
  case round =>
    obtain ⟨k, a, hk, rfl, rfl, a0, a1, HA⟩ := hrel
    by_cases hlt : k < s.size
    · have HM := Lib.hid (show s[k] ∈ s.data.toList from by show s.data[k] ∈ s.data.toList; simp)
      by_cases d0 : (s[k].toNat : Int) < 48
      · have R := Lib.hid (reads_not (not_digit4 HM.out (decide_eq_false (by omega))))
        go_wp2
        go_ret
        exact ⟨-1, rfl, R.out, Below.refl _ _⟩
      by_cases d1 : 57 < (s[k].toNat : Int)
      · have R := Lib.hid (reads_not (not_digit4 HM.out (decide_eq_false (by omega))))
        go_wp2
        go_ret
        exact ⟨-1, rfl, R.out, Below.refl _ _⟩
      have HS : Hid (a * 10 + ((s[k].toNat : Int) - 48) = (val 0 (s.data.toList.take (k + 1)) : Int) ∧ (s.data.toList.take (k + 1)).all dg = true) := by
        obtain ⟨e1, e2⟩ := HA.out
        have hd : dg s[k] = true := decide_eq_true (by omega)
        rw [ok.take_snoc s k hlt, val_snoc, List.all_append, e2]
        refine ⟨by rw [e1]; omega, by simp [hd]⟩
      have hb : a * 10 + ((s[k].toNat : Int) - 48) ≤ 9999 := by
        obtain ⟨e1, e2⟩ := HS.out
        have hv := val_lt _ e2
        have hp : 10 ^ (s.data.toList.take (k + 1)).length ≤ 10 ^ 4 := Nat.pow_le_pow_right (by omega) (by rw [List.length_take]; omega)
        rw [e1]
        have : (10 : Nat) ^ 4 = 10000 := by decide
        omega
      go_wp2
      go_round
      case rel => exact ⟨k + 1, _, by omega, by go_num, rfl, by omega, hb, HS⟩
      case measure => simp [intOf]; omega
    · have HE : Hid (a = (val 0 s.data.toList : Int)) := by
        have := HA.out.1
        rwa [List.take_of_length_le (by rw [← Lib.size_eq]; omega)] at this
      have HD := Lib.hid (fun W => dec_any a a0 a1 W)
      by_cases hq : str (dl a) = s
      · have R := Lib.hid (show Reads s.data.toList a from .inr ⟨a0, a1, by rw [← hq, data_str]⟩)
        rw [hq] at HD
        clear HA
        go_wp2_with fail
        refine (HD.out _).mono ?_
        rintro e w2 ⟨rfl, hB⟩
        go_wp2
        go_ret
        exact ⟨a, rfl, R.out, hB⟩
      · have R := Lib.hid (reads_not (not_val4 (l := s.data.toList) (fun e => hq (by rw [HE.out, e, str_data]))))
        have hne := toList_ne hq
        generalize str (dl a) = x at HD hne
        clear HA hq
        go_wp2_with fail
        refine (HD.out _).mono ?_
        rintro e w2 ⟨rfl, hB⟩
        go_wp2
        go_ret
        exact ⟨-1, rfl, R.out, hB⟩
end Go.Proofs.YtapkfajgphkajaaGreatDoor.dc
