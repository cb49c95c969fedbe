/-
  Contract of spec.l3Dec: a numeral's value, where the string is the numeral of a number up to 999.
-/
import Derived.Test.YtekoghcgkmldgaaDoorDec
import Derived.Test.YtekoghcgkmldgaaDoorReadPlain
namespace Go.Proofs.YtekoghcgkmldgaaDoor.dc
open Go.ChangeShapes Go.WideShapes Go.ChangeAt Go.RowKit
open Go.Proofs.YtekoghcgkmldgaaDoor.nb Go.Proofs.YtekoghcgkmldgaaDoor.ok Go.Proofs.YtekoghcgkmldgaaDoor.wd

/-- v is what s spells, if s is the numeral of a number up to 999 -/
def Spells (l : List UInt8) (v : Int) : Prop := ∀ m : Int, 0 ≤ m → m ≤ 999 → l = dl m → v = m
def SpellPost (w : World) (l : List UInt8) (e : Ending) (w' : World) : Prop := ∃ v : Int, e = .returned (.int .i64 v) ∧ Spells l v ∧ Below w.heap.size w w'

theorem spells_not {l : List UInt8} {v : Int} (h : ∀ m : Int, 0 ≤ m → m ≤ 999 → l ≠ dl m) : Spells l v := fun m h0 h1 e => absurd e (h m h0 h1)
theorem not_len {l : List UInt8} (h : l.length < 1 ∨ 4 < l.length) : ∀ m : Int, 0 ≤ m → m ≤ 999 → l ≠ dl m := fun m _ h1 e => by
  have := dl_len h1
  rw [← e] at this
  omega
theorem not_digit {l : List UInt8} {c : UInt8} (hm : c ∈ l) (h : dg c = false) : ∀ m : Int, 0 ≤ m → m ≤ 999 → l ≠ dl m := fun m _ _ e => by
  have := List.all_eq_true.1 (dl_all m) c (e ▸ hm)
  rw [h] at this
  cases this
theorem spells_val {l : List UInt8} : Spells l (val 0 l : Int) := fun m h0 _ e => by
  rw [e]
  unfold dl
  rw [dd_val]
  omega
theorem not_val {l : List UInt8} (h : dl (val 0 l : Int) ≠ l) : ∀ m : Int, 0 ≤ m → m ≤ 999 → l ≠ dl m := fun m h0 h1 e => by
  have := spells_val m h0 h1 e
  rw [this] at h
  exact h e.symm

set_option maxHeartbeats 1000000 in
theorem dec3_any (s : ByteArray) (hs : s.size ≤ 1048576) (w : World) :
    Calls Tryd.prog 42 #[.string s] w (SpellPost w s.data.toList) := by
  by_cases h0 : s.size < 1
  · have R := Lib.hid (spells_not (v := -1) (not_len (l := s.data.toList) (.inl (by rw [← Lib.size_eq]; exact h0))))
    have h0' : (s.size : Int) < 1 := by omega
    go_enter Tryd.func42, Tryd.ntmps42
    go_wp2_with fail
    go_ret
    exact ⟨-1, rfl, R.out, Below.refl _ _⟩
  by_cases h1 : 4 < s.size
  · have R := Lib.hid (spells_not (v := -1) (not_len (l := s.data.toList) (.inr (by rw [← Lib.size_eq]; exact h1))))
    have h0' : ¬ (s.size : Int) < 1 := by omega
    have h1' : 4 < (s.size : Int) := by omega
    go_enter Tryd.func42, Tryd.ntmps42
    go_wp2_with fail
    go_ret
    exact ⟨-1, rfl, R.out, Below.refl _ _⟩
  have h0' : ¬ (s.size : Int) < 1 := by omega
  have h1' : ¬ 4 < (s.size : Int) := by omega
  go_enter Tryd.func42, Tryd.ntmps42
  go_wp2_with fail
  go_loop [3, 4] (fun x i => ∃ (k : Nat) (a : Int), k ≤ s.size ∧ i = .int .i64 k ∧ x = .int .i64 a ∧ 0 ≤ a ∧ a ≤ 9999 ∧ Hid (a = (val 0 (s.data.toList.take k) : Int) ∧ (s.data.toList.take k).all dg = true)) (fun _ i => s.size - (intOf i).toNat)
  case atStart => exact ⟨0, 0, by omega, rfl, rfl, by omega, by omega, rfl, rfl⟩
  case round =>
    obtain ⟨k, a, hk, rfl, rfl, a0, a1, HA⟩ := hrel
    by_cases hlt : k < s.size
    · have HM := Lib.hid (show s[k] ∈ s.data.toList from by show s.data[k] ∈ s.data.toList; simp)
      by_cases d0 : (s[k].toNat : Int) < 48
      · have R := Lib.hid (spells_not (v := -1) (not_digit HM.out (decide_eq_false (by omega))))
        go_wp2
        go_ret
        exact ⟨-1, rfl, R.out, Below.refl _ _⟩
      by_cases d1 : 57 < (s[k].toNat : Int)
      · have R := Lib.hid (spells_not (v := -1) (not_digit HM.out (decide_eq_false (by omega))))
        go_wp2
        go_ret
        exact ⟨-1, rfl, R.out, Below.refl _ _⟩
      have HS : Hid (a * 10 + ((s[k].toNat : Int) - 48) = (val 0 (s.data.toList.take (k + 1)) : Int) ∧ (s.data.toList.take (k + 1)).all dg = true) := by
        obtain ⟨e1, e2⟩ := HA.out
        have hd : dg s[k] = true := decide_eq_true (by omega)
        rw [ok.take_snoc s k hlt, val_snoc, List.all_append, e2]
        refine ⟨by rw [e1]; omega, by simp [hd]⟩
      have hb : a * 10 + ((s[k].toNat : Int) - 48) ≤ 9999 := by
        obtain ⟨e1, e2⟩ := HS.out
        have hv := val_lt _ e2
        have hp : 10 ^ (s.data.toList.take (k + 1)).length ≤ 10 ^ 4 := Nat.pow_le_pow_right (by omega) (by rw [List.length_take]; omega)
        rw [e1]
        have : (10 : Nat) ^ 4 = 10000 := by decide
        omega
      go_wp2
      go_round
      case rel => exact ⟨k + 1, _, by omega, by go_num, rfl, by omega, hb, HS⟩
      case measure => simp [intOf]; omega
    · have HE : Hid (a = (val 0 s.data.toList : Int)) := by
        have := HA.out.1
        rwa [List.take_of_length_le (by rw [← Lib.size_eq]; omega)] at this
      have HD := Lib.hid (fun W => dec_any a a0 a1 W)
      by_cases hq : str (dl a) = s
      · have R := Lib.hid (show Spells s.data.toList a by rw [HE.out]; exact spells_val)
        rw [hq] at HD
        clear HA
        go_wp2_with fail
        refine (HD.out _).mono ?_
        rintro e w2 ⟨rfl, hB⟩
        go_wp2
        go_ret
        exact ⟨a, rfl, R.out, hB⟩
      · have R := Lib.hid (spells_not (v := -1) (not_val (l := s.data.toList) (fun e => hq (by rw [HE.out, e, str_data]))))
        have hne := toList_ne hq
        generalize str (dl a) = x at HD hne
        clear HA hq
        go_wp2_with fail
        refine (HD.out _).mono ?_
        rintro e w2 ⟨rfl, hB⟩
        go_wp2
        go_ret
        exact ⟨-1, rfl, R.out, hB⟩
end Go.Proofs.YtekoghcgkmldgaaDoor.dc
