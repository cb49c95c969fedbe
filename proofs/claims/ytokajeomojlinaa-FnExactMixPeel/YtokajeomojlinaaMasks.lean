/-
  Contracts of the program's sets of blocks, a bit for each: has, with, minus, single.
-/
import Derived.Test.YtokajeomojlinaaOwn
import Derived.Test.YtokajeomojlinaaPeelPlain
import Derived.Laws.Shifts
import Derived.Laws.ShiftsVarLaws
import Derived.Lib.Tables
import Derived.Lib.BitFns
namespace Go.Proofs.Ytokajeomojlinaa.mk
open Go.ChangeShapes Go.WideShapes Go.ChangeAt Go.RowKit
open Go.Proofs.Ytokajeomojlinaa.cp Go.Proofs.Ytokajeomojlinaa.mp Go.Proofs.Ytokajeomojlinaa.pp Go.Proofs.Ytokajeomojlinaa.ow

/-- a set of the blocks below 6, as the program has it -/
def msk (f : Nat → Bool) : Nat := (f 0).toNat + 2 * (f 1).toNat + 4 * (f 2).toNat + 8 * (f 3).toNat + 16 * (f 4).toNat + 32 * (f 5).toNat
theorem toNat_le (b : Bool) : b.toNat ≤ 1 := by cases b <;> decide
theorem msk_lt (f : Nat → Bool) : msk f < 64 := by
  have h0 := toNat_le (f 0)
  have h1 := toNat_le (f 1)
  have h2 := toNat_le (f 2)
  have h3 := toNat_le (f 3)
  have h4 := toNat_le (f 4)
  have h5 := toNat_le (f 5)
  unfold msk; omega
theorem six0 {b : Nat} (h1 : b < 6) : b = 0 ∨ b = 1 ∨ b = 2 ∨ b = 3 ∨ b = 4 ∨ b = 5 := by omega
theorem msk_bit (f : Nat → Bool) {i : Nat} (h : i < 6) : (msk f).testBit i = f i := by
  unfold msk
  rcases six0 h with rfl | rfl | rfl | rfl | rfl | rfl <;> (cases f 0 <;> cases f 1 <;> cases f 2 <;> cases f 3 <;> cases f 4 <;> cases f 5 <;> rfl)
theorem msk_out (f : Nat → Bool) {i : Nat} (h : 6 ≤ i) : (msk f).testBit i = false :=
  Nat.testBit_lt_two_pow (Nat.lt_of_lt_of_le (msk_lt f) (Nat.pow_le_pow_right (by omega) h : 2 ^ 6 ≤ 2 ^ i))
theorem msk_eq {n : Nat} {f : Nat → Bool} (h : ∀ i, n.testBit i = (decide (i < 6) && f i)) : n = msk f := by
  apply Nat.eq_of_testBit_eq
  intro i
  rw [h]
  by_cases hi : i < 6
  · rw [msk_bit f hi]; simp [hi]
  · rw [msk_out f (by omega)]; simp [hi]
theorem msk_congr {f g : Nat → Bool} (h : ∀ i, i < 6 → f i = g i) : msk f = msk g := by
  unfold msk
  rw [h 0 (by omega), h 1 (by omega), h 2 (by omega), h 3 (by omega), h 4 (by omega), h 5 (by omega)]

theorem has_bit {m b : Nat} (hm : m < 64) : (bits .and .u8 ((m : Int) / 2 ^ b) 1 == 1) = m.testBit b := by
  have hd : m / 2 ^ b < 256 := Nat.lt_of_le_of_lt (Nat.div_le_self _ _) (by omega)
  have e : (m : Int) / 2 ^ b = ((m / 2 ^ b : Nat) : Int) := by simp
  have h1 := u8_and_nat (m / 2 ^ b) 1 hd (by omega)
  rw [e]
  have h2 : bits .and .u8 ((m / 2 ^ b : Nat) : Int) 1 = ((m / 2 ^ b &&& 1 : Nat) : Int) := h1
  rw [h2, Nat.and_one_is_mod, Nat.testBit_eq_decide_div_mod_eq]
  by_cases h : m / 2 ^ b % 2 = 1
  · rw [h]; rfl
  · rw [show m / 2 ^ b % 2 = 0 by omega]; rfl

theorem has_any (f : Nat → Bool) {b : Nat} (hb : b < 6) (w : World) :
    Calls Try.prog 60 #[.int .u8 (msk f : Int), .int .i64 b] w fun e w' => e = .returned (.bool (f b)) ∧ w = w' := by
  have hm := msk_lt f
  have HB := Lib.hid ((has_bit hm).trans (msk_bit f hb))
  generalize msk f = m at hm HB
  go_enter Try.func60, Try.ntmps60
  go_wp2
  go_ret
  exact ⟨by rw [← HB.out]; rfl, rfl⟩

theorem msk_with (f : Nat → Bool) {b : Nat} (hb : b < 6) : msk f ||| 2 ^ b = msk (upd f b) := by
  refine msk_eq fun i => ?_
  rw [Nat.testBit_or, Nat.testBit_two_pow]
  by_cases hi : i < 6
  · rw [msk_bit f hi]
    unfold upd
    by_cases e : i = b
    · subst e; simp [hi]
    · rw [if_neg e]; simp [hi]; intro h; exact absurd h.symm e
  · rw [msk_out f (by omega)]
    simp [hi]; omega

theorem with_bit (f : Nat → Bool) {b : Nat} (hb : b < 6) : bits .or .u8 (msk f : Int) ((2 ^ b : Nat) : Int) = (msk (upd f b) : Int) := by
  have h := msk_lt f
  have h2 : 2 ^ b < 256 := Nat.lt_of_lt_of_le (Nat.pow_lt_pow_right (by omega) hb) (by decide : 2 ^ 6 ≤ 256)
  rw [u8_or_nat _ _ (by omega) h2, msk_with f hb]

theorem with_any (f : Nat → Bool) {b : Nat} (hb : b < 6) (w : World) :
    Calls Try.prog 89 #[.int .u8 (msk f : Int), .int .i64 b] w fun e w' => e = .returned (.int .u8 (msk (upd f b) : Int)) ∧ w = w' := by
  have hm := msk_lt f
  have HB := Lib.hid (with_bit f hb)
  generalize msk f = m at hm HB
  generalize msk (upd f b) = n at HB
  rcases six0 hb with rfl | rfl | rfl | rfl | rfl | rfl
  all_goals
    go_enter Try.func89, Try.ntmps89
    go_wp2
    go_ret
    exact ⟨ret_int HB.out, rfl⟩

theorem msk_minus (f g : Nat → Bool) : msk f &&& (255 - msk g) = msk (mns f g) := by
  refine msk_eq fun i => ?_
  have hg := msk_lt g
  rw [Nat.testBit_and, show 255 - msk g = 2 ^ 8 - (msk g + 1) by omega, Nat.testBit_two_pow_sub_succ (by omega)]
  by_cases hi : i < 6
  · rw [msk_bit f hi, msk_bit g hi]
    unfold mns
    rw [decide_eq_true (show i < 8 by omega)]
    simp [hi]
  · rw [msk_out f (by omega)]
    simp [hi]

theorem minus_any (f g : Nat → Bool) (w : World) :
    Calls Try.prog 85 #[.int .u8 (msk f : Int), .int .u8 (msk g : Int)] w fun e w' => e = .returned (.int .u8 (msk (mns f g) : Int)) ∧ w = w' := by
  have hf := msk_lt f
  have hg := msk_lt g
  have HB := Lib.hid (show bits .andNot .u8 (msk f : Int) (msk g : Int) = (msk (mns f g) : Int) by rw [u8_andNot_nat _ _ (by omega) (by omega), msk_minus])
  generalize msk f = m at hf HB
  generalize msk g = n at hg HB
  generalize msk (mns f g) = k at HB
  go_enter Try.func85, Try.ntmps85
  go_wp2
  go_ret
  exact ⟨ret_int HB.out, rfl⟩

set_option maxRecDepth 100000 in
theorem tz_any (x : Int) (h0 : 0 ≤ x) (h1 : x ≤ 255) (w : World) :
    Calls Try.prog 90 #[.int .u8 x] w fun e w' => e = .returned (.int .i64 (Lib.trailingZeros8 x.toNat)) ∧ w = w' := by
  have HI : Hid (wrap64 (Lib.ntz8 x) = (Lib.trailingZeros8 x.toNat : Int)) := by unfold wrap64; exact Lib.ntz8_int x h0 h1
  go_enter Try.func90, Try.ntmps90
  go_wp2
  go_ret
  exact ⟨ret_int HI.out, rfl⟩
set_option maxRecDepth 100000 in
theorem ones_any (x : Int) (h0 : 0 ≤ x) (h1 : x ≤ 255) (w : World) :
    Calls Try.prog 91 #[.int .u8 x] w fun e w' => e = .returned (.int .i64 (Lib.onesCount x.toNat)) ∧ w = w' := by
  have HI : Hid (wrap64 (Lib.pop8 x) = (Lib.onesCount x.toNat : Int)) := by unfold wrap64; exact Lib.pop8_int x h0 h1
  go_enter Try.func91, Try.ntmps91
  go_wp2
  go_ret
  exact ⟨ret_int HI.out, rfl⟩

/-- a block alone in a set -/
def Alone (f : Nat → Bool) (b : Nat) : Prop := b < 6 ∧ f b = true ∧ ∀ i, i < 6 → f i = true → i = b
theorem tab : ∀ m : Fin 64, (Lib.onesCount m.val = 1 → Lib.trailingZeros8 m.val < 6 ∧ m.val = 2 ^ Lib.trailingZeros8 m.val) := by decide +kernel
theorem tab2 : ∀ b : Fin 6, Lib.onesCount (2 ^ b.val) = 1 ∧ Lib.trailingZeros8 (2 ^ b.val) = b.val := by decide +kernel
theorem alone_of {f : Nat → Bool} (h : Lib.onesCount (msk f) = 1) : Alone f (Lib.trailingZeros8 (msk f)) := by
  obtain ⟨h1, h2⟩ := tab ⟨msk f, msk_lt f⟩ h
  simp only at h1 h2
  generalize Lib.trailingZeros8 (msk f) = b at h1 h2
  refine ⟨h1, ?_, fun i hi hf => ?_⟩
  · rw [← msk_bit f h1, h2, Nat.testBit_two_pow]; simp
  · rw [← msk_bit f hi, h2, Nat.testBit_two_pow] at hf
    simpa [eq_comm] using hf
theorem of_alone {f : Nat → Bool} {b : Nat} (h : Alone f b) : msk f = 2 ^ b := by
  symm
  refine msk_eq fun i => ?_
  rw [Nat.testBit_two_pow]
  by_cases hi : i < 6
  · by_cases e : b = i
    · subst e; simp [hi, h.2.1]
    · have : f i = false := by
        cases hf : f i with
        | false => rfl
        | true => exact absurd (h.2.2 i hi hf).symm e
      simp [e, this]
  · have := h.1
    simp [hi]; omega

def SingleYes (w : World) (b : Nat) (e : Ending) (w' : World) : Prop := e = .returned (.tuple #[.int .i64 b, .bool true]) ∧ w = w'
def SingleNo (w : World) (b : Nat) (e : Ending) (w' : World) : Prop := e = .returned (.tuple #[.int .i64 b, .bool false]) ∧ w = w'

theorem single_yes (f : Nat → Bool) {b : Nat} (h : Alone f b) (w : World) : Calls Try.prog 86 #[.int .u8 (msk f : Int)] w (SingleYes w b) := by
  have hm := msk_lt f
  have hb := h.1
  rw [of_alone h] at hm ⊢
  obtain ⟨k1, k2⟩ := tab2 ⟨b, hb⟩
  have HK1 := Lib.hid (show Lib.onesCount (((2 ^ b : Nat) : Int).toNat) = 1 by rw [Int.toNat_natCast]; exact k1)
  have HK2 := Lib.hid (show Lib.trailingZeros8 (((2 ^ b : Nat) : Int).toNat) = b by rw [Int.toNat_natCast]; exact k2)
  clear k1 k2
  generalize 2 ^ b = m at hm HK1 HK2
  go_enter Try.func86, Try.ntmps86
  go_wp2_with fail
  refine (tz_any _ (by omega) (by omega) _).mono ?_
  rintro e w' ⟨rfl, rfl⟩
  rw [HK2.out]
  go_wp2_with fail
  refine (ones_any _ (by omega) (by omega) _).mono ?_
  rintro e w' ⟨rfl, rfl⟩
  rw [HK1.out]
  go_wp2
  go_ret2
  exact ⟨rfl, rfl⟩

theorem single_no (f : Nat → Bool) (h : ∀ b, ¬ Alone f b) (w : World) : Calls Try.prog 86 #[.int .u8 (msk f : Int)] w (SingleNo w (Lib.trailingZeros8 (msk f : Int).toNat)) := by
  have hm := msk_lt f
  have hn : Lib.onesCount (((msk f : Nat) : Int).toNat) ≠ 1 := fun e => h _ (alone_of (by rwa [Int.toNat_natCast] at e))
  generalize msk f = m at hm hn
  go_enter Try.func86, Try.ntmps86
  go_wp2_with fail
  refine (tz_any _ (by omega) (by omega) _).mono ?_
  rintro e w' ⟨rfl, rfl⟩
  generalize hz : Lib.trailingZeros8 (m : Int).toNat = z
  have HZ := Lib.hid hz
  clear hz
  go_wp2_with fail
  refine (ones_any _ (by omega) (by omega) _).mono ?_
  rintro e w' ⟨rfl, rfl⟩
  generalize Lib.onesCount (m : Int).toNat = c at hn
  have hd : ((c : Int) == 1) = false := by rw [beq_eq_false_iff_ne]; omega
  clear hn
  go_wp2
  go_ret2
  exact ⟨by rw [HZ.out]; rfl, rfl⟩
end Go.Proofs.Ytokajeomojlinaa.mk
