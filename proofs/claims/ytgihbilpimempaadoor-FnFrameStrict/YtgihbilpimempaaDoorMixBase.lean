/-
  Contracts of the smallest functions of chapter 1: spec.l6In, spec.RandNext, impl.RandNext.
-/
import Derived.Test.YtgihbilpimempaaDoorRows
import Derived.Test.YtgihbilpimempaaDoorMixPlain
import Derived.WalkKit
import Derived.ProofKit
import Derived.Lib.Hide
namespace Go.Proofs.YtgihbilpimempaaDoor.mb
open Go.ChangeShapes Go.WideShapes Go.ChangeAt Go.RowKit
open Go.Proofs.YtgihbilpimempaaDoor.mp

theorem ret_int {k : IntKind} {a b : Int} (h : a = b) : Ending.returned (.int k a) = .returned (.int k b) := by rw [h]

def inB (n a b : Int) : Bool := decide (a ≤ n ∧ n ≤ b)
theorem inB_t {n a b : Int} (h1 : a ≤ n) (h2 : n ≤ b) : inB n a b = true := by simp [inB, h1, h2]
theorem inB_f {n a b : Int} (h : n < a ∨ b < n) : inB n a b = false := by simp [inB]; omega

theorem in_any (n a b : Int) (w : World) :
    Calls Tryd.prog 23 #[.int .i64 n, .int .i64 a, .int .i64 b] w fun e w' => e = .returned (.bool (inB n a b)) ∧ w = w' := by
  by_cases h1 : a ≤ n
  · by_cases h2 : n ≤ b
    · rw [inB_t h1 h2]
      go_enter Tryd.func23, Tryd.ntmps23
      go_wp2
      go_ret
      exact ⟨rfl, rfl⟩
    · rw [inB_f (.inr (by omega))]
      go_enter Tryd.func23, Tryd.ntmps23
      go_wp2
      go_ret
      exact ⟨rfl, rfl⟩
  · rw [inB_f (.inl (by omega))]
    go_enter Tryd.func23, Tryd.ntmps23
    go_wp2
    go_ret
    exact ⟨rfl, rfl⟩

theorem srnd_any (x : Int) (w : World) :
    Calls Tryd.prog 67 #[.int .i64 x] w fun e w' => e = .returned (.int .i64 (rnd x)) ∧ w = w' := by
  by_cases h0 : 0 ≤ x
  · by_cases h1 : x ≤ 65535
    · have hr := Lib.hid (rnd_in h0 h1)
      go_enter Tryd.func67, Tryd.ntmps67
      go_wp2
      go_ret
      exact ⟨ret_int (by rw [hr.out]; congr 1; omega), rfl⟩
    · have hr := Lib.hid (rnd_out (x := x) (.inr (by omega)))
      go_enter Tryd.func67, Tryd.ntmps67
      go_wp2
      go_ret
      exact ⟨ret_int hr.out.symm, rfl⟩
  · have hr := Lib.hid (rnd_out (x := x) (.inl (by omega)))
    go_enter Tryd.func67, Tryd.ntmps67
    go_wp2
    go_ret
    exact ⟨ret_int hr.out.symm, rfl⟩

theorem sok_any (b n : Int) (w : World) :
    Calls Tryd.prog 66 #[.int .i64 b, .int .i64 n] w fun e w' => e = .returned (.bool (okM b n)) ∧ w = w' := by
  by_cases h : 1 ≤ b ∧ b ≤ 6
  · have hb := inB_t h.1 h.2
    by_cases h2 : 0 ≤ n ∧ n ≤ 999
    · have hn := inB_t h2.1 h2.2
      rw [okM_t h.1 h.2 h2.1 h2.2]
      clear h h2
      go_enter Tryd.func66, Tryd.ntmps66
      go_wp2_with ((go_at_call 23; refine (in_any _ _ _ _).mono ?_; rintro e w' ⟨rfl, rfl⟩))
      go_ret
      exact ⟨rfl, rfl⟩
    · have hn := inB_f (n := n) (a := 0) (b := 999) (by omega)
      rw [okM_f (by omega)]
      clear h h2
      go_enter Tryd.func66, Tryd.ntmps66
      go_wp2_with ((go_at_call 23; refine (in_any _ _ _ _).mono ?_; rintro e w' ⟨rfl, rfl⟩))
      go_ret
      exact ⟨rfl, rfl⟩
  · have hb := inB_f (n := b) (a := 1) (b := 6) (by omega)
    rw [okM_f (by omega)]
    clear h
    go_enter Tryd.func66, Tryd.ntmps66
    go_wp2_with ((go_at_call 23; refine (in_any _ _ _ _).mono ?_; rintro e w' ⟨rfl, rfl⟩))
    go_ret
    exact ⟨rfl, rfl⟩

theorem wt_one {b : Nat} : wt b 1 = 60 / (b : Int) + 10 := by simp [wt]
theorem wt_more {b d : Nat} (h : 2 ≤ d) : wt b d = 60 / ((d : Int) * ((d : Int) - 1)) := by
  unfold wt; rw [if_neg (by omega)]

theorem swt_any (b d : Nat) (b0 : 1 ≤ b) (b1 : b ≤ 6) (d0 : 1 ≤ d) (d1 : d ≤ 6) (w : World) :
    Calls Tryd.prog 70 #[.int .i64 b, .int .i64 d] w fun e w' => e = .returned (.int .i64 (wt b d)) ∧ w = w' := by
  rcases six b0 b1 with rfl | rfl | rfl | rfl | rfl | rfl <;> rcases six d0 d1 with rfl | rfl | rfl | rfl | rfl | rfl
  all_goals
    go_enter Tryd.func70, Tryd.ntmps70
    go_wp2
    go_ret
    exact ⟨ret_int (by decide), rfl⟩

set_option maxHeartbeats 400000 in
theorem smd_any (blocks num : Int) (w : World) :
    Calls Tryd.prog 68 #[.int .i64 blocks, .int .i64 num] w fun e w' => e = .returned (.int .i64 (md blocks num)) ∧ w = w' := by
  cases hok : okM blocks num with
  | false =>
    rw [md_no hok]
    go_enter Tryd.func68, Tryd.ntmps68
    go_wp2_with ((go_at_call 66; refine (sok_any _ _ _).mono ?_; rintro e w' ⟨rfl, rfl⟩))
    go_ret
    exact ⟨rfl, rfl⟩
  | true =>
    obtain ⟨b0, b1, n0, n1⟩ := okM_out hok
    obtain ⟨b, rfl⟩ := Int.eq_ofNat_of_zero_le (show 0 ≤ blocks by omega)
    rw [md_yes hok]
    have pb := ps_bd (b := b) (n := b) (by omega) (by omega) (by omega)
    have pp := ps_pos (b := b) (by omega) (by omega)
    have dd := dr_range (b := b) (by omega) (by omega) num
    by_cases hlt : num < b
    · have HM := Lib.hid (show mdN b num = 1 by unfold mdN; rw [if_pos hlt])
      go_enter Tryd.func68, Tryd.ntmps68
      go_wp2_with ((go_at_call 66; refine (sok_any _ _ _).mono ?_; rintro e w' ⟨rfl, rfl⟩))
      go_ret
      exact ⟨ret_int (by rw [HM.out]; rfl), rfl⟩
    · have HM := Lib.hid (show mdN b num = deg b (b - 1) 1 (dr b num) by unfold mdN; rw [if_neg hlt])
      have r1 := rnd_range (31 * num + b)
      have r2 := rnd_range (rnd (31 * num + b))
      go_enter Tryd.func68, Tryd.ntmps68
      go_wp2_with ((go_at_call 66; refine (sok_any _ _ _).mono ?_; rintro e w' ⟨rfl, rfl⟩))
      go_loop [5, 6] (fun s i => ∃ d : Nat, d ≤ b ∧ i = .int .i64 ((d : Int) + 1) ∧ s = .int .i64 (ps b d)) (fun _ i => (b + 1 : Nat) - (intOf i).toNat)
      case atStart => exact ⟨0, by omega, rfl, rfl⟩
      case round =>
        obtain ⟨d, hd, rfl, rfl⟩ := hrel
        have pd := ps_bd (b := b) (n := d) (by omega) (by omega) (by omega)
        by_cases hdb : d < b
        · have wd := wt_bd (b := b) (d := d + 1) (by omega) (by omega) (by omega) (by omega)
          go_wp2_with ((go_at_call 70; refine (swt_any b (d + 1) (by omega) (by omega) (by omega) (by omega) _).mono ?_; rintro e w' ⟨rfl, rfl⟩))
          go_round
          case rel => exact ⟨d + 1, by omega, by go_num, rfl⟩
          case measure => simp [intOf]; omega
        · obtain rfl : b = d := by omega
          have HD := Lib.hid (show dr b num = rnd (rnd (num * 31 + b)) / 16 % ps b b by unfold dr; rw [show 31 * num + (b : Int) = num * 31 + b by omega])
          have r1 := rnd_range (num * 31 + b)
          have r2 := rnd_range (rnd (num * 31 + b))
          go_wp2_with ((go_at_call 67; refine (srnd_any _ _).mono ?_; rintro e w' ⟨rfl, rfl⟩))
          go_loop [7, 8] (fun x i => ∃ (k : Nat) (X : Int), 1 ≤ k ∧ k ≤ b ∧ i = .int .i64 k ∧ x = .int .i64 X ∧ 0 ≤ X ∧ X ≤ 120 ∧ Hid (deg b (b - 1) 1 (dr b num) = deg b (b - k) k X)) (fun _ i => (b + 1 : Nat) - (intOf i).toNat)
          case atStart => exact ⟨1, _, by omega, by omega, rfl, rfl, by rw [← HD.out]; omega, by rw [← HD.out]; omega, by rw [HD.out]; exact rfl⟩
          case round =>
            obtain ⟨k, X, k0, k1, rfl, rfl, X0, X1, HK⟩ := hrel
            by_cases hkb : k < b
            · have wk := wt_bd (b := b) (d := k) (by omega) (by omega) (by omega) (by omega)
              by_cases hX : X < wt b k
              · have HR := Lib.hid (show (mdN b num : Int) = k by rw [HM.out, HK.out, deg_hit hX])
                go_wp2_with ((go_at_call 70; refine (swt_any b k (by omega) (by omega) (by omega) (by omega) _).mono ?_; rintro e w' ⟨rfl, rfl⟩))
                go_ret
                exact ⟨ret_int HR.out.symm, rfl⟩
              · go_wp2_with ((go_at_call 70; refine (swt_any b k (by omega) (by omega) (by omega) (by omega) _).mono ?_; rintro e w' ⟨rfl, rfl⟩))
                go_round
                case rel => exact ⟨k + 1, _, by omega, by omega, by go_num, rfl, by omega, by omega, by
                  rw [HK.out, show b - k = (b - (k + 1)) + 1 by omega, deg_miss (by omega)]; exact rfl⟩
                case measure => simp [intOf]; omega
            · obtain rfl : b = k := by omega
              have HR := Lib.hid (show (mdN b num : Int) = b by rw [HM.out, HK.out, Nat.sub_self]; rfl)
              go_wp2
              go_ret
              exact ⟨ret_int HR.out.symm, rfl⟩
end Go.Proofs.YtgihbilpimempaaDoor.mb
