/-
  Contract of spec.NoteOk.
-/
import Derived.Test.YtgihbilpimempabOkPlain
import Derived.Below
namespace Go.Proofs.Ytgihbilpimempab.ok
open Go.ChangeShapes Go.WideShapes Go.ChangeAt Go.RowKit
open Go.Proofs.Ytgihbilpimempab.nb

def BoolPost (w : World) (b : Bool) (e : Ending) (w' : World) : Prop := e = .returned (.bool b) ∧ Below w.heap.size w w'

theorem sok_f (f n t u : Int) (s : ByteArray) (w : World) (hs : s.size ≤ maxLen)
    (h : inB f 0 3 = false ∨ inB t 0 3 = false ∨ inB n 1 99 = false ∨ inB u 1 999 = false ∨ okS s = false) :
    Calls Try.prog 51 #[note f n t u s] w (BoolPost w false) := by
  unfold note
  unfold maxLen at hs
  cases k1 : inB f 0 3 with
  | false =>
    clear h
    go_enter Try.func51, Try.ntmps51
    go_wp2_with (first | (go_at_call 20; refine (keeper_any _ _).mono ?_; rintro e w' ⟨rfl, rfl⟩) | (go_at_call 31; refine (in_any _ _ _ _).mono ?_; rintro e w' ⟨rfl, rfl⟩))
    go_ret
    exact ⟨rfl, (Below.refl _ _).alloc (Nat.le_refl _) _⟩
  | true =>
  cases k2 : inB t 0 3 with
  | false =>
    clear h
    go_enter Try.func51, Try.ntmps51
    go_wp2_with (first | (go_at_call 20; refine (keeper_any _ _).mono ?_; rintro e w' ⟨rfl, rfl⟩) | (go_at_call 31; refine (in_any _ _ _ _).mono ?_; rintro e w' ⟨rfl, rfl⟩))
    go_ret
    exact ⟨rfl, (Below.refl _ _).alloc (Nat.le_refl _) _⟩
  | true =>
  cases k3 : inB n 1 99 with
  | false =>
    clear h
    go_enter Try.func51, Try.ntmps51
    go_wp2_with (first | (go_at_call 20; refine (keeper_any _ _).mono ?_; rintro e w' ⟨rfl, rfl⟩) | (go_at_call 31; refine (in_any _ _ _ _).mono ?_; rintro e w' ⟨rfl, rfl⟩))
    go_ret
    exact ⟨rfl, (Below.refl _ _).alloc (Nat.le_refl _) _⟩
  | true =>
  cases k4 : inB u 1 999 with
  | false =>
    clear h
    go_enter Try.func51, Try.ntmps51
    go_wp2_with (first | (go_at_call 20; refine (keeper_any _ _).mono ?_; rintro e w' ⟨rfl, rfl⟩) | (go_at_call 31; refine (in_any _ _ _ _).mono ?_; rintro e w' ⟨rfl, rfl⟩))
    go_ret
    exact ⟨rfl, (Below.refl _ _).alloc (Nat.le_refl _) _⟩
  | true =>
  by_cases k5 : s.size < 1
  · have k5' : (s.size : Int) < 1 := by omega
    clear h
    go_enter Try.func51, Try.ntmps51
    go_wp2_with (first | (go_at_call 20; refine (keeper_any _ _).mono ?_; rintro e w' ⟨rfl, rfl⟩) | (go_at_call 31; refine (in_any _ _ _ _).mono ?_; rintro e w' ⟨rfl, rfl⟩))
    go_ret
    exact ⟨rfl, (Below.refl _ _).alloc (Nat.le_refl _) _⟩
  by_cases k6 : 24 < s.size
  · have k5' : ¬ (s.size : Int) < 1 := by omega
    have k6' : 24 < (s.size : Int) := by omega
    clear h
    go_enter Try.func51, Try.ntmps51
    go_wp2_with (first | (go_at_call 20; refine (keeper_any _ _).mono ?_; rintro e w' ⟨rfl, rfl⟩) | (go_at_call 31; refine (in_any _ _ _ _).mono ?_; rintro e w' ⟨rfl, rfl⟩))
    go_ret
    exact ⟨rfl, (Below.refl _ _).alloc (Nat.le_refl _) _⟩
  · exfalso
    rw [k1, k2, k3, k4, okS_t (by omega) (by omega)] at h
    simp at h

theorem sok_t (f n t u : Int) (s : ByteArray) (w : World)
    (k1 : inB f 0 3 = true) (k2 : inB t 0 3 = true) (k3 : inB n 1 99 = true) (k4 : inB u 1 999 = true) (k5 : 1 ≤ s.size) (k6 : s.size ≤ 24) :
    Calls Try.prog 51 #[note f n t u s] w (BoolPost w (allPr s)) := by
  unfold note
  have k7 : ¬ (s.size : Int) < 1 := by omega
  have k8 : ¬ 24 < (s.size : Int) := by omega
  go_enter Try.func51, Try.ntmps51
  go_wp2_with (first | (go_at_call 20; refine (keeper_any _ _).mono ?_; rintro e w' ⟨rfl, rfl⟩) | (go_at_call 31; refine (in_any _ _ _ _).mono ?_; rintro e w' ⟨rfl, rfl⟩))
  go_loop [3] (fun i => ∃ k : Nat, k ≤ s.size ∧ i = .int .i64 k ∧ Hid ((s.data.toList.take k).all pr = true)) (fun i => s.size - (intOf i).toNat)
  case atStart => exact ⟨0, by omega, rfl, rfl⟩
  case round =>
    obtain ⟨k, hk, rfl, HA⟩ := hrel
    by_cases hlt : k < s.size
    · by_cases p0 : 32 ≤ (s[k].toNat : Int)
      · by_cases p1 : (s[k].toNat : Int) ≤ 126
        · have R := Lib.hid (all_more hlt HA.out (pr_t p0 p1))
          go_wp2
          go_round
          case rel => exact ⟨k + 1, by omega, by go_num, R⟩
          case measure => simp [intOf]; omega
        · have R := Lib.hid (all_not hlt (pr_f (.inr (by omega))))
          go_wp2
          go_ret
          exact ⟨ret_bool R.out.symm, (Below.refl _ _).alloc (Nat.le_refl _) _⟩
      · have R := Lib.hid (all_not hlt (pr_f (.inl (by omega))))
        go_wp2
        go_ret
        exact ⟨ret_bool R.out.symm, (Below.refl _ _).alloc (Nat.le_refl _) _⟩
    · have R := Lib.hid (all_whole (by omega) HA.out)
      go_wp2
      go_ret
      exact ⟨ret_bool R.out.symm, (Below.refl _ _).alloc (Nat.le_refl _) _⟩

theorem sok_any (f n t u : Int) (s : ByteArray) (w : World) (hs : s.size ≤ maxLen) :
    Calls Try.prog 51 #[note f n t u s] w (BoolPost w (okN f n t u s)) := by
  by_cases h : inB f 0 3 = false ∨ inB t 0 3 = false ∨ inB n 1 99 = false ∨ inB u 1 999 = false ∨ okS s = false
  · rw [okN_f h]; exact sok_f f n t u s w hs h
  · simp only [not_or, Bool.not_eq_false] at h
    obtain ⟨h1, h2, h3, h4, h5⟩ := h
    rw [okN_t h1 h2 h3 h4 h5]
    have := of_decide_eq_true h5
    exact sok_t f n t u s w h1 h2 h3 h4 this.1 this.2
end Go.Proofs.Ytgihbilpimempab.ok
