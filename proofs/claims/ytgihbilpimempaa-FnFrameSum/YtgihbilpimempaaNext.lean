/-
  Contracts of both NoteNext: one function of two numbers.
-/
import Derived.Test.YtgihbilpimempaaLim
import Derived.Below
namespace Go.Proofs.Ytgihbilpimempaa.nx
open Go.ChangeShapes Go.WideShapes Go.ChangeAt Go.RowKit
open Go.Proofs.Ytgihbilpimempaa.nb Go.Proofs.Ytgihbilpimempaa.li

def nxt (a t : Int) : Int := if a = t ∨ a < 0 ∨ 3 < a ∨ t < 0 ∨ 3 < t then -1 else if a < t then a + 1 else a - 1
theorem nxt_no {a t : Int} (h : a = t ∨ a < 0 ∨ 3 < a ∨ t < 0 ∨ 3 < t) : nxt a t = -1 := if_pos h
theorem nxt_up {a t : Int} (h0 : 0 ≤ a) (h : a < t) (h1 : t ≤ 3) : nxt a t = a + 1 := by unfold nxt; rw [if_neg (by omega), if_pos h]
theorem nxt_down {a t : Int} (h0 : 0 ≤ t) (h : t < a) (h1 : a ≤ 3) : nxt a t = a - 1 := by unfold nxt; rw [if_neg (by omega), if_neg (by omega)]

theorem snext_any (a t : Int) (w : World) :
    Calls Try.prog 33 #[.int .i64 a, .int .i64 t] w fun e w' => e = .returned (.int .i64 (nxt a t)) ∧ w = w' := by
  by_cases h1 : 0 ≤ a ∧ a ≤ 3
  · have k1 := inB_t h1.1 h1.2
    by_cases h2 : 0 ≤ t ∧ t ≤ 3
    · have k2 := inB_t h2.1 h2.2
      rcases Int.lt_trichotomy a t with h | h | h
      · have hr := Lib.hid (nxt_up h1.1 h h2.2)
        obtain ⟨a0, a1⟩ := h1
        obtain ⟨t0, t1⟩ := h2
        go_enter Try.func33, Try.ntmps33
        go_wp2_with ((go_at_call 32; refine (keeper_any _ _).mono ?_; rintro e w' ⟨rfl, rfl⟩))
        go_ret
        exact ⟨ret_int hr.out.symm, rfl⟩
      · subst h
        have hr := Lib.hid (nxt_no (a := a) (t := a) (.inl rfl))
        clear h1 h2
        go_enter Try.func33, Try.ntmps33
        go_wp2_with ((go_at_call 32; refine (keeper_any _ _).mono ?_; rintro e w' ⟨rfl, rfl⟩))
        go_ret
        exact ⟨ret_int hr.out.symm, rfl⟩
      · have hr := Lib.hid (nxt_down h2.1 h h1.2)
        obtain ⟨a0, a1⟩ := h1
        obtain ⟨t0, t1⟩ := h2
        go_enter Try.func33, Try.ntmps33
        go_wp2_with ((go_at_call 32; refine (keeper_any _ _).mono ?_; rintro e w' ⟨rfl, rfl⟩))
        go_ret
        exact ⟨ret_int hr.out.symm, rfl⟩
    · have k2 := inB_f (n := t) (a := 0) (b := 3) (by omega)
      have hr := Lib.hid (nxt_no (a := a) (t := t) (by omega))
      clear h1 h2
      go_enter Try.func33, Try.ntmps33
      go_wp2_with ((go_at_call 32; refine (keeper_any _ _).mono ?_; rintro e w' ⟨rfl, rfl⟩))
      go_ret
      exact ⟨ret_int hr.out.symm, rfl⟩
  · have k1 := inB_f (n := a) (a := 0) (b := 3) (by omega)
    have hr := Lib.hid (nxt_no (a := a) (t := t) (by omega))
    clear h1
    go_enter Try.func33, Try.ntmps33
    go_wp2_with ((go_at_call 32; refine (keeper_any _ _).mono ?_; rintro e w' ⟨rfl, rfl⟩))
    go_ret
    exact ⟨ret_int hr.out.symm, rfl⟩

def cmpI (x y : Int) : Int := if x < y then -1 else if y < x then 1 else 0
theorem cmpI_lt {x y : Int} (h : x < y) : cmpI x y = -1 := if_pos h
theorem cmpI_gt {x y : Int} (h : y < x) : cmpI x y = 1 := by unfold cmpI; rw [if_neg (by omega), if_pos h]
theorem cmpI_eq {x y : Int} (h : x = y) : cmpI x y = 0 := by unfold cmpI; rw [if_neg (by omega), if_neg (by omega)]

theorem nan_any (x : Int) (w : World) :
    Calls Try.prog 49 #[.int .i64 x] w fun e w' => e = .returned (.bool false) ∧ w = w' := by
  go_enter Try.func49, Try.ntmps49
  go_wp2
  go_ret
  exact ⟨rfl, rfl⟩

theorem cmp_any (x y : Int) (w : World) :
    Calls Try.prog 36 #[.int .i64 x, .int .i64 y] w fun e w' => e = .returned (.int .i64 (cmpI x y)) ∧ w = w' := by
  rcases Int.lt_trichotomy x y with h | h | h
  · have hr := Lib.hid (cmpI_lt h)
    go_enter Try.func36, Try.ntmps36
    go_wp2_with ((go_at_call 49; refine (nan_any _ _).mono ?_; rintro e w' ⟨rfl, rfl⟩))
    go_ret
    exact ⟨ret_int hr.out.symm, rfl⟩
  · subst h
    have hr := Lib.hid (cmpI_eq (x := x) rfl)
    go_enter Try.func36, Try.ntmps36
    go_wp2_with ((go_at_call 49; refine (nan_any _ _).mono ?_; rintro e w' ⟨rfl, rfl⟩))
    go_ret
    exact ⟨ret_int hr.out.symm, rfl⟩
  · have hr := Lib.hid (cmpI_gt h)
    have h2 : ¬ x < y := by omega
    go_enter Try.func36, Try.ntmps36
    go_wp2_with ((go_at_call 49; refine (nan_any _ _).mono ?_; rintro e w' ⟨rfl, rfl⟩))
    go_ret
    exact ⟨ret_int hr.out.symm, rfl⟩

theorem inext_any (a t : Int) (w : World) :
    Calls Try.prog 15 #[.int .i64 a, .int .i64 t] w fun e w' => e = .returned (.int .i64 (nxt a t)) ∧ Below w.heap.size w w' := by
  by_cases h : a = t
  · subst h
    have hr := Lib.hid (nxt_no (a := a) (t := a) (.inl rfl))
    go_enter Try.func15, Try.ntmps15
    go_wp2_with fail
    go_ret
    exact ⟨ret_int hr.out.symm, Below.refl _ _⟩
  have hne : (a == t) = false := by simpa using h
  by_cases h1 : 0 ≤ a ∧ a ≤ 3
  · have k1 := inB_t h1.1 h1.2
    by_cases h2 : 0 ≤ t ∧ t ≤ 3
    · have k2 := inB_t h2.1 h2.2
      obtain ⟨a0, a1⟩ := h1
      obtain ⟨t0, t1⟩ := h2
      have hr : nxt a t = a + cmpI t a ∧ -1 ≤ cmpI t a ∧ cmpI t a ≤ 1 := by
        rcases Int.lt_trichotomy a t with h' | h' | h'
        · rw [nxt_up a0 h' t1, cmpI_gt h']; omega
        · exact absurd h' h
        · rw [nxt_down t0 h' a1, cmpI_lt h']; omega
      obtain ⟨hr, c0, c1⟩ := hr
      have HR := Lib.hid hr
      clear hr h
      go_enter Try.func15, Try.ntmps15
      go_wp2_with fail
      refine (limited_any _ _).mono ?_
      rintro e w1 ⟨rfl, b1⟩
      go_wp2_with fail
      refine (outside_any _ _ _ _).mono ?_
      rintro e w2 ⟨rfl, b2⟩
      go_wp2_with fail
      refine (limited_any _ _).mono ?_
      rintro e w3 ⟨rfl, b3⟩
      go_wp2_with fail
      refine (outside_any _ _ _ _).mono ?_
      rintro e w4 ⟨rfl, b4⟩
      go_wp2_with fail
      refine (cmp_any _ _ _).mono ?_
      rintro e w' ⟨rfl, rfl⟩
      go_wp2
      go_ret
      exact ⟨ret_int HR.out.symm, (b1.trans (b2.mono b1.size)).trans ((b3.trans (b4.mono b3.size)).mono (Nat.le_trans b1.size b2.size))⟩
    · have k2 := inB_f (n := t) (a := 0) (b := 3) (by omega)
      have hr := Lib.hid (nxt_no (a := a) (t := t) (by omega))
      clear h h1 h2
      go_enter Try.func15, Try.ntmps15
      go_wp2_with fail
      refine (limited_any _ _).mono ?_
      rintro e w1 ⟨rfl, b1⟩
      go_wp2_with fail
      refine (outside_any _ _ _ _).mono ?_
      rintro e w2 ⟨rfl, b2⟩
      go_wp2_with fail
      refine (limited_any _ _).mono ?_
      rintro e w3 ⟨rfl, b3⟩
      go_wp2_with fail
      refine (outside_any _ _ _ _).mono ?_
      rintro e w4 ⟨rfl, b4⟩
      go_wp2
      go_ret
      exact ⟨ret_int hr.out.symm, (b1.trans (b2.mono b1.size)).trans ((b3.trans (b4.mono b3.size)).mono (Nat.le_trans b1.size b2.size))⟩
  · have k1 := inB_f (n := a) (a := 0) (b := 3) (by omega)
    have hr := Lib.hid (nxt_no (a := a) (t := t) (by omega))
    clear h h1
    go_enter Try.func15, Try.ntmps15
    go_wp2_with fail
    refine (limited_any _ _).mono ?_
    rintro e w1 ⟨rfl, b1⟩
    go_wp2_with fail
    refine (outside_any _ _ _ _).mono ?_
    rintro e w2 ⟨rfl, b2⟩
    go_wp2
    go_ret
    exact ⟨ret_int hr.out.symm, b1.trans (b2.mono b1.size)⟩
end Go.Proofs.Ytgihbilpimempaa.nx
