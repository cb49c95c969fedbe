/-
  Contracts of both NoteNext: one function of two numbers.
-/
import Derived.Test.YtgihbilpimempabLim
import Derived.Below
namespace Go.Proofs.Ytgihbilpimempab.nx
open Go.ChangeShapes Go.WideShapes Go.ChangeAt Go.RowKit
open Go.Proofs.Ytgihbilpimempab.nb Go.Proofs.Ytgihbilpimempab.li

def nxt (a t : Int) : Int := if a = t ∨ a < 0 ∨ 3 < a ∨ t < 0 ∨ 3 < t then -1 else if a < t then a + 1 else a - 1
theorem nxt_no {a t : Int} (h : a = t ∨ a < 0 ∨ 3 < a ∨ t < 0 ∨ 3 < t) : nxt a t = -1 := if_pos h
theorem nxt_up {a t : Int} (h0 : 0 ≤ a) (h : a < t) (h1 : t ≤ 3) : nxt a t = a + 1 := by unfold nxt; rw [if_neg (by omega), if_pos h]
theorem nxt_down {a t : Int} (h0 : 0 ≤ t) (h : t < a) (h1 : a ≤ 3) : nxt a t = a - 1 := by unfold nxt; rw [if_neg (by omega), if_neg (by omega)]

def cmpI (x y : Int) : Int := if x < y then -1 else if y < x then 1 else 0
theorem cmpI_lt {x y : Int} (h : x < y) : cmpI x y = -1 := if_pos h
theorem cmpI_gt {x y : Int} (h : y < x) : cmpI x y = 1 := by unfold cmpI; rw [if_neg (by omega), if_pos h]
theorem cmpI_eq {x y : Int} (h : x = y) : cmpI x y = 0 := by unfold cmpI; rw [if_neg (by omega), if_neg (by omega)]

theorem nan_any (x : Int) (w : World) :
    Calls Try.prog 68 #[.int .i64 x] w fun e w' => e = .returned (.bool false) ∧ w = w' := by
  go_enter Try.func68, Try.ntmps68
  go_wp2
  go_ret
  exact ⟨rfl, rfl⟩

theorem cmp_any (x y : Int) (w : World) :
    Calls Try.prog 64 #[.int .i64 x, .int .i64 y] w fun e w' => e = .returned (.int .i64 (cmpI x y)) ∧ w = w' := by
  rcases Int.lt_trichotomy x y with h | h | h
  · have hr := Lib.hid (cmpI_lt h)
    go_enter Try.func64, Try.ntmps64
    go_wp2_with ((go_at_call 68; refine (nan_any _ _).mono ?_; rintro e w' ⟨rfl, rfl⟩))
    go_ret
    exact ⟨ret_int hr.out.symm, rfl⟩
  · subst h
    have hr := Lib.hid (cmpI_eq (x := x) rfl)
    go_enter Try.func64, Try.ntmps64
    go_wp2_with ((go_at_call 68; refine (nan_any _ _).mono ?_; rintro e w' ⟨rfl, rfl⟩))
    go_ret
    exact ⟨ret_int hr.out.symm, rfl⟩
  · have hr := Lib.hid (cmpI_gt h)
    have h2 : ¬ x < y := by omega
    go_enter Try.func64, Try.ntmps64
    go_wp2_with ((go_at_call 68; refine (nan_any _ _).mono ?_; rintro e w' ⟨rfl, rfl⟩))
    go_ret
    exact ⟨ret_int hr.out.symm, rfl⟩

end Go.Proofs.Ytgihbilpimempab.nx
