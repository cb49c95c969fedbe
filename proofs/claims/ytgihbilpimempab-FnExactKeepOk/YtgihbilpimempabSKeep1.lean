/-
  Contracts of spec.l12Less, l12Way, l12Held, l12Mark.
-/
import Derived.Test.YtgihbilpimempabKeepRec
import Derived.Test.YtgihbilpimempabKeepPlain2
import Derived.Test.YtgihbilpimempabSOk
namespace Go.Proofs.Ytgihbilpimempab.kp
open Go.ChangeShapes Go.WideShapes Go.ChangeAt Go.RowKit
open Go.Proofs.Ytgihbilpimempab.wd Go.Proofs.Ytgihbilpimempab.ow Go.Proofs.Ytgihbilpimempab.rl Go.Proofs.Ytgihbilpimempab.ok Go.Proofs.Ytgihbilpimempab.nb

def IsB (w : World) (b : Bool) (e : Ending) (w' : World) : Prop := e = .returned (.bool b) ∧ w = w'
def IsI (w : World) (n : Int) (e : Ending) (w' : World) : Prop := e = .returned (.int .i64 n) ∧ w = w'
def BoolK (w : World) (b : Bool) (e : Ending) (w' : World) : Prop := e = .returned (.bool b) ∧ Below w.heap.size w w'

theorem less_t {f n f' n' : Int} (h : f < f' ∨ f = f' ∧ n < n') : less f n f' n' = true := decide_eq_true h
theorem less_f {f n f' n' : Int} (h : ¬ (f < f' ∨ f = f' ∧ n < n')) : less f n f' n' = false := decide_eq_false h
theorem less_any (f n f' n' : Int) (w : World) : Calls Try.prog 52 #[.int .i64 f, .int .i64 n, .int .i64 f', .int .i64 n'] w (IsB w (less f n f' n')) := by
  by_cases h1 : f < f'
  · rw [less_t (.inl h1)]
    go_enter Try.func52, Try.ntmps52
    go_wp2
    go_ret
    exact ⟨rfl, rfl⟩
  by_cases h2 : f = f'
  · subst h2
    by_cases h3 : n < n'
    · rw [less_t (.inr ⟨rfl, h3⟩)]
      go_enter Try.func52, Try.ntmps52
      go_wp2
      go_ret
      exact ⟨rfl, rfl⟩
    · rw [less_f (by omega)]
      go_enter Try.func52, Try.ntmps52
      go_wp2
      go_ret
      exact ⟨rfl, rfl⟩
  · have k2 : (f == f') = false := by simpa using h2
    rw [less_f (by omega)]
    go_enter Try.func52, Try.ntmps52
    go_wp2
    go_ret
    exact ⟨rfl, rfl⟩

theorem way_t {x : Nt} {id : Int} (h : x.f ≤ id ∧ id < x.t ∨ x.t < id ∧ id ≤ x.f) : way x id = true := decide_eq_true h
theorem way_f {x : Nt} {id : Int} (h : ¬ (x.f ≤ id ∧ id < x.t ∨ x.t < id ∧ id ≤ x.f)) : way x id = false := decide_eq_false h
theorem way_any (x : Nt) (id : Int) (w : World) : Calls Try.prog 34 #[ntV x, .int .i64 id] w (BoolK w (way x id)) := by
  unfold ntV note
  by_cases h1 : x.f ≤ id
  · by_cases h2 : id < x.t
    · rw [way_t (.inl ⟨h1, h2⟩)]
      go_enter Try.func34, Try.ntmps34
      go_wp2
      go_ret
      exact ⟨rfl, (Below.refl _ _).alloc (Nat.le_refl _) _⟩
    · by_cases h3 : x.t < id
      · by_cases h4 : id ≤ x.f
        · rw [way_t (.inr ⟨h3, h4⟩)]
          go_enter Try.func34, Try.ntmps34
          go_wp2
          go_ret
          exact ⟨rfl, (Below.refl _ _).alloc (Nat.le_refl _) _⟩
        · rw [way_f (by omega)]
          go_enter Try.func34, Try.ntmps34
          go_wp2
          go_ret
          exact ⟨rfl, (Below.refl _ _).alloc (Nat.le_refl _) _⟩
      · rw [way_f (by omega)]
        go_enter Try.func34, Try.ntmps34
        go_wp2
        go_ret
        exact ⟨rfl, (Below.refl _ _).alloc (Nat.le_refl _) _⟩
  · by_cases h3 : x.t < id
    · have h4 : id ≤ x.f := by omega
      rw [way_t (.inr ⟨h3, h4⟩)]
      go_enter Try.func34, Try.ntmps34
      go_wp2
      go_ret
      exact ⟨rfl, (Below.refl _ _).alloc (Nat.le_refl _) _⟩
    · rw [way_f (by omega)]
      go_enter Try.func34, Try.ntmps34
      go_wp2
      go_ret
      exact ⟨rfl, (Below.refl _ _).alloc (Nat.le_refl _) _⟩

set_option maxRecDepth 100000 in
set_option maxHeartbeats 800000 in
theorem ixM_any (w : World) (v : Value) (l : List Mk) (f n : Int) (h : SeesMk w v l) (hl : l.length ≤ 1048576) : Calls Try.prog 35 #[v, .int .i64 f, .int .i64 n] w (IsI w (ixM l f n)) := by
  have HS := Lib.hid h
  obtain ⟨A, c, rfl, _⟩ := h
  go_enter Try.func35, Try.ntmps35
  go_wp2
  go_loop [7] (fun i => ∃ k : Nat, k ≤ l.length ∧ i = .int .i64 k ∧ Hid ((l.take k).any (fun x => x.f == f && x.n == n) = false)) (fun i => (l.length + 1 : Nat) - (intOf i).toNat)
  case atStart => exact ⟨0, by omega, rfl, rfl⟩
  case round =>
    obtain ⟨k, hk, rfl, HN⟩ := hrel
    by_cases hkl : k < l.length
    · have hx : l[k]? = some l[k] := List.getElem?_eq_getElem hkl
      have hc := mark_at HS.out hx
      generalize l[k] = y at hx hc
      obtain ⟨g, c', e, hg, _, t0, t1, _⟩ := hc
      injection e with e1 e2 e3
      subst e1; subst e3
      have hk1 : (k : Int) < (l.length : Int) := by omega
      by_cases h1 : y.f = f
      · by_cases h2 : y.n = n
        · have HR := Lib.hid (ixM_at HN.out hx (by rw [h1, h2]; simp))
          have k1 : (y.f == f) = true := by simpa using h1
          have k2 : (y.n == n) = true := by simpa using h2
          clear hx h1 h2
          generalize y.f = yf at t0 k1
          generalize y.n = yn at t1 k2
          go_wp2
          go_ret
          exact ⟨ow.ret_int HR.out.symm, rfl⟩
        · have HR := Lib.hid (none_on HN.out hx (show (y.f == f && y.n == n) = false by simp [h2]))
          have k1 : (y.f == f) = true := by simpa using h1
          have k2 : (y.n == n) = false := by simpa using h2
          clear hx h1 h2
          generalize y.f = yf at t0 k1
          generalize y.n = yn at t1 k2
          go_wp2
          go_round
          case rel => exact ⟨k + 1, by omega, by go_num, HR.out⟩
          case measure => simp [intOf]; omega
      · have HR := Lib.hid (none_on HN.out hx (show (y.f == f && y.n == n) = false by simp [h1]))
        have k1 : (y.f == f) = false := by simpa using h1
        clear hx h1
        generalize y.f = yf at t0 k1
        generalize y.n = yn at t1
        go_wp2
        go_round
        case rel => exact ⟨k + 1, by omega, by go_num, HR.out⟩
        case measure => simp [intOf]; omega
    · have HR := Lib.hid (ixM_no (f := f) (n := n) HN.out (by omega))
      go_wp2
      go_ret
      exact ⟨ow.ret_int HR.out.symm, rfl⟩
end Go.Proofs.Ytgihbilpimempab.kp
