/-
  Merged texts: KeepPlain2, SKeep1.
-/
import Derived.Test.YtjmmojjjopjdpaaGreatDoorGFnKeepOf5
import Derived.Test.YtjmmojjjopjdpaaGreatDoorGFnKeepOf4
/-
  Plain: going through a list place by place: all, the first, putting in order, dropping.
-/
namespace Go.Proofs.YtjmmojjjopjdpaaGreatDoor.kp
open Go.Proofs.YtjmmojjjopjdpaaGreatDoor.nb Go.Proofs.YtjmmojjjopjdpaaGreatDoor.ok

section
variable {α : Type} {l : List α} {p : α → Bool} {k : Nat} {x : α}
theorem take_on (h : l[k]? = some x) : l.take (k + 1) = l.take k ++ [x] := by
  obtain ⟨hk, e⟩ := List.getElem?_eq_some_iff.1 h
  rw [List.take_succ_eq_append_getElem hk, e]
theorem all_on (h : (l.take k).all p = true) (hx : l[k]? = some x) (hp : p x = true) : (l.take (k + 1)).all p = true := by
  rw [take_on hx, List.all_append, h]; simp [hp]
theorem all_bad (hx : l[k]? = some x) (hp : p x = false) : l.all p = false := by
  rw [List.all_eq_false]
  exact ⟨x, List.mem_of_getElem? hx, by simp [hp]⟩
theorem all_end (h : (l.take k).all p = true) (hk : l.length ≤ k) : l.all p = true := by rwa [List.take_of_length_le hk] at h
/-- no place ahead of k is one -/
theorem none_on (h : (l.take k).any p = false) (hx : l[k]? = some x) (hp : p x = false) : (l.take (k + 1)).any p = false := by
  rw [take_on hx, List.any_append, h]; simp [hp]
theorem idx_first (h : (l.take k).any p = false) (hx : l[k]? = some x) (hp : p x = true) : l.findIdx? p = some k := by
  rw [List.findIdx?_eq_some_iff_getElem]
  obtain ⟨hk, e⟩ := List.getElem?_eq_some_iff.1 hx
  refine ⟨hk, by rw [e]; exact hp, fun j hj => ?_⟩
  rw [List.any_eq_false] at h
  have hm : l[j] ∈ l.take k := by
    rw [List.mem_take_iff_getElem]
    exact ⟨j, by omega, rfl⟩
  simpa using h _ hm
theorem idx_none (h : (l.take k).any p = false) (hk : l.length ≤ k) : l.findIdx? p = none := by
  rw [List.take_of_length_le hk] at h
  rw [List.findIdx?_eq_none_iff]
  rw [List.any_eq_false] at h
  intro y hy
  simpa using h y hy
end
theorem ixN_at {l : List Nt} {f n : Int} {k : Nat} {x : Nt} (h : (l.take k).any (fun x => x.f == f && x.n == n) = false) (hx : l[k]? = some x) (hp : (x.f == f && x.n == n) = true) : ixN l f n = (k : Nat) := by
  unfold ixN; rw [idx_first h hx hp]
theorem ixN_no {l : List Nt} {f n : Int} {k : Nat} (h : (l.take k).any (fun x => x.f == f && x.n == n) = false) (hk : l.length ≤ k) : ixN l f n = -1 := by
  unfold ixN; rw [idx_none h hk]
theorem ixM_at {l : List Mk} {f n : Int} {k : Nat} {x : Mk} (h : (l.take k).any (fun x => x.f == f && x.n == n) = false) (hx : l[k]? = some x) (hp : (x.f == f && x.n == n) = true) : ixM l f n = (k : Nat) := by
  unfold ixM; rw [idx_first h hx hp]
theorem ixM_no {l : List Mk} {f n : Int} {k : Nat} (h : (l.take k).any (fun x => x.f == f && x.n == n) = false) (hk : l.length ≤ k) : ixM l f n = -1 := by
  unfold ixM; rw [idx_none h hk]
theorem ixN_cases (l : List Nt) (f n : Int) : (hasN l f n = false ∧ ixN l f n = -1) ∨ (hasN l f n = true ∧ ∃ (i : Nat) (x : Nt), ixN l f n = (i : Nat) ∧ l[i]? = some x ∧ x.f = f ∧ x.n = n) := by
  unfold ixN hasN
  cases h : l.findIdx? (fun x => x.f == f && x.n == n) with
  | none =>
    refine .inl ⟨?_, rfl⟩
    rw [List.any_eq_false]
    intro y hy
    rw [List.findIdx?_eq_none_iff] at h
    simpa using h y hy
  | some i =>
    rw [List.findIdx?_eq_some_iff_getElem] at h
    obtain ⟨hi, hp, _⟩ := h
    refine .inr ⟨?_, i, l[i], rfl, List.getElem?_eq_getElem hi, ?_⟩
    · rw [List.any_eq_true]; exact ⟨l[i], List.getElem_mem hi, hp⟩
    · rw [Bool.and_eq_true, beq_iff_eq, beq_iff_eq] at hp; exact hp
theorem ixM_cases (l : List Mk) (f n : Int) : (hasM l f n = false ∧ ixM l f n = -1) ∨ (hasM l f n = true ∧ ∃ (i : Nat) (x : Mk), ixM l f n = (i : Nat) ∧ l[i]? = some x ∧ x.f = f ∧ x.n = n) := by
  unfold ixM hasM
  cases h : l.findIdx? (fun x => x.f == f && x.n == n) with
  | none =>
    refine .inl ⟨?_, rfl⟩
    rw [List.any_eq_false]
    intro y hy
    rw [List.findIdx?_eq_none_iff] at h
    simpa using h y hy
  | some i =>
    rw [List.findIdx?_eq_some_iff_getElem] at h
    obtain ⟨hi, hp, _⟩ := h
    refine .inr ⟨?_, i, l[i], rfl, List.getElem?_eq_getElem hi, ?_⟩
    · rw [List.any_eq_true]; exact ⟨l[i], List.getElem_mem hi, hp⟩
    · rw [Bool.and_eq_true, beq_iff_eq, beq_iff_eq] at hp; exact hp

/-- a message, a mark put in order -/
def putL {α : Type} (p : α → Bool) (l : List α) (x : α) : List α := l.take (l.findIdx p) ++ x :: l.drop (l.findIdx p)
def putN (l : List Nt) (x : Nt) : List Nt := putL (fun y => less x.f x.n y.f y.n) l x
def putM (l : List Mk) (x : Mk) : List Mk := putL (fun y => less x.f x.n y.f y.n) l x
theorem putL_len {α : Type} (p : α → Bool) (l : List α) (x : α) : (putL p l x).length = l.length + 1 := by
  unfold putL
  have := List.findIdx_le_length (p := p) (xs := l)
  simp [List.length_take, List.length_drop]
  omega
/-- what lies there behind k places of the going through -/
inductive Putting {α : Type} (p : α → Bool) (l : List α) (x : α) (k : Nat) : Bool → List α → Prop where
  | yet : (l.take k).any p = false → Putting p l x k false (l.take k)
  | done (j : Nat) : j < k → l.findIdx p = j → Putting p l x k true (l.take j ++ x :: (l.drop j).take (k - j))
section
variable {α : Type} {p : α → Bool} {l : List α} {x y : α} {k : Nat} {b : Bool} {out : List α}
theorem findIdx_first (h : (l.take k).any p = false) (hx : l[k]? = some y) (hp : p y = true) : l.findIdx p = k := by
  have := idx_first h hx hp
  rw [List.findIdx?_eq_some_iff_findIdx_eq] at this
  exact this.2
theorem put_start : Putting p l x 0 false [] := .yet (by simp)
theorem put_skip (h : Putting p l x k false out) (hy : l[k]? = some y) (hp : p y = false) : Putting p l x (k + 1) false (out ++ [y]) := by
  cases h with
  | yet h => rw [← take_on hy]; exact .yet (none_on h hy hp)
theorem put_here (h : Putting p l x k false out) (hy : l[k]? = some y) (hp : p y = true) : Putting p l x (k + 1) true (out ++ [x] ++ [y]) := by
  cases h with
  | yet h =>
    have e := findIdx_first h hy hp
    have hd : (l.drop k).take (k + 1 - k) = [y] := by
      rw [show k + 1 - k = 0 + 1 by omega, take_on (x := y) (by rw [List.getElem?_drop]; exact hy)]
      rfl
    have := Putting.done (p := p) (l := l) (x := x) (k := k + 1) k (by omega) e
    rw [hd] at this
    simpa using this
theorem put_on (h : Putting p l x k true out) (hy : l[k]? = some y) : Putting p l x (k + 1) true (out ++ [y]) := by
  cases h with
  | done j hj e =>
    have hd : (l.drop j).take (k + 1 - j) = (l.drop j).take (k - j) ++ [y] := by
      have : (l.drop j)[k - j]? = some y := by rw [List.getElem?_drop, show j + (k - j) = k by omega]; exact hy
      rw [show k + 1 - j = k - j + 1 by omega, take_on this]
    have := Putting.done (p := p) (l := l) (x := x) (k := k + 1) j (by omega) e
    rw [hd] at this
    simpa using this
theorem put_end (h : Putting p l x k true out) (hk : l.length ≤ k) : out = putL p l x := by
  cases h with
  | done j hj e =>
    unfold putL
    rw [e, List.take_of_length_le (l := l.drop j) (by rw [List.length_drop]; omega)]
theorem put_last (h : Putting p l x k false out) (hk : l.length ≤ k) : out ++ [x] = putL p l x := by
  cases h with
  | yet h =>
    rw [List.take_of_length_le hk] at h ⊢
    unfold putL
    have : l.findIdx p = l.length := by
      rw [List.findIdx_eq_length]
      intro y hy
      rw [List.any_eq_false] at h
      simpa using h y hy
    rw [this, List.take_length, List.drop_length]
theorem put_len (h : Putting p l x k b out) : out.length ≤ k + 1 := by
  cases h with
  | yet h => rw [List.length_take]; omega
  | done j hj e => simp [List.length_take, List.length_drop]; omega
end
end Go.Proofs.YtjmmojjjopjdpaaGreatDoor.kp

/-
  Contracts of spec.l12Less, l12Way, l12Held, l12Mark.
-/
namespace Go.Proofs.YtjmmojjjopjdpaaGreatDoor.kp
open Go.ChangeShapes Go.WideShapes Go.ChangeAt Go.RowKit
open Go.Proofs.YtjmmojjjopjdpaaGreatDoor.wd Go.Proofs.YtjmmojjjopjdpaaGreatDoor.ow Go.Proofs.YtjmmojjjopjdpaaGreatDoor.rl Go.Proofs.YtjmmojjjopjdpaaGreatDoor.ok Go.Proofs.YtjmmojjjopjdpaaGreatDoor.nb

def IsB (w : World) (b : Bool) (e : Ending) (w' : World) : Prop := e = .returned (.bool b) ∧ w = w'
def IsI (w : World) (n : Int) (e : Ending) (w' : World) : Prop := e = .returned (.int .i64 n) ∧ w = w'
def BoolK (w : World) (b : Bool) (e : Ending) (w' : World) : Prop := e = .returned (.bool b) ∧ Below w.heap.size w w'

theorem less_t {f n f' n' : Int} (h : f < f' ∨ f = f' ∧ n < n') : less f n f' n' = true := decide_eq_true h
theorem less_f {f n f' n' : Int} (h : ¬ (f < f' ∨ f = f' ∧ n < n')) : less f n f' n' = false := decide_eq_false h
theorem less_any (f n f' n' : Int) (w : World) : Calls Tryz.prog 227 #[.int .i64 f, .int .i64 n, .int .i64 f', .int .i64 n'] w (IsB w (less f n f' n')) := by
  by_cases h1 : f < f'
  · rw [less_t (.inl h1)]
    go_enter Tryz.func227, Tryz.ntmps227
    go_wp2
    go_ret
    exact ⟨rfl, rfl⟩
  by_cases h2 : f = f'
  · subst h2
    by_cases h3 : n < n'
    · rw [less_t (.inr ⟨rfl, h3⟩)]
      go_enter Tryz.func227, Tryz.ntmps227
      go_wp2
      go_ret
      exact ⟨rfl, rfl⟩
    · rw [less_f (by omega)]
      go_enter Tryz.func227, Tryz.ntmps227
      go_wp2
      go_ret
      exact ⟨rfl, rfl⟩
  · have k2 : (f == f') = false := by simpa using h2
    rw [less_f (by omega)]
    go_enter Tryz.func227, Tryz.ntmps227
    go_wp2
    go_ret
    exact ⟨rfl, rfl⟩

theorem way_t {x : Nt} {id : Int} (h : x.f ≤ id ∧ id < x.t ∨ x.t < id ∧ id ≤ x.f) : way x id = true := decide_eq_true h
theorem way_f {x : Nt} {id : Int} (h : ¬ (x.f ≤ id ∧ id < x.t ∨ x.t < id ∧ id ≤ x.f)) : way x id = false := decide_eq_false h
theorem way_any (x : Nt) (id : Int) (w : World) : Calls Tryz.prog 166 #[ntV x, .int .i64 id] w (BoolK w (way x id)) := by
  unfold ntV note
  by_cases h1 : x.f ≤ id
  · by_cases h2 : id < x.t
    · rw [way_t (.inl ⟨h1, h2⟩)]
      go_enter Tryz.func166, Tryz.ntmps166
      go_wp2
      go_ret
      exact ⟨rfl, (Below.refl _ _).alloc (Nat.le_refl _) _⟩
    · by_cases h3 : x.t < id
      · by_cases h4 : id ≤ x.f
        · rw [way_t (.inr ⟨h3, h4⟩)]
          go_enter Tryz.func166, Tryz.ntmps166
          go_wp2
          go_ret
          exact ⟨rfl, (Below.refl _ _).alloc (Nat.le_refl _) _⟩
        · rw [way_f (by omega)]
          go_enter Tryz.func166, Tryz.ntmps166
          go_wp2
          go_ret
          exact ⟨rfl, (Below.refl _ _).alloc (Nat.le_refl _) _⟩
      · rw [way_f (by omega)]
        go_enter Tryz.func166, Tryz.ntmps166
        go_wp2
        go_ret
        exact ⟨rfl, (Below.refl _ _).alloc (Nat.le_refl _) _⟩
  · by_cases h3 : x.t < id
    · have h4 : id ≤ x.f := by omega
      rw [way_t (.inr ⟨h3, h4⟩)]
      go_enter Tryz.func166, Tryz.ntmps166
      go_wp2
      go_ret
      exact ⟨rfl, (Below.refl _ _).alloc (Nat.le_refl _) _⟩
    · rw [way_f (by omega)]
      go_enter Tryz.func166, Tryz.ntmps166
      go_wp2
      go_ret
      exact ⟨rfl, (Below.refl _ _).alloc (Nat.le_refl _) _⟩

set_option maxRecDepth 100000 in
set_option maxHeartbeats 800000 in
theorem ixN_any (w : World) (v : Value) (l : List Nt) (f n : Int) (h : SeesN w v l) (hl : l.length ≤ 1048576) : Calls Tryz.prog 173 #[v, .int .i64 f, .int .i64 n] w (IsI w (ixN l f n)) := by
  have HS := Lib.hid h
  obtain ⟨A, c, rfl, _⟩ := h
  go_enter Tryz.func173, Tryz.ntmps173
  go_wp2
  go_loop [7] (fun i => ∃ k : Nat, k ≤ l.length ∧ i = .int .i64 k ∧ Hid ((l.take k).any (fun x => x.f == f && x.n == n) = false)) (fun i => (l.length + 1 : Nat) - (intOf i).toNat)
  case atStart => exact ⟨0, by omega, rfl, rfl⟩
  case round =>
    obtain ⟨k, hk, rfl, HN⟩ := hrel
    by_cases hkl : k < l.length
    · have hx : l[k]? = some l[k] := List.getElem?_eq_getElem hkl
      have hc := note_at HS.out hx
      generalize l[k] = y at hx hc
      obtain ⟨g, c', e, hg, _, t0, t1, _⟩ := hc
      injection e with e1 e2 e3
      subst e1; subst e3
      have hk1 : (k : Int) < (l.length : Int) := by omega
      by_cases h1 : y.f = f
      · by_cases h2 : y.n = n
        · have HR := Lib.hid (ixN_at HN.out hx (by rw [h1, h2]; simp))
          have k1 : (y.f == f) = true := by simpa using h1
          have k2 : (y.n == n) = true := by simpa using h2
          clear hx h1 h2
          generalize y.f = yf at t0 k1
          generalize y.n = yn at t1 k2
          go_wp2
          go_ret
          exact ⟨ow.ret_int HR.out.symm, rfl⟩
        · have HR := Lib.hid (none_on HN.out hx (show (y.f == f && y.n == n) = false by simp [h2]))
          have k1 : (y.f == f) = true := by simpa using h1
          have k2 : (y.n == n) = false := by simpa using h2
          clear hx h1 h2
          generalize y.f = yf at t0 k1
          generalize y.n = yn at t1 k2
          go_wp2
          go_round
          case rel => exact ⟨k + 1, by omega, by go_num, HR.out⟩
          case measure => simp [intOf]; omega
      · have HR := Lib.hid (none_on HN.out hx (show (y.f == f && y.n == n) = false by simp [h1]))
        have k1 : (y.f == f) = false := by simpa using h1
        clear hx h1
        generalize y.f = yf at t0 k1
        generalize y.n = yn at t1
        go_wp2
        go_round
        case rel => exact ⟨k + 1, by omega, by go_num, HR.out⟩
        case measure => simp [intOf]; omega
    · have HR := Lib.hid (ixN_no (f := f) (n := n) HN.out (by omega))
      go_wp2
      go_ret
      exact ⟨ow.ret_int HR.out.symm, rfl⟩
set_option maxRecDepth 100000 in
set_option maxHeartbeats 800000 in
theorem ixM_any (w : World) (v : Value) (l : List Mk) (f n : Int) (h : SeesMk w v l) (hl : l.length ≤ 1048576) : Calls Tryz.prog 167 #[v, .int .i64 f, .int .i64 n] w (IsI w (ixM l f n)) := by
  have HS := Lib.hid h
  obtain ⟨A, c, rfl, _⟩ := h
  go_enter Tryz.func167, Tryz.ntmps167
  go_wp2
  go_loop [7] (fun i => ∃ k : Nat, k ≤ l.length ∧ i = .int .i64 k ∧ Hid ((l.take k).any (fun x => x.f == f && x.n == n) = false)) (fun i => (l.length + 1 : Nat) - (intOf i).toNat)
  case atStart => exact ⟨0, by omega, rfl, rfl⟩
  case round =>
    obtain ⟨k, hk, rfl, HN⟩ := hrel
    by_cases hkl : k < l.length
    · have hx : l[k]? = some l[k] := List.getElem?_eq_getElem hkl
      have hc := mark_at HS.out hx
      generalize l[k] = y at hx hc
      obtain ⟨g, c', e, hg, _, t0, t1, _⟩ := hc
      injection e with e1 e2 e3
      subst e1; subst e3
      have hk1 : (k : Int) < (l.length : Int) := by omega
      by_cases h1 : y.f = f
      · by_cases h2 : y.n = n
        · have HR := Lib.hid (ixM_at HN.out hx (by rw [h1, h2]; simp))
          have k1 : (y.f == f) = true := by simpa using h1
          have k2 : (y.n == n) = true := by simpa using h2
          clear hx h1 h2
          generalize y.f = yf at t0 k1
          generalize y.n = yn at t1 k2
          go_wp2
          go_ret
          exact ⟨ow.ret_int HR.out.symm, rfl⟩
        · have HR := Lib.hid (none_on HN.out hx (show (y.f == f && y.n == n) = false by simp [h2]))
          have k1 : (y.f == f) = true := by simpa using h1
          have k2 : (y.n == n) = false := by simpa using h2
          clear hx h1 h2
          generalize y.f = yf at t0 k1
          generalize y.n = yn at t1 k2
          go_wp2
          go_round
          case rel => exact ⟨k + 1, by omega, by go_num, HR.out⟩
          case measure => simp [intOf]; omega
      · have HR := Lib.hid (none_on HN.out hx (show (y.f == f && y.n == n) = false by simp [h1]))
        have k1 : (y.f == f) = false := by simpa using h1
        clear hx h1
        generalize y.f = yf at t0 k1
        generalize y.n = yn at t1
        go_wp2
        go_round
        case rel => exact ⟨k + 1, by omega, by go_num, HR.out⟩
        case measure => simp [intOf]; omega
    · have HR := Lib.hid (ixM_no (f := f) (n := n) HN.out (by omega))
      go_wp2
      go_ret
      exact ⟨ow.ret_int HR.out.symm, rfl⟩
end Go.Proofs.YtjmmojjjopjdpaaGreatDoor.kp

