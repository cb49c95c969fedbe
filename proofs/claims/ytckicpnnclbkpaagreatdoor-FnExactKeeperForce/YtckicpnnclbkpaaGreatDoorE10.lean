/-
  Merged texts: KeepPlain2, SKeep1, RegSkip, SKeep2.
-/
import Derived.Test.YtckicpnnclbkpaaGreatDoorE7
namespace Go.Proofs.YtckicpnnclbkpaaGreatDoor.kp
open nb ok
section
variable {α : Type} {l : List α} {p : α → Bool} {k : Nat} {x : α}
theorem take_on (h : l[k]? = some x) : l.take (k + 1) = l.take k ++ [x] := by
 obtain ⟨hk, e⟩ := List.getElem?_eq_some_iff.1 h
 rw [List.take_succ_eq_append_getElem hk, e]
theorem all_on (h : (l.take k).all p = true) (hx : l[k]? = some x) (hp : p x = true) : (l.take (k + 1)).all p = true := by
 rw [take_on hx, List.all_append, h]; simp [hp]
theorem all_bad (hx : l[k]? = some x) (hp : p x = false) : l.all p = false := by
 rw [List.all_eq_false]
 exact ⟨x, List.mem_of_getElem? hx, by simp [hp]⟩
theorem all_end (h : (l.take k).all p = true) (hk : l.length ≤ k) : l.all p = true := by rwa [List.take_of_length_le hk] at h
theorem none_on (h : (l.take k).any p = false) (hx : l[k]? = some x) (hp : p x = false) : (l.take (k + 1)).any p = false := by
 rw [take_on hx, List.any_append, h]; simp [hp]
theorem idx_first (h : (l.take k).any p = false) (hx : l[k]? = some x) (hp : p x = true) : l.findIdx? p = some k := by
 rw [List.findIdx?_eq_some_iff_getElem]
 obtain ⟨hk, e⟩ := List.getElem?_eq_some_iff.1 hx
 refine ⟨hk, by rw [e]; exact hp, fun j hj => ?_⟩
 rw [List.any_eq_false] at h
 have hm : l[j] ∈ l.take k := by
  rw [List.mem_take_iff_getElem]
  exact ⟨j, by omega, rfl⟩
 simpa using h _ hm
theorem idx_none (h : (l.take k).any p = false) (hk : l.length ≤ k) : l.findIdx? p = none := by
 rw [List.take_of_length_le hk] at h
 rw [List.findIdx?_eq_none_iff]
 rw [List.any_eq_false] at h
 intro y hy
 simpa using h y hy
end
theorem ixN_at {l : List Nt} {f n : Int} {k : Nat} {x : Nt} (h : (l.take k).any (fun x => x.f == f && x.n == n) = false) (hx : l[k]? = some x) (hp : (x.f == f && x.n == n) = true) : ixN l f n = (k : Nat) := by
 unfold ixN; rw [idx_first h hx hp]
theorem ixN_no {l : List Nt} {f n : Int} {k : Nat} (h : (l.take k).any (fun x => x.f == f && x.n == n) = false) (hk : l.length ≤ k) : ixN l f n = -1 := by
 unfold ixN; rw [idx_none h hk]
theorem ixM_at {l : List Mk} {f n : Int} {k : Nat} {x : Mk} (h : (l.take k).any (fun x => x.f == f && x.n == n) = false) (hx : l[k]? = some x) (hp : (x.f == f && x.n == n) = true) : ixM l f n = (k : Nat) := by
 unfold ixM; rw [idx_first h hx hp]
theorem ixM_no {l : List Mk} {f n : Int} {k : Nat} (h : (l.take k).any (fun x => x.f == f && x.n == n) = false) (hk : l.length ≤ k) : ixM l f n = -1 := by
 unfold ixM; rw [idx_none h hk]
theorem ixN_cases (l : List Nt) (f n : Int) : (hasN l f n = false ∧ ixN l f n = -1) ∨ (hasN l f n = true ∧ ∃ (i : Nat) (x : Nt), ixN l f n = (i : Nat) ∧ l[i]? = some x ∧ x.f = f ∧ x.n = n) := by
 unfold ixN hasN
 cases h : l.findIdx? (fun x => x.f == f && x.n == n) with
 | none =>
  refine .inl ⟨?_, rfl⟩
  rw [List.any_eq_false]
  intro y hy
  rw [List.findIdx?_eq_none_iff] at h
  simpa using h y hy
 | some i =>
  rw [List.findIdx?_eq_some_iff_getElem] at h
  obtain ⟨hi, hp, _⟩ := h
  refine .inr ⟨?_, i, l[i], rfl, List.getElem?_eq_getElem hi, ?_⟩
  ·rw [List.any_eq_true]; exact ⟨l[i], List.getElem_mem hi, hp⟩
  ·rw [Bool.and_eq_true, beq_iff_eq, beq_iff_eq] at hp; exact hp
theorem ixM_cases (l : List Mk) (f n : Int) : (hasM l f n = false ∧ ixM l f n = -1) ∨ (hasM l f n = true ∧ ∃ (i : Nat) (x : Mk), ixM l f n = (i : Nat) ∧ l[i]? = some x ∧ x.f = f ∧ x.n = n) := by
 unfold ixM hasM
 cases h : l.findIdx? (fun x => x.f == f && x.n == n) with
 | none =>
  refine .inl ⟨?_, rfl⟩
  rw [List.any_eq_false]
  intro y hy
  rw [List.findIdx?_eq_none_iff] at h
  simpa using h y hy
 | some i =>
  rw [List.findIdx?_eq_some_iff_getElem] at h
  obtain ⟨hi, hp, _⟩ := h
  refine .inr ⟨?_, i, l[i], rfl, List.getElem?_eq_getElem hi, ?_⟩
  ·rw [List.any_eq_true]; exact ⟨l[i], List.getElem_mem hi, hp⟩
  ·rw [Bool.and_eq_true, beq_iff_eq, beq_iff_eq] at hp; exact hp
def putL {α : Type} (p : α → Bool) (l : List α) (x : α) : List α := l.take (l.findIdx p) ++ x :: l.drop (l.findIdx p)
def putN (l : List Nt) (x : Nt) : List Nt := putL (fun y => less x.f x.n y.f y.n) l x
def putM (l : List Mk) (x : Mk) : List Mk := putL (fun y => less x.f x.n y.f y.n) l x
theorem putL_len {α : Type} (p : α → Bool) (l : List α) (x : α) : (putL p l x).length = l.length + 1 := by
 unfold putL
 have := List.findIdx_le_length (p := p) (xs := l)
 simp [List.length_take, List.length_drop]
 omega
inductive Putting {α : Type} (p : α → Bool) (l : List α) (x : α) (k : Nat) : Bool → List α → Prop where
 | yet : (l.take k).any p = false → Putting p l x k false (l.take k)
 | done (j : Nat) : j < k → l.findIdx p = j → Putting p l x k true (l.take j ++ x :: (l.drop j).take (k - j))
section
variable {α : Type} {p : α → Bool} {l : List α} {x y : α} {k : Nat} {b : Bool} {out : List α}
theorem findIdx_first (h : (l.take k).any p = false) (hx : l[k]? = some y) (hp : p y = true) : l.findIdx p = k := by
 have := idx_first h hx hp
 rw [List.findIdx?_eq_some_iff_findIdx_eq] at this
 exact this.2
theorem put_start : Putting p l x 0 false [] := .yet (by simp)
theorem put_skip (h : Putting p l x k false out) (hy : l[k]? = some y) (hp : p y = false) : Putting p l x (k + 1) false (out ++ [y]) := by
 cases h with
 | yet h => rw [← take_on hy]; exact .yet (none_on h hy hp)
theorem put_here (h : Putting p l x k false out) (hy : l[k]? = some y) (hp : p y = true) : Putting p l x (k + 1) true (out ++ [x] ++ [y]) := by
 cases h with
 | yet h =>
  have e := findIdx_first h hy hp
  have hd : (l.drop k).take (k + 1 - k) = [y] := by
   rw [show k + 1 - k = 0 + 1 by omega, take_on (x := y) (by rw [List.getElem?_drop]; exact hy)]
   rfl
  have := Putting.done (p := p) (l := l) (x := x) (k := k + 1) k (by omega) e
  rw [hd] at this
  simpa using this
theorem put_on (h : Putting p l x k true out) (hy : l[k]? = some y) : Putting p l x (k + 1) true (out ++ [y]) := by
 cases h with
 | done j hj e =>
  have hd : (l.drop j).take (k + 1 - j) = (l.drop j).take (k - j) ++ [y] := by
   have : (l.drop j)[k - j]? = some y := by rw [List.getElem?_drop, show j + (k - j) = k by omega]; exact hy
   rw [show k + 1 - j = k - j + 1 by omega, take_on this]
  have := Putting.done (p := p) (l := l) (x := x) (k := k + 1) j (by omega) e
  rw [hd] at this
  simpa using this
theorem put_end (h : Putting p l x k true out) (hk : l.length ≤ k) : out = putL p l x := by
 cases h with
 | done j hj e =>
  unfold putL
  rw [e, List.take_of_length_le (l := l.drop j) (by rw [List.length_drop]; omega)]
theorem put_last (h : Putting p l x k false out) (hk : l.length ≤ k) : out ++ [x] = putL p l x := by
 cases h with
 | yet h =>
  rw [List.take_of_length_le hk] at h ⊢
  unfold putL
  have : l.findIdx p = l.length := by
   rw [List.findIdx_eq_length]
   intro y hy
   rw [List.any_eq_false] at h
   simpa using h y hy
  rw [this, List.take_length, List.drop_length]
theorem put_len (h : Putting p l x k b out) : out.length ≤ k + 1 := by
 cases h with
 | yet h => rw [List.length_take]; omega
 | done j hj e => simp [List.length_take, List.length_drop]; omega
end
end Go.Proofs.YtckicpnnclbkpaaGreatDoor.kp

namespace Go.Proofs.YtckicpnnclbkpaaGreatDoor.kp
open Go.ChangeShapes Go.WideShapes Go.ChangeAt Go.RowKit
open wd ow rl ok nb
def IsB (w : World) (b : Bool) (e : Ending) (w' : World) : Prop := e = .returned (.bool b) ∧ w = w'
def IsI (w : World) (n : Int) (e : Ending) (w' : World) : Prop := e = .returned (.int .i64 n) ∧ w = w'
def BoolK (w : World) (b : Bool) (e : Ending) (w' : World) : Prop := e = .returned (.bool b) ∧ Below w.heap.size w w'
theorem less_t {f n f' n' : Int} (h : f < f' ∨ f = f' ∧ n < n') : less f n f' n' = true := decide_eq_true h
theorem less_f {f n f' n' : Int} (h : ¬ (f < f' ∨ f = f' ∧ n < n')) : less f n f' n' = false := decide_eq_false h
theorem less_any (f n f' n' : Int) (w : World) : Calls Tryz.prog 149 #[.int .i64 f, .int .i64 n, .int .i64 f', .int .i64 n'] w (IsB w (less f n f' n')) := by
 by_cases h1 : f < f'
 ·rw [less_t (.inl h1)]
  go_enter Tryz.func149, Tryz.ntmps149
  go_wp2
  go_ret
  exact ⟨rfl, rfl⟩
 by_cases h2 : f = f'
 ·subst h2
  by_cases h3 : n < n'
  ·rw [less_t (.inr ⟨rfl, h3⟩)]
   go_enter Tryz.func149, Tryz.ntmps149
   go_wp2
   go_ret
   exact ⟨rfl, rfl⟩
  ·rw [less_f (by omega)]
   go_enter Tryz.func149, Tryz.ntmps149
   go_wp2
   go_ret
   exact ⟨rfl, rfl⟩
 ·have k2 : (f == f') = false := by simpa using h2
  rw [less_f (by omega)]
  go_enter Tryz.func149, Tryz.ntmps149
  go_wp2
  go_ret
  exact ⟨rfl, rfl⟩
theorem way_t {x : Nt} {id : Int} (h : x.f ≤ id ∧ id < x.t ∨ x.t < id ∧ id ≤ x.f) : way x id = true := decide_eq_true h
theorem way_f {x : Nt} {id : Int} (h : ¬ (x.f ≤ id ∧ id < x.t ∨ x.t < id ∧ id ≤ x.f)) : way x id = false := decide_eq_false h
theorem way_any (x : Nt) (id : Int) (w : World) : Calls Tryz.prog 107 #[ntV x, .int .i64 id] w (BoolK w (way x id)) := by
 unfold ntV note
 by_cases h1 : x.f ≤ id
 ·by_cases h2 : id < x.t
  ·rw [way_t (.inl ⟨h1, h2⟩)]
   go_enter Tryz.func107, Tryz.ntmps107
   go_wp2
   go_ret
   exact ⟨rfl, (Below.refl _ _).alloc (Nat.le_refl _) _⟩
  ·by_cases h3 : x.t < id
   ·by_cases h4 : id ≤ x.f
    ·rw [way_t (.inr ⟨h3, h4⟩)]
     go_enter Tryz.func107, Tryz.ntmps107
     go_wp2
     go_ret
     exact ⟨rfl, (Below.refl _ _).alloc (Nat.le_refl _) _⟩
    ·rw [way_f (by omega)]
     go_enter Tryz.func107, Tryz.ntmps107
     go_wp2
     go_ret
     exact ⟨rfl, (Below.refl _ _).alloc (Nat.le_refl _) _⟩
   ·rw [way_f (by omega)]
    go_enter Tryz.func107, Tryz.ntmps107
    go_wp2
    go_ret
    exact ⟨rfl, (Below.refl _ _).alloc (Nat.le_refl _) _⟩
 ·by_cases h3 : x.t < id
  ·have h4 : id ≤ x.f := by omega
   rw [way_t (.inr ⟨h3, h4⟩)]
   go_enter Tryz.func107, Tryz.ntmps107
   go_wp2
   go_ret
   exact ⟨rfl, (Below.refl _ _).alloc (Nat.le_refl _) _⟩
  ·rw [way_f (by omega)]
   go_enter Tryz.func107, Tryz.ntmps107
   go_wp2
   go_ret
   exact ⟨rfl, (Below.refl _ _).alloc (Nat.le_refl _) _⟩
set_option maxRecDepth 100000 in
set_option maxHeartbeats 800000 in
theorem ixN_any (w : World) (v : Value) (l : List Nt) (f n : Int) (h : SeesN w v l) (hl : l.length ≤ 1048576) : Calls Tryz.prog 113 #[v, .int .i64 f, .int .i64 n] w (IsI w (ixN l f n)) := by
 have HS := Lib.hid h
 obtain ⟨A, c, rfl, _⟩ := h
 go_enter Tryz.func113, Tryz.ntmps113
 go_wp2
 go_loop [7] (fun i => ∃ k : Nat, k ≤ l.length ∧ i = .int .i64 k ∧ Hid ((l.take k).any (fun x => x.f == f && x.n == n) = false)) (fun i => (l.length + 1 : Nat) - (intOf i).toNat)
 case atStart => exact ⟨0, by omega, rfl, rfl⟩
 case round =>
  obtain ⟨k, hk, rfl, HN⟩ := hrel
  by_cases hkl : k < l.length
  ·have hx : l[k]? = some l[k] := List.getElem?_eq_getElem hkl
   have hc := note_at HS.out hx
   generalize l[k] = y at hx hc
   obtain ⟨g, c', e, hg, _, t0, t1, _⟩ := hc
   injection e with e1 e2 e3
   subst e1; subst e3
   have hk1 : (k : Int) < (l.length : Int) := by omega
   by_cases h1 : y.f = f
   ·by_cases h2 : y.n = n
    ·have HR := Lib.hid (ixN_at HN.out hx (by rw [h1, h2]; simp))
     have k1 : (y.f == f) = true := by simpa using h1
     have k2 : (y.n == n) = true := by simpa using h2
     clear hx h1 h2
     generalize y.f = yf at t0 k1
     generalize y.n = yn at t1 k2
     go_wp2
     go_ret
     exact ⟨ow.ret_int HR.out.symm, rfl⟩
    ·have HR := Lib.hid (none_on HN.out hx (show (y.f == f && y.n == n) = false by simp [h2]))
     have k1 : (y.f == f) = true := by simpa using h1
     have k2 : (y.n == n) = false := by simpa using h2
     clear hx h1 h2
     generalize y.f = yf at t0 k1
     generalize y.n = yn at t1 k2
     go_wp2
     go_round
     case rel => exact ⟨k + 1, by omega, by go_num, HR.out⟩
     case measure => simp [intOf]; omega
   ·have HR := Lib.hid (none_on HN.out hx (show (y.f == f && y.n == n) = false by simp [h1]))
    have k1 : (y.f == f) = false := by simpa using h1
    clear hx h1
    generalize y.f = yf at t0 k1
    generalize y.n = yn at t1
    go_wp2
    go_round
    case rel => exact ⟨k + 1, by omega, by go_num, HR.out⟩
    case measure => simp [intOf]; omega
  ·have HR := Lib.hid (ixN_no (f := f) (n := n) HN.out (by omega))
   go_wp2
   go_ret
   exact ⟨ow.ret_int HR.out.symm, rfl⟩
set_option maxRecDepth 100000 in
set_option maxHeartbeats 800000 in
theorem ixM_any (w : World) (v : Value) (l : List Mk) (f n : Int) (h : SeesMk w v l) (hl : l.length ≤ 1048576) : Calls Tryz.prog 108 #[v, .int .i64 f, .int .i64 n] w (IsI w (ixM l f n)) := by
 have HS := Lib.hid h
 obtain ⟨A, c, rfl, _⟩ := h
 go_enter Tryz.func108, Tryz.ntmps108
 go_wp2
 go_loop [7] (fun i => ∃ k : Nat, k ≤ l.length ∧ i = .int .i64 k ∧ Hid ((l.take k).any (fun x => x.f == f && x.n == n) = false)) (fun i => (l.length + 1 : Nat) - (intOf i).toNat)
 case atStart => exact ⟨0, by omega, rfl, rfl⟩
 case round =>
  obtain ⟨k, hk, rfl, HN⟩ := hrel
  by_cases hkl : k < l.length
  ·have hx : l[k]? = some l[k] := List.getElem?_eq_getElem hkl
   have hc := mark_at HS.out hx
   generalize l[k] = y at hx hc
   obtain ⟨g, c', e, hg, _, t0, t1, _⟩ := hc
   injection e with e1 e2 e3
   subst e1; subst e3
   have hk1 : (k : Int) < (l.length : Int) := by omega
   by_cases h1 : y.f = f
   ·by_cases h2 : y.n = n
    ·have HR := Lib.hid (ixM_at HN.out hx (by rw [h1, h2]; simp))
     have k1 : (y.f == f) = true := by simpa using h1
     have k2 : (y.n == n) = true := by simpa using h2
     clear hx h1 h2
     generalize y.f = yf at t0 k1
     generalize y.n = yn at t1 k2
     go_wp2
     go_ret
     exact ⟨ow.ret_int HR.out.symm, rfl⟩
    ·have HR := Lib.hid (none_on HN.out hx (show (y.f == f && y.n == n) = false by simp [h2]))
     have k1 : (y.f == f) = true := by simpa using h1
     have k2 : (y.n == n) = false := by simpa using h2
     clear hx h1 h2
     generalize y.f = yf at t0 k1
     generalize y.n = yn at t1 k2
     go_wp2
     go_round
     case rel => exact ⟨k + 1, by omega, by go_num, HR.out⟩
     case measure => simp [intOf]; omega
   ·have HR := Lib.hid (none_on HN.out hx (show (y.f == f && y.n == n) = false by simp [h1]))
    have k1 : (y.f == f) = false := by simpa using h1
    clear hx h1
    generalize y.f = yf at t0 k1
    generalize y.n = yn at t1
    go_wp2
    go_round
    case rel => exact ⟨k + 1, by omega, by go_num, HR.out⟩
    case measure => simp [intOf]; omega
  ·have HR := Lib.hid (ixM_no (f := f) (n := n) HN.out (by omega))
   go_wp2
   go_ret
   exact ⟨ow.ret_int HR.out.symm, rfl⟩
end Go.Proofs.YtckicpnnclbkpaaGreatDoor.kp

namespace Go.Proofs.YtckicpnnclbkpaaGreatDoor.rs
variable {P : Program} {md : Region.Mode} {ops : Array Oper} {Q : Exit → Act → World → Prop} {S : World → Prop}
theorem want_take {i : Nat} (d : Tmp) {oi : Oper} {v : Value} {fuel : Nat} {listed : Array Bool} {a : Act} {w : World} (hi : ops[i]? = some oi) (hd : oi.dst = some d)
  (hs : Region.noSelect ops = true) (hf : Region.free md ops listed i = true) (hr : (Region.ready md ops listed).contains i = true)
  (hQ : ∀ c a w v, Q (.panic c) (a.put (some d) v) w → Q (.panic c) a w) (hw : Region.wanted oi (yielded ops a.tmps) = true) (hy : ∀ w, S w → (execOp a.eval oi).run P w = .ok (.value v) w) (hS : S w)
  (h : wpAnyH P md ops Q S fuel (listed.setIfInBounds i true) { a with tmps := a.tmps.setIfInBounds d v } w) : wpAnyH P md ops Q S (fuel + 1) listed a w :=
 wpAnyH_take hi hs hf hr (fun c a w hq => hQ c a w v (by rw [hd] at hq; exact hq)) (.inl ⟨hw, hy⟩) hS (by rw [hd]; exact h)
theorem skip_take {i : Nat} (d : Tmp) {fuel : Nat} {listed : Array Bool} {a : Act} {w : World} (hd : (ops[i]?).map (fun o => o.dst) = some (some d))
  (hs : Region.noSelect ops = true) (hf : Region.free md ops listed i = true) (hr : (Region.ready md ops listed).contains i = true)
  (hQ : ∀ c a w v, Q (.panic c) (a.put (some d) v) w → Q (.panic c) a w) (hw : (ops[i]?).map (fun o => Region.wanted o (yielded ops a.tmps)) = some false) (hS : S w)
  (h : wpAnyH P md ops Q S fuel (listed.setIfInBounds i true) { a with tmps := a.tmps.setIfInBounds d undef } w) : wpAnyH P md ops Q S (fuel + 1) listed a w := by
 obtain ⟨oi, hi, hd⟩ := Option.map_eq_some_iff.1 hd
 rw [hi] at hw
 injection hw with hw
 exact wpAnyH_take hi hs hf hr (fun c a w hq => hQ c a w undef (by rw [hd] at hq; exact hq)) (.inr ⟨hw, rfl⟩) hS (by rw [hd]; exact h)
theorem w (i : Nat) (d : Tmp) {oi : Oper} (v : Value) {fuel : Nat} {listed : Array Bool} {a : Act} {w : World} (hi : ops[i]? = some oi) (hy : ∀ w, S w → (execOp a.eval oi).run P w = .ok (.value v) w)
  (h : wpAnyH P md ops Q S fuel (listed.setIfInBounds i true) { a with tmps := a.tmps.setIfInBounds d v } w)
  (hd : oi.dst = some d := by rfl) (hs : Region.noSelect ops = true := by kernel_rfl) (hf : Region.free md ops listed i = true := by kernel_rfl) (hr : (Region.ready md ops listed).contains i = true := by kernel_rfl)
  (hQ : ∀ c a w v, Q (.panic c) (a.put (some d) v) w → Q (.panic c) a w := by exact fun _ _ _ _ h => h) (hw : Region.wanted oi (yielded ops a.tmps) = true := by rfl) (hS : S w := by assumption) : wpAnyH P md ops Q S (fuel + 1) listed a w :=
 want_take d hi hd hs hf hr hQ hw hy hS h
theorem a {α : Type _} (l : List α) (i : Nat) (x : α) : l.toArray.setIfInBounds i x = (l.set i x).toArray := List.setIfInBounds_toArray ..
theorem b {α : Type _} (x : α) (l : List α) (y : α) : (x :: l).set 0 y = y :: l := rfl
theorem c {α : Type _} (x : α) (l : List α) (n : Nat) (y : α) : (x :: l).set (n + 1) y = x :: l.set n y := rfl
end Go.Proofs.YtckicpnnclbkpaaGreatDoor.rs

namespace Go.Proofs.YtckicpnnclbkpaaGreatDoor.kp
open Go.ChangeShapes Go.WideShapes Go.ChangeAt Go.RowKit
open wd ow rl ok nb
theorem okNts_long {l : List Nt} {most : Nat} (h : most < l.length) : okNts l most = false := by unfold okNts; rw [decide_eq_false (by omega)]; rfl
theorem okNts_bad {l : List Nt} {most k : Nat} (hk : k < l.length) (h : ordN l k = false) : okNts l most = false := by unfold okNts; rw [allI_bad hk h, Bool.and_false]
theorem okNts_all {l : List Nt} {most : Nat} (hl : l.length ≤ most) (h : allI l.length (ordN l) = true) : okNts l most = true := by unfold okNts; rw [h, decide_eq_true hl]; rfl
theorem okMks_long {l : List Mk} (h : 12 < l.length) : okMks l = false := by unfold okMks; rw [decide_eq_false (by omega)]; rfl
theorem okMks_bad {l : List Mk} {k : Nat} (hk : k < l.length) (h : ordM l k = false) : okMks l = false := by unfold okMks; rw [allI_bad hk h, Bool.and_false]
theorem okMks_all {l : List Mk} (hl : l.length ≤ 12) (h : allI l.length (ordM l) = true) : okMks l = true := by unfold okMks; rw [h, decide_eq_true hl]; rfl
set_option maxRecDepth 100000 in
set_option maxHeartbeats 4000000 in
theorem notes_any (w : World) (v : Value) (l : List Nt) (most : Nat) (hm : most ≤ 100) (h : SeesN w v l) (hl : l.length ≤ 1048576) (hz : ∀ x ∈ l, x.s.size ≤ maxLen) :
  Calls Tryz.prog 105 #[v, .int .i64 most] w (BoolK w (okNts l most)) := by
 have HS := Lib.hid h
 have HZ := Lib.hid hz
 obtain ⟨A, c, rfl, _⟩ := h
 clear hz
 by_cases hlong : most < l.length
 ·rw [okNts_long hlong]
  go_enter Tryz.func105, Tryz.ntmps105
  go_wp2
  go_ret
  exact ⟨rfl, Below.refl _ _⟩
 go_enter Tryz.func105, Tryz.ntmps105
 go_wp2
 go_loopw [5] (fun i wr => ∃ k : Nat, k ≤ l.length ∧ i = .int .i64 k ∧ Hid (allI k (ordN l) = true) ∧ Below w.heap.size w wr) (fun i _ => (l.length + 1 : Nat) - (intOf i).toNat)
 case atStart => exact ⟨0, by omega, rfl, rfl, Below.refl _ _⟩
 case round =>
  obtain ⟨k, hk, rfl, HA, hB⟩ := hrel
  by_cases hkl : k < l.length
  ·have hx : l[k]? = some l[k] := List.getElem?_eq_getElem hkl
   have hzm := HZ.out l[k] (List.getElem_mem hkl)
   have hc := note_at (HS.out.later hB) hx
   generalize l[k] = x at hx hc hzm
   obtain ⟨g, c', e, hg, _, t0, t1, t2, t3, t4⟩ := hc
   injection e with e1 e2 e3
   subst e1; subst e3
   have hk0 : (0 : Int) ≤ (k : Int) := by omega
   have hk1 : (k : Int) < (l.length : Int) := by omega
   have HK := Lib.hid (fun V => ok.sok_any x.f x.n x.t x.u x.s V hzm)
   unfold ok.BoolPost note at HK
   have hz := hB.size
   cases hb : okNt x with
   | false =>
    have HR := Lib.hid (okNts_bad (most := most) hkl (show ordN l k = false by
     cases k with
     | zero => rw [ordN_zero hx, hb]
     | succ j => rw [ordN_succ hx (List.getElem?_eq_getElem (by omega)), hb, Bool.false_and]))
    unfold okNt at hb
    rw [hb] at HK
    clear hb hx
    go_wp2_with fail
    refine wp_region_held_drew (S := (fun w' : World => w'.cell? ⟨g, k * 5, none⟩ = some (.int .i64 x.f) ∧ w'.cell? ⟨g, k * 5 + 1, none⟩ = some (.int .i64 x.n) ∧ w'.cell? ⟨g, k * 5 + 2, none⟩ = some (.int .i64 x.t) ∧ w'.cell? ⟨g, k * 5 + 3, none⟩ = some (.int .i64 x.u) ∧ w'.cell? ⟨g, k * 5 + 4, none⟩ = some (.string x.s))) (by kernel_rfl) ⟨t0, t1, t2, t3, t4⟩ (fun hHeld => ?_)
    refine rs.w 0 16 ?_ rfl ?_ ?_
    rotate_left 1
    ·(intro w hSw; (try dsimp only at hSw); go_simp; try with_reducible rfl)
    simp only [rs.a, rs.b, rs.c]
    refine rs.w 1 17 ?_ rfl ?_ ?_
    rotate_left 1
    ·(intro w hSw; (try dsimp only at hSw); go_simp; try with_reducible rfl)
    simp only [rs.a, rs.b, rs.c]
    refine rs.w 2 18 ?_ rfl ?_ ?_
    rotate_left 1
    ·(intro w hSw; (try dsimp only at hSw); go_simp; try with_reducible rfl)
    simp only [rs.a, rs.b, rs.c]
    refine rs.w 3 19 ?_ rfl ?_ ?_
    rotate_left 1
    ·(intro w hSw; (try dsimp only at hSw); go_simp; try with_reducible rfl)
    simp only [rs.a, rs.b, rs.c]
    refine wpAnyH_ready (rs := [4]) (by kernel_rfl) (by simp) ?_
    refine AllReadyH.cons rfl (fun K hK => ?_) AllReadyH.nil
    go_simp
    refine (HK.out _).mono ?_
    rintro e w2 ⟨rfl, hB2⟩
    have s0 := (hB2.cell (p := ⟨g, k * 5, none⟩) hg).trans t0
    have s1 := (hB2.cell (p := ⟨g, k * 5 + 1, none⟩) hg).trans t1
    have s2 := (hB2.cell (p := ⟨g, k * 5 + 2, none⟩) hg).trans t2
    have s3 := (hB2.cell (p := ⟨g, k * 5 + 3, none⟩) hg).trans t3
    have s4 := (hB2.cell (p := ⟨g, k * 5 + 4, none⟩) hg).trans t4
    refine hK.out _ _ ?_ (fun hHeld => ?_)
    ·exact ⟨s0, s1, s2, s3, s4⟩
    clear hK K
    refine rs.w 5 21 ?_ rfl ?_ ?_
    rotate_left 1
    ·(intro w hSw; (try dsimp only at hSw); go_simp; try with_reducible rfl)
    simp only [rs.a, rs.b, rs.c]
    refine rs.w 6 22 ?_ rfl ?_ ?_
    rotate_left 1
    ·(intro w hSw; (try dsimp only at hSw); go_simp; try with_reducible rfl)
    simp only [rs.a, rs.b, rs.c]
    refine rs.skip_take (i := 7) 23 rfl (by kernel_rfl) (by kernel_rfl) (by kernel_rfl) (fun _ _ _ _ h => h) rfl (by assumption) ?_
    simp only [rs.a, rs.b, rs.c]
    refine rs.skip_take (i := 8) 24 rfl (by kernel_rfl) (by kernel_rfl) (by kernel_rfl) (fun _ _ _ _ h => h) rfl (by assumption) ?_
    simp only [rs.a, rs.b, rs.c]
    refine rs.skip_take (i := 9) 25 rfl (by kernel_rfl) (by kernel_rfl) (by kernel_rfl) (fun _ _ _ _ h => h) rfl (by assumption) ?_
    simp only [rs.a, rs.b, rs.c]
    refine rs.skip_take (i := 10) 26 rfl (by kernel_rfl) (by kernel_rfl) (by kernel_rfl) (fun _ _ _ _ h => h) rfl (by assumption) ?_
    simp only [rs.a, rs.b, rs.c]
    refine rs.skip_take (i := 11) 27 rfl (by kernel_rfl) (by kernel_rfl) (by kernel_rfl) (fun _ _ _ _ h => h) rfl (by assumption) ?_
    simp only [rs.a, rs.b, rs.c]
    refine rs.skip_take (i := 12) 28 rfl (by kernel_rfl) (by kernel_rfl) (by kernel_rfl) (fun _ _ _ _ h => h) rfl (by assumption) ?_
    simp only [rs.a, rs.b, rs.c]
    refine rs.skip_take (i := 13) 29 rfl (by kernel_rfl) (by kernel_rfl) (by kernel_rfl) (fun _ _ _ _ h => h) rfl (by assumption) ?_
    simp only [rs.a, rs.b, rs.c]
    refine rs.skip_take (i := 14) 30 rfl (by kernel_rfl) (by kernel_rfl) (by kernel_rfl) (fun _ _ _ _ h => h) rfl (by assumption) ?_
    simp only [rs.a, rs.b, rs.c]
    refine rs.skip_take (i := 15) 31 rfl (by kernel_rfl) (by kernel_rfl) (by kernel_rfl) (fun _ _ _ _ h => h) rfl (by assumption) ?_
    simp only [rs.a, rs.b, rs.c]
    refine rs.skip_take (i := 16) 32 rfl (by kernel_rfl) (by kernel_rfl) (by kernel_rfl) (fun _ _ _ _ h => h) rfl (by assumption) ?_
    simp only [rs.a, rs.b, rs.c]
    refine rs.skip_take (i := 17) 33 rfl (by kernel_rfl) (by kernel_rfl) (by kernel_rfl) (fun _ _ _ _ h => h) rfl (by assumption) ?_
    simp only [rs.a, rs.b, rs.c]
    refine rs.skip_take (i := 18) 34 rfl (by kernel_rfl) (by kernel_rfl) (by kernel_rfl) (fun _ _ _ _ h => h) rfl (by assumption) ?_
    simp only [rs.a, rs.b, rs.c]
    refine rs.skip_take (i := 19) 35 rfl (by kernel_rfl) (by kernel_rfl) (by kernel_rfl) (fun _ _ _ _ h => h) rfl (by assumption) ?_
    simp only [rs.a, rs.b, rs.c]
    refine rs.skip_take (i := 20) 36 rfl (by kernel_rfl) (by kernel_rfl) (by kernel_rfl) (fun _ _ _ _ h => h) rfl (by assumption) ?_
    simp only [rs.a, rs.b, rs.c]
    refine rs.skip_take (i := 21) 37 rfl (by kernel_rfl) (by kernel_rfl) (by kernel_rfl) (fun _ _ _ _ h => h) rfl (by assumption) ?_
    simp only [rs.a, rs.b, rs.c]
    refine rs.skip_take (i := 22) 38 rfl (by kernel_rfl) (by kernel_rfl) (by kernel_rfl) (fun _ _ _ _ h => h) rfl (by assumption) ?_
    simp only [rs.a, rs.b, rs.c]
    refine rs.skip_take (i := 23) 39 rfl (by kernel_rfl) (by kernel_rfl) (by kernel_rfl) (fun _ _ _ _ h => h) rfl (by assumption) ?_
    simp only [rs.a, rs.b, rs.c]
    refine rs.skip_take (i := 24) 40 rfl (by kernel_rfl) (by kernel_rfl) (by kernel_rfl) (fun _ _ _ _ h => h) rfl (by assumption) ?_
    simp only [rs.a, rs.b, rs.c]
    refine rs.skip_take (i := 25) 41 rfl (by kernel_rfl) (by kernel_rfl) (by kernel_rfl) (fun _ _ _ _ h => h) rfl (by assumption) ?_
    simp only [rs.a, rs.b, rs.c]
    refine rs.skip_take (i := 26) 42 rfl (by kernel_rfl) (by kernel_rfl) (by kernel_rfl) (fun _ _ _ _ h => h) rfl (by assumption) ?_
    simp only [rs.a, rs.b, rs.c]
    refine rs.skip_take (i := 27) 43 rfl (by kernel_rfl) (by kernel_rfl) (by kernel_rfl) (fun _ _ _ _ h => h) rfl (by assumption) ?_
    simp only [rs.a, rs.b, rs.c]
    refine rs.skip_take (i := 28) 44 rfl (by kernel_rfl) (by kernel_rfl) (by kernel_rfl) (fun _ _ _ _ h => h) rfl (by assumption) ?_
    simp only [rs.a, rs.b, rs.c]
    refine rs.skip_take (i := 29) 45 rfl (by kernel_rfl) (by kernel_rfl) (by kernel_rfl) (fun _ _ _ _ h => h) rfl (by assumption) ?_
    simp only [rs.a, rs.b, rs.c]
    refine rs.skip_take (i := 30) 46 rfl (by kernel_rfl) (by kernel_rfl) (by kernel_rfl) (fun _ _ _ _ h => h) rfl (by assumption) ?_
    simp only [rs.a, rs.b, rs.c]
    refine rs.skip_take (i := 31) 47 rfl (by kernel_rfl) (by kernel_rfl) (by kernel_rfl) (fun _ _ _ _ h => h) rfl (by assumption) ?_
    simp only [rs.a, rs.b, rs.c]
    refine rs.skip_take (i := 32) 48 rfl (by kernel_rfl) (by kernel_rfl) (by kernel_rfl) (fun _ _ _ _ h => h) rfl (by assumption) ?_
    simp only [rs.a, rs.b, rs.c]
    refine rs.skip_take (i := 33) 49 rfl (by kernel_rfl) (by kernel_rfl) (by kernel_rfl) (fun _ _ _ _ h => h) rfl (by assumption) ?_
    simp only [rs.a, rs.b, rs.c]
    refine rs.skip_take (i := 34) 50 rfl (by kernel_rfl) (by kernel_rfl) (by kernel_rfl) (fun _ _ _ _ h => h) rfl (by assumption) ?_
    simp only [rs.a, rs.b, rs.c]
    refine rs.w 35 51 ?_ rfl ?_ ?_
    rotate_left 1
    ·(intro w hSw; (try dsimp only at hSw); go_simp; try with_reducible rfl)
    simp only [rs.a, rs.b, rs.c]
    refine wpAnyH_done (by kernel_rfl) ?_ _
    have R := Lib.hid (hB.drew.trans (hB2.mono hz))
    clear hB hB2 t0 t1 t2 t3 t4
    go_wp2
    go_ret
    exact ⟨nb.ret_bool HR.out.symm, R.out⟩
   | true =>
    rcases Nat.eq_zero_or_pos k with hk00 | hpos
    ·subst hk00
     have HR := Lib.hid (allI_on HA.out (show ordN l 0 = true by rw [ordN_zero hx, hb]))
     unfold okNt at hb
     rw [hb] at HK
     clear hb hx
     go_wp2_with fail
     refine wp_region_held_drew (S := (fun w' : World => w'.cell? ⟨g, 0 * 5, none⟩ = some (.int .i64 x.f) ∧ w'.cell? ⟨g, 0 * 5 + 1, none⟩ = some (.int .i64 x.n) ∧ w'.cell? ⟨g, 0 * 5 + 2, none⟩ = some (.int .i64 x.t) ∧ w'.cell? ⟨g, 0 * 5 + 3, none⟩ = some (.int .i64 x.u) ∧ w'.cell? ⟨g, 0 * 5 + 4, none⟩ = some (.string x.s))) (by kernel_rfl) ⟨t0, t1, t2, t3, t4⟩ (fun hHeld => ?_)
     refine rs.w 0 16 ?_ rfl ?_ ?_
     rotate_left 1
     ·(intro w hSw; (try dsimp only at hSw); go_simp; try with_reducible rfl)
     simp only [rs.a, rs.b, rs.c]
     refine rs.w 1 17 ?_ rfl ?_ ?_
     rotate_left 1
     ·(intro w hSw; (try dsimp only at hSw); go_simp; try with_reducible rfl)
     simp only [rs.a, rs.b, rs.c]
     refine rs.w 2 18 ?_ rfl ?_ ?_
     rotate_left 1
     ·(intro w hSw; (try dsimp only at hSw); go_simp; try with_reducible rfl)
     simp only [rs.a, rs.b, rs.c]
     refine rs.w 3 19 ?_ rfl ?_ ?_
     rotate_left 1
     ·(intro w hSw; (try dsimp only at hSw); go_simp; try with_reducible rfl)
     simp only [rs.a, rs.b, rs.c]
     refine wpAnyH_ready (rs := [4]) (by kernel_rfl) (by simp) ?_
     refine AllReadyH.cons rfl (fun K hK => ?_) AllReadyH.nil
     go_simp
     refine (HK.out _).mono ?_
     rintro e w2 ⟨rfl, hB2⟩
     have s0 := (hB2.cell (p := ⟨g, 0 * 5, none⟩) hg).trans t0
     have s1 := (hB2.cell (p := ⟨g, 0 * 5 + 1, none⟩) hg).trans t1
     have s2 := (hB2.cell (p := ⟨g, 0 * 5 + 2, none⟩) hg).trans t2
     have s3 := (hB2.cell (p := ⟨g, 0 * 5 + 3, none⟩) hg).trans t3
     have s4 := (hB2.cell (p := ⟨g, 0 * 5 + 4, none⟩) hg).trans t4
     refine hK.out _ _ ?_ (fun hHeld => ?_)
     ·exact ⟨s0, s1, s2, s3, s4⟩
     clear hK K
     refine rs.w 5 21 ?_ rfl ?_ ?_
     rotate_left 1
     ·(intro w hSw; (try dsimp only at hSw); go_simp; try with_reducible rfl)
     simp only [rs.a, rs.b, rs.c]
     refine rs.w 6 22 ?_ rfl ?_ ?_
     rotate_left 1
     ·(intro w hSw; (try dsimp only at hSw); go_simp; try with_reducible rfl)
     simp only [rs.a, rs.b, rs.c]
     refine rs.w 7 23 ?_ rfl ?_ ?_
     rotate_left 1
     ·(intro w hSw; (try dsimp only at hSw); go_simp; try with_reducible rfl)
     simp only [rs.a, rs.b, rs.c]
     refine rs.w 8 24 ?_ rfl ?_ ?_
     rotate_left 1
     ·(intro w hSw; (try dsimp only at hSw); go_simp; try with_reducible rfl)
     simp only [rs.a, rs.b, rs.c]
     refine rs.w 9 25 ?_ rfl ?_ ?_
     rotate_left 1
     ·(intro w hSw; (try dsimp only at hSw); go_simp; try with_reducible rfl)
     simp only [rs.a, rs.b, rs.c]
     refine rs.skip_take (i := 10) 26 rfl (by kernel_rfl) (by kernel_rfl) (by kernel_rfl) (fun _ _ _ _ h => h) rfl (by assumption) ?_
     simp only [rs.a, rs.b, rs.c]
     refine rs.skip_take (i := 11) 27 rfl (by kernel_rfl) (by kernel_rfl) (by kernel_rfl) (fun _ _ _ _ h => h) rfl (by assumption) ?_
     simp only [rs.a, rs.b, rs.c]
     refine rs.skip_take (i := 12) 28 rfl (by kernel_rfl) (by kernel_rfl) (by kernel_rfl) (fun _ _ _ _ h => h) rfl (by assumption) ?_
     simp only [rs.a, rs.b, rs.c]
     refine rs.skip_take (i := 13) 29 rfl (by kernel_rfl) (by kernel_rfl) (by kernel_rfl) (fun _ _ _ _ h => h) rfl (by assumption) ?_
     simp only [rs.a, rs.b, rs.c]
     refine rs.skip_take (i := 14) 30 rfl (by kernel_rfl) (by kernel_rfl) (by kernel_rfl) (fun _ _ _ _ h => h) rfl (by assumption) ?_
     simp only [rs.a, rs.b, rs.c]
     refine rs.skip_take (i := 15) 31 rfl (by kernel_rfl) (by kernel_rfl) (by kernel_rfl) (fun _ _ _ _ h => h) rfl (by assumption) ?_
     simp only [rs.a, rs.b, rs.c]
     refine rs.skip_take (i := 16) 32 rfl (by kernel_rfl) (by kernel_rfl) (by kernel_rfl) (fun _ _ _ _ h => h) rfl (by assumption) ?_
     simp only [rs.a, rs.b, rs.c]
     refine rs.skip_take (i := 17) 33 rfl (by kernel_rfl) (by kernel_rfl) (by kernel_rfl) (fun _ _ _ _ h => h) rfl (by assumption) ?_
     simp only [rs.a, rs.b, rs.c]
     refine rs.skip_take (i := 18) 34 rfl (by kernel_rfl) (by kernel_rfl) (by kernel_rfl) (fun _ _ _ _ h => h) rfl (by assumption) ?_
     simp only [rs.a, rs.b, rs.c]
     refine rs.skip_take (i := 19) 35 rfl (by kernel_rfl) (by kernel_rfl) (by kernel_rfl) (fun _ _ _ _ h => h) rfl (by assumption) ?_
     simp only [rs.a, rs.b, rs.c]
     refine rs.skip_take (i := 20) 36 rfl (by kernel_rfl) (by kernel_rfl) (by kernel_rfl) (fun _ _ _ _ h => h) rfl (by assumption) ?_
     simp only [rs.a, rs.b, rs.c]
     refine rs.skip_take (i := 21) 37 rfl (by kernel_rfl) (by kernel_rfl) (by kernel_rfl) (fun _ _ _ _ h => h) rfl (by assumption) ?_
     simp only [rs.a, rs.b, rs.c]
     refine rs.skip_take (i := 22) 38 rfl (by kernel_rfl) (by kernel_rfl) (by kernel_rfl) (fun _ _ _ _ h => h) rfl (by assumption) ?_
     simp only [rs.a, rs.b, rs.c]
     refine rs.skip_take (i := 23) 39 rfl (by kernel_rfl) (by kernel_rfl) (by kernel_rfl) (fun _ _ _ _ h => h) rfl (by assumption) ?_
     simp only [rs.a, rs.b, rs.c]
     refine rs.skip_take (i := 24) 40 rfl (by kernel_rfl) (by kernel_rfl) (by kernel_rfl) (fun _ _ _ _ h => h) rfl (by assumption) ?_
     simp only [rs.a, rs.b, rs.c]
     refine rs.skip_take (i := 25) 41 rfl (by kernel_rfl) (by kernel_rfl) (by kernel_rfl) (fun _ _ _ _ h => h) rfl (by assumption) ?_
     simp only [rs.a, rs.b, rs.c]
     refine rs.skip_take (i := 26) 42 rfl (by kernel_rfl) (by kernel_rfl) (by kernel_rfl) (fun _ _ _ _ h => h) rfl (by assumption) ?_
     simp only [rs.a, rs.b, rs.c]
     refine rs.skip_take (i := 27) 43 rfl (by kernel_rfl) (by kernel_rfl) (by kernel_rfl) (fun _ _ _ _ h => h) rfl (by assumption) ?_
     simp only [rs.a, rs.b, rs.c]
     refine rs.skip_take (i := 28) 44 rfl (by kernel_rfl) (by kernel_rfl) (by kernel_rfl) (fun _ _ _ _ h => h) rfl (by assumption) ?_
     simp only [rs.a, rs.b, rs.c]
     refine rs.skip_take (i := 29) 45 rfl (by kernel_rfl) (by kernel_rfl) (by kernel_rfl) (fun _ _ _ _ h => h) rfl (by assumption) ?_
     simp only [rs.a, rs.b, rs.c]
     refine rs.skip_take (i := 30) 46 rfl (by kernel_rfl) (by kernel_rfl) (by kernel_rfl) (fun _ _ _ _ h => h) rfl (by assumption) ?_
     simp only [rs.a, rs.b, rs.c]
     refine rs.skip_take (i := 31) 47 rfl (by kernel_rfl) (by kernel_rfl) (by kernel_rfl) (fun _ _ _ _ h => h) rfl (by assumption) ?_
     simp only [rs.a, rs.b, rs.c]
     refine rs.skip_take (i := 32) 48 rfl (by kernel_rfl) (by kernel_rfl) (by kernel_rfl) (fun _ _ _ _ h => h) rfl (by assumption) ?_
     simp only [rs.a, rs.b, rs.c]
     refine rs.skip_take (i := 33) 49 rfl (by kernel_rfl) (by kernel_rfl) (by kernel_rfl) (fun _ _ _ _ h => h) rfl (by assumption) ?_
     simp only [rs.a, rs.b, rs.c]
     refine rs.w 34 50 ?_ rfl ?_ ?_
     rotate_left 1
     ·(intro w hSw; (try dsimp only at hSw); go_simp; try with_reducible rfl)
     simp only [rs.a, rs.b, rs.c]
     refine rs.w 35 51 ?_ rfl ?_ ?_
     rotate_left 1
     ·(intro w hSw; (try dsimp only at hSw); go_simp; try with_reducible rfl)
     simp only [rs.a, rs.b, rs.c]
     refine wpAnyH_done (by kernel_rfl) ?_ _
     have R := Lib.hid (hB.drew.trans (hB2.mono hz))
     clear hB hB2 s0 s1 s2 s3 s4 t0 t1 t2 t3 t4
     go_wp2
     go_roundw
     case rel => exact ⟨1, by omega, by go_num, HR.out, R.out⟩
     case measure => simp [intOf]
    ·obtain ⟨j, hkj⟩ : ∃ j, k = j + 1 := ⟨k - 1, by omega⟩
     have hy : l[j]? = some l[j] := List.getElem?_eq_getElem (by omega)
     have hcy := note_at (HS.out.later hB) hy
     generalize l[j] = y at hy hcy
     obtain ⟨g', c'', e', _, _, b0, b1, _, _, _⟩ := hcy
     injection e' with e1 e2 e3
     injection e1 with e1
     injection e1 with e1
     subst e1
     clear e2 e3
     have HL := Lib.hid (fun V => less_any y.f y.n x.f x.n V)
     unfold IsB at HL
     have i0 : IntKind.i64.wrap ((k : Int) - 1) = (j : Int) := by rw [IntKind.wrap_i64]; omega
     have i1 : (0 : Int) ≤ (j : Int) := by omega
     have i3 : (0 : Int) < (k : Int) := by omega
     have HKJ := Lib.hid hkj
     have hx2 : l[j + 1]? = some x := by rw [← hkj]; exact hx
     clear hkj
     have i2 : (j : Int) < (l.length : Int) := by omega
     cases hls : less y.f y.n x.f x.n with
     | false =>
      have HR := Lib.hid (okNts_bad (most := most) hkl (show ordN l k = false by rw [HKJ.out, ordN_succ hx2 hy, hls, Bool.and_false]))
      rw [hls] at HL
      unfold okNt at hb
      rw [hb] at HK
      clear hb hx hy hls hx2
      go_wp2_with fail
      go_region_held3 (fun w' => w'.cell? ⟨g, k * 5, none⟩ = some (.int .i64 x.f) ∧ w'.cell? ⟨g, k * 5 + 1, none⟩ = some (.int .i64 x.n) ∧ w'.cell? ⟨g, k * 5 + 2, none⟩ = some (.int .i64 x.t) ∧ w'.cell? ⟨g, k * 5 + 3, none⟩ = some (.int .i64 x.u) ∧ w'.cell? ⟨g, k * 5 + 4, none⟩ = some (.string x.s) ∧ w'.cell? ⟨g, j * 5, none⟩ = some (.int .i64 y.f) ∧ w'.cell? ⟨g, j * 5 + 1, none⟩ = some (.int .i64 y.n)) (first | exact ⟨t0, t1, t2, t3, t4, b0, b1⟩ | exact ⟨s0, s1, s2, s3, s4, s5, s6⟩ | go_keep) ((first | (go_at_call 148; refine (HK.out _).mono ?_; rintro e w2 ⟨rfl, hB2⟩; have s0 := (hB2.cell (p := ⟨g, k * 5, none⟩) hg).trans t0; have s1 := (hB2.cell (p := ⟨g, k * 5 + 1, none⟩) hg).trans t1; have s2 := (hB2.cell (p := ⟨g, k * 5 + 2, none⟩) hg).trans t2; have s3 := (hB2.cell (p := ⟨g, k * 5 + 3, none⟩) hg).trans t3; have s4 := (hB2.cell (p := ⟨g, k * 5 + 4, none⟩) hg).trans t4; have s5 := (hB2.cell (p := ⟨g, j * 5, none⟩) hg).trans b0; have s6 := (hB2.cell (p := ⟨g, j * 5 + 1, none⟩) hg).trans b1) | (go_at_call 149; refine (HL.out _).mono ?_; rintro e w3 ⟨rfl, rfl⟩)))
      have R := Lib.hid (hB.drew.trans (hB2.mono hz))
      clear hB hB2 s0 s1 s2 s3 s4 s5 s6 t0 t1 t2 t3 t4 b0 b1
      go_wp2
      go_ret
      exact ⟨nb.ret_bool HR.out.symm, R.out⟩
     | true =>
      have HR := Lib.hid (allI_on HA.out (show ordN l k = true by rw [HKJ.out, ordN_succ hx2 hy, hls, hb]; rfl))
      rw [hls] at HL
      unfold okNt at hb
      rw [hb] at HK
      clear hb hx hy hls hx2
      go_wp2_with fail
      go_region_held3 (fun w' => w'.cell? ⟨g, k * 5, none⟩ = some (.int .i64 x.f) ∧ w'.cell? ⟨g, k * 5 + 1, none⟩ = some (.int .i64 x.n) ∧ w'.cell? ⟨g, k * 5 + 2, none⟩ = some (.int .i64 x.t) ∧ w'.cell? ⟨g, k * 5 + 3, none⟩ = some (.int .i64 x.u) ∧ w'.cell? ⟨g, k * 5 + 4, none⟩ = some (.string x.s) ∧ w'.cell? ⟨g, j * 5, none⟩ = some (.int .i64 y.f) ∧ w'.cell? ⟨g, j * 5 + 1, none⟩ = some (.int .i64 y.n)) (first | exact ⟨t0, t1, t2, t3, t4, b0, b1⟩ | exact ⟨s0, s1, s2, s3, s4, s5, s6⟩ | go_keep) ((first | (go_at_call 148; refine (HK.out _).mono ?_; rintro e w2 ⟨rfl, hB2⟩; have s0 := (hB2.cell (p := ⟨g, k * 5, none⟩) hg).trans t0; have s1 := (hB2.cell (p := ⟨g, k * 5 + 1, none⟩) hg).trans t1; have s2 := (hB2.cell (p := ⟨g, k * 5 + 2, none⟩) hg).trans t2; have s3 := (hB2.cell (p := ⟨g, k * 5 + 3, none⟩) hg).trans t3; have s4 := (hB2.cell (p := ⟨g, k * 5 + 4, none⟩) hg).trans t4; have s5 := (hB2.cell (p := ⟨g, j * 5, none⟩) hg).trans b0; have s6 := (hB2.cell (p := ⟨g, j * 5 + 1, none⟩) hg).trans b1) | (go_at_call 149; refine (HL.out _).mono ?_; rintro e w3 ⟨rfl, rfl⟩)))
      have R := Lib.hid (hB.drew.trans (hB2.mono hz))
      clear hB hB2 s0 s1 s2 s3 s4 s5 s6 t0 t1 t2 t3 t4 b0 b1
      go_wp2
      go_roundw
      case rel => exact ⟨k + 1, by omega, by go_num, HR.out, R.out⟩
      case measure => simp [intOf]; omega
  ·obtain rfl : k = l.length := by omega
   have HR := Lib.hid (okNts_all (most := most) (by omega) HA.out)
   go_wp2
   go_ret
   exact ⟨nb.ret_bool HR.out.symm, hB⟩
end Go.Proofs.YtckicpnnclbkpaaGreatDoor.kp

