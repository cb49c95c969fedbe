/-
  Plain: going through a list place by place: all, the first, putting in order, dropping.
-/
import Derived.Test.YtgihbilpimempabKeepPlain
namespace Go.Proofs.Ytgihbilpimempab.kp
open Go.Proofs.Ytgihbilpimempab.nb Go.Proofs.Ytgihbilpimempab.ok

section
variable {α : Type} {l : List α} {p : α → Bool} {k : Nat} {x : α}
theorem take_on (h : l[k]? = some x) : l.take (k + 1) = l.take k ++ [x] := by
  obtain ⟨hk, e⟩ := List.getElem?_eq_some_iff.1 h
  rw [List.take_succ_eq_append_getElem hk, e]
theorem all_on (h : (l.take k).all p = true) (hx : l[k]? = some x) (hp : p x = true) : (l.take (k + 1)).all p = true := by
  rw [take_on hx, List.all_append, h]; simp [hp]
theorem all_bad (hx : l[k]? = some x) (hp : p x = false) : l.all p = false := by
  rw [List.all_eq_false]
  exact ⟨x, List.mem_of_getElem? hx, by simp [hp]⟩
theorem all_end (h : (l.take k).all p = true) (hk : l.length ≤ k) : l.all p = true := by rwa [List.take_of_length_le hk] at h
/-- no place ahead of k is one -/
theorem none_on (h : (l.take k).any p = false) (hx : l[k]? = some x) (hp : p x = false) : (l.take (k + 1)).any p = false := by
  rw [take_on hx, List.any_append, h]; simp [hp]
theorem idx_first (h : (l.take k).any p = false) (hx : l[k]? = some x) (hp : p x = true) : l.findIdx? p = some k := by
  rw [List.findIdx?_eq_some_iff_getElem]
  obtain ⟨hk, e⟩ := List.getElem?_eq_some_iff.1 hx
  refine ⟨hk, by rw [e]; exact hp, fun j hj => ?_⟩
  rw [List.any_eq_false] at h
  have hm : l[j] ∈ l.take k := by
    rw [List.mem_take_iff_getElem]
    exact ⟨j, by omega, rfl⟩
  simpa using h _ hm
theorem idx_none (h : (l.take k).any p = false) (hk : l.length ≤ k) : l.findIdx? p = none := by
  rw [List.take_of_length_le hk] at h
  rw [List.findIdx?_eq_none_iff]
  rw [List.any_eq_false] at h
  intro y hy
  simpa using h y hy
end
theorem ixN_at {l : List Nt} {f n : Int} {k : Nat} {x : Nt} (h : (l.take k).any (fun x => x.f == f && x.n == n) = false) (hx : l[k]? = some x) (hp : (x.f == f && x.n == n) = true) : ixN l f n = (k : Nat) := by
  unfold ixN; rw [idx_first h hx hp]
theorem ixN_no {l : List Nt} {f n : Int} {k : Nat} (h : (l.take k).any (fun x => x.f == f && x.n == n) = false) (hk : l.length ≤ k) : ixN l f n = -1 := by
  unfold ixN; rw [idx_none h hk]
theorem ixM_at {l : List Mk} {f n : Int} {k : Nat} {x : Mk} (h : (l.take k).any (fun x => x.f == f && x.n == n) = false) (hx : l[k]? = some x) (hp : (x.f == f && x.n == n) = true) : ixM l f n = (k : Nat) := by
  unfold ixM; rw [idx_first h hx hp]
theorem ixM_no {l : List Mk} {f n : Int} {k : Nat} (h : (l.take k).any (fun x => x.f == f && x.n == n) = false) (hk : l.length ≤ k) : ixM l f n = -1 := by
  unfold ixM; rw [idx_none h hk]
theorem ixN_cases (l : List Nt) (f n : Int) : (hasN l f n = false ∧ ixN l f n = -1) ∨ (hasN l f n = true ∧ ∃ (i : Nat) (x : Nt), ixN l f n = (i : Nat) ∧ l[i]? = some x ∧ x.f = f ∧ x.n = n) := by
  unfold ixN hasN
  cases h : l.findIdx? (fun x => x.f == f && x.n == n) with
  | none =>
    refine .inl ⟨?_, rfl⟩
    rw [List.any_eq_false]
    intro y hy
    rw [List.findIdx?_eq_none_iff] at h
    simpa using h y hy
  | some i =>
    rw [List.findIdx?_eq_some_iff_getElem] at h
    obtain ⟨hi, hp, _⟩ := h
    refine .inr ⟨?_, i, l[i], rfl, List.getElem?_eq_getElem hi, ?_⟩
    · rw [List.any_eq_true]; exact ⟨l[i], List.getElem_mem hi, hp⟩
    · rw [Bool.and_eq_true, beq_iff_eq, beq_iff_eq] at hp; exact hp
theorem ixM_cases (l : List Mk) (f n : Int) : (hasM l f n = false ∧ ixM l f n = -1) ∨ (hasM l f n = true ∧ ∃ (i : Nat) (x : Mk), ixM l f n = (i : Nat) ∧ l[i]? = some x ∧ x.f = f ∧ x.n = n) := by
  unfold ixM hasM
  cases h : l.findIdx? (fun x => x.f == f && x.n == n) with
  | none =>
    refine .inl ⟨?_, rfl⟩
    rw [List.any_eq_false]
    intro y hy
    rw [List.findIdx?_eq_none_iff] at h
    simpa using h y hy
  | some i =>
    rw [List.findIdx?_eq_some_iff_getElem] at h
    obtain ⟨hi, hp, _⟩ := h
    refine .inr ⟨?_, i, l[i], rfl, List.getElem?_eq_getElem hi, ?_⟩
    · rw [List.any_eq_true]; exact ⟨l[i], List.getElem_mem hi, hp⟩
    · rw [Bool.and_eq_true, beq_iff_eq, beq_iff_eq] at hp; exact hp

/-- a message, a mark put in order -/
def putL {α : Type} (p : α → Bool) (l : List α) (x : α) : List α := l.take (l.findIdx p) ++ x :: l.drop (l.findIdx p)
def putN (l : List Nt) (x : Nt) : List Nt := putL (fun y => less x.f x.n y.f y.n) l x
def putM (l : List Mk) (x : Mk) : List Mk := putL (fun y => less x.f x.n y.f y.n) l x
theorem putL_len {α : Type} (p : α → Bool) (l : List α) (x : α) : (putL p l x).length = l.length + 1 := by
  unfold putL
  have := List.findIdx_le_length (p := p) (xs := l)
  simp [List.length_take, List.length_drop]
  omega
/-- what lies there behind k places of the going through -/
inductive Putting {α : Type} (p : α → Bool) (l : List α) (x : α) (k : Nat) : Bool → List α → Prop where
  | yet : (l.take k).any p = false → Putting p l x k false (l.take k)
  | done (j : Nat) : j < k → l.findIdx p = j → Putting p l x k true (l.take j ++ x :: (l.drop j).take (k - j))
section
variable {α : Type} {p : α → Bool} {l : List α} {x y : α} {k : Nat} {b : Bool} {out : List α}
theorem findIdx_first (h : (l.take k).any p = false) (hx : l[k]? = some y) (hp : p y = true) : l.findIdx p = k := by
  have := idx_first h hx hp
  rw [List.findIdx?_eq_some_iff_findIdx_eq] at this
  exact this.2
theorem put_start : Putting p l x 0 false [] := .yet (by simp)
theorem put_skip (h : Putting p l x k false out) (hy : l[k]? = some y) (hp : p y = false) : Putting p l x (k + 1) false (out ++ [y]) := by
  cases h with
  | yet h => rw [← take_on hy]; exact .yet (none_on h hy hp)
theorem put_here (h : Putting p l x k false out) (hy : l[k]? = some y) (hp : p y = true) : Putting p l x (k + 1) true (out ++ [x] ++ [y]) := by
  cases h with
  | yet h =>
    have e := findIdx_first h hy hp
    have hd : (l.drop k).take (k + 1 - k) = [y] := by
      rw [show k + 1 - k = 0 + 1 by omega, take_on (x := y) (by rw [List.getElem?_drop]; exact hy)]
      rfl
    have := Putting.done (p := p) (l := l) (x := x) (k := k + 1) k (by omega) e
    rw [hd] at this
    simpa using this
theorem put_on (h : Putting p l x k true out) (hy : l[k]? = some y) : Putting p l x (k + 1) true (out ++ [y]) := by
  cases h with
  | done j hj e =>
    have hd : (l.drop j).take (k + 1 - j) = (l.drop j).take (k - j) ++ [y] := by
      have : (l.drop j)[k - j]? = some y := by rw [List.getElem?_drop, show j + (k - j) = k by omega]; exact hy
      rw [show k + 1 - j = k - j + 1 by omega, take_on this]
    have := Putting.done (p := p) (l := l) (x := x) (k := k + 1) j (by omega) e
    rw [hd] at this
    simpa using this
theorem put_end (h : Putting p l x k true out) (hk : l.length ≤ k) : out = putL p l x := by
  cases h with
  | done j hj e =>
    unfold putL
    rw [e, List.take_of_length_le (l := l.drop j) (by rw [List.length_drop]; omega)]
theorem put_last (h : Putting p l x k false out) (hk : l.length ≤ k) : out ++ [x] = putL p l x := by
  cases h with
  | yet h =>
    rw [List.take_of_length_le hk] at h ⊢
    unfold putL
    have : l.findIdx p = l.length := by
      rw [List.findIdx_eq_length]
      intro y hy
      rw [List.any_eq_false] at h
      simpa using h y hy
    rw [this, List.take_length, List.drop_length]
theorem put_len (h : Putting p l x k b out) : out.length ≤ k + 1 := by
  cases h with
  | yet h => rw [List.length_take]; omega
  | done j hj e => simp [List.length_take, List.length_drop]; omega
end
end Go.Proofs.Ytgihbilpimempab.kp
