/-
  Plain: what a keeper has; when it is ok. Nothing here speaks of a program.
-/
import Derived.Test.YtckicpnnclbkpaaOkPlain
namespace Go.Proofs.Ytckicpnnclbkpaa.kp
open Go.Proofs.Ytckicpnnclbkpaa.nb Go.Proofs.Ytckicpnnclbkpaa.ok

/-- a message; what is remembered of one -/
structure Nt where
  f : Int
  n : Int
  t : Int
  u : Int
  s : ByteArray
structure Mk where
  f : Int
  n : Int
  u : Int
structure Kp where
  id : Int
  time : Int
  next : Int
  held : List Nt
  marks : List Mk
  inbox : List Nt

def okNt (x : Nt) : Bool := okN x.f x.n x.t x.u x.s
def okMk (x : Mk) : Bool := inB x.f 0 3 && inB x.n 1 99 && inB x.u 1 999
def less (f n f' n' : Int) : Bool := decide (f < f' ∨ f = f' ∧ n < n')

/-- all of the first k places -/
def allI (k : Nat) (p : Nat → Bool) : Bool := (List.range k).all p
theorem allI_zero (p : Nat → Bool) : allI 0 p = true := rfl
theorem allI_succ (k : Nat) (p : Nat → Bool) : allI (k + 1) p = (allI k p && p k) := by unfold allI; rw [List.range_succ, List.all_append]; simp
theorem allI_on {k : Nat} {p : Nat → Bool} (h : allI k p = true) (hp : p k = true) : allI (k + 1) p = true := by rw [allI_succ, h, hp]; rfl
theorem allI_iff {k : Nat} {p : Nat → Bool} : allI k p = true ↔ ∀ i, i < k → p i = true := by unfold allI; rw [List.all_eq_true]; simp
theorem allI_bad {n k : Nat} {p : Nat → Bool} (hk : k < n) (hp : p k = false) : allI n p = false := by
  cases h : allI n p with
  | false => rfl
  | true => rw [allI_iff] at h; rw [h k hk] at hp; cases hp

/-- a place of a list of messages: its message is ok, and behind the one ahead of it -/
def ordN (l : List Nt) (i : Nat) : Bool :=
  match l[i]? with
  | none => true
  | some x => okNt x && (match i with
    | 0 => true
    | j + 1 => match l[j]? with
      | none => true
      | some y => less y.f y.n x.f x.n)
def ordM (l : List Mk) (i : Nat) : Bool :=
  match l[i]? with
  | none => true
  | some x => okMk x && (match i with
    | 0 => true
    | j + 1 => match l[j]? with
      | none => true
      | some y => less y.f y.n x.f x.n)
def okNts (l : List Nt) (most : Nat) : Bool := decide (l.length ≤ most) && allI l.length (ordN l)
def okMks (l : List Mk) : Bool := decide (l.length ≤ 12) && allI l.length (ordM l)
theorem ordN_zero {l : List Nt} {x : Nt} (h : l[0]? = some x) : ordN l 0 = okNt x := by simp [ordN, h]
theorem ordN_succ {l : List Nt} {i : Nat} {x y : Nt} (h : l[i + 1]? = some x) (h' : l[i]? = some y) : ordN l (i + 1) = (okNt x && less y.f y.n x.f x.n) := by simp [ordN, h, h']
theorem ordM_zero {l : List Mk} {x : Mk} (h : l[0]? = some x) : ordM l 0 = okMk x := by simp [ordM, h]
theorem ordM_succ {l : List Mk} {i : Nat} {x y : Mk} (h : l[i + 1]? = some x) (h' : l[i]? = some y) : ordM l (i + 1) = (okMk x && less y.f y.n x.f x.n) := by simp [ordM, h, h']

/-- the place of a message in a list, -1 if it is not there -/
def ixN (l : List Nt) (f n : Int) : Int := match l.findIdx? (fun x => x.f == f && x.n == n) with
  | some i => (i : Nat)
  | none => -1
def ixM (l : List Mk) (f n : Int) : Int := match l.findIdx? (fun x => x.f == f && x.n == n) with
  | some i => (i : Nat)
  | none => -1
def hasN (l : List Nt) (f n : Int) : Bool := l.any fun x => x.f == f && x.n == n
def hasM (l : List Mk) (f n : Int) : Bool := l.any fun x => x.f == f && x.n == n
/-- does a keeper stand on a message's way, ahead of its end? -/
def way (x : Nt) (id : Int) : Bool := decide (x.f ≤ id ∧ id < x.t ∨ x.t < id ∧ id ≤ x.f)

def heldOk (k : Kp) (x : Nt) : Bool := decide (k.time < x.u) && way x k.id && !(x.f == k.id && decide (k.next ≤ x.n)) && !hasM k.marks x.f x.n
def markOk (k : Kp) (x : Mk) : Bool := decide (k.time < x.u) && !(x.f == k.id && decide (k.next ≤ x.n))
def inOk (k : Kp) (x : Nt) : Bool := (x.t == k.id) && !(x.f == k.id && decide (k.next ≤ x.n)) && !(decide (k.time < x.u) && !hasM k.marks x.f x.n)
def okK (k : Kp) : Bool := inB k.id 0 3 && inB k.time 0 999 && inB k.next 1 100 && okNts k.held 6 && okMks k.marks && okNts k.inbox 6 && k.held.all (heldOk k) && k.marks.all (markOk k) && k.inbox.all (inOk k)
end Go.Proofs.Ytckicpnnclbkpaa.kp
