/-
  Merged texts: KeepPlain, KeepRec, KeepIn, NoteIn, KeepSz.
-/
import Derived.Test.YtgihbilpimempabGreatDoorGFnExactKeepDo1
import Derived.Test.YtgihbilpimempabGreatDoorGFnExactKeepDo3
import Derived.Deep.Slices
import Derived.Deep.Fields
import Derived.ChangeSame
import Derived.OpenShut
import Derived.Below
import Derived.OwnWalk
/-
  Plain: what a keeper has; when it is ok. Nothing here speaks of a program.
-/
namespace Go.Proofs.YtgihbilpimempabGreatDoor.kp
open Go.Proofs.YtgihbilpimempabGreatDoor.nb Go.Proofs.YtgihbilpimempabGreatDoor.ok

/-- a message; what is remembered of one -/
structure Nt where
  f : Int
  n : Int
  t : Int
  u : Int
  s : ByteArray
structure Mk where
  f : Int
  n : Int
  u : Int
structure Kp where
  id : Int
  time : Int
  next : Int
  held : List Nt
  marks : List Mk
  inbox : List Nt

def okNt (x : Nt) : Bool := okN x.f x.n x.t x.u x.s
def okMk (x : Mk) : Bool := inB x.f 0 3 && inB x.n 1 99 && inB x.u 1 999
def less (f n f' n' : Int) : Bool := decide (f < f' ∨ f = f' ∧ n < n')

/-- all of the first k places -/
def allI (k : Nat) (p : Nat → Bool) : Bool := (List.range k).all p
theorem allI_zero (p : Nat → Bool) : allI 0 p = true := rfl
theorem allI_succ (k : Nat) (p : Nat → Bool) : allI (k + 1) p = (allI k p && p k) := by unfold allI; rw [List.range_succ, List.all_append]; simp
theorem allI_on {k : Nat} {p : Nat → Bool} (h : allI k p = true) (hp : p k = true) : allI (k + 1) p = true := by rw [allI_succ, h, hp]; rfl
theorem allI_iff {k : Nat} {p : Nat → Bool} : allI k p = true ↔ ∀ i, i < k → p i = true := by unfold allI; rw [List.all_eq_true]; simp
theorem allI_bad {n k : Nat} {p : Nat → Bool} (hk : k < n) (hp : p k = false) : allI n p = false := by
  cases h : allI n p with
  | false => rfl
  | true => rw [allI_iff] at h; rw [h k hk] at hp; cases hp

/-- a place of a list of messages: its message is ok, and behind the one ahead of it -/
def ordN (l : List Nt) (i : Nat) : Bool :=
  match l[i]? with
  | none => true
  | some x => okNt x && (match i with
    | 0 => true
    | j + 1 => match l[j]? with
      | none => true
      | some y => less y.f y.n x.f x.n)
def ordM (l : List Mk) (i : Nat) : Bool :=
  match l[i]? with
  | none => true
  | some x => okMk x && (match i with
    | 0 => true
    | j + 1 => match l[j]? with
      | none => true
      | some y => less y.f y.n x.f x.n)
def okNts (l : List Nt) (most : Nat) : Bool := decide (l.length ≤ most) && allI l.length (ordN l)
def okMks (l : List Mk) : Bool := decide (l.length ≤ 12) && allI l.length (ordM l)
theorem ordN_zero {l : List Nt} {x : Nt} (h : l[0]? = some x) : ordN l 0 = okNt x := by simp [ordN, h]
theorem ordN_succ {l : List Nt} {i : Nat} {x y : Nt} (h : l[i + 1]? = some x) (h' : l[i]? = some y) : ordN l (i + 1) = (okNt x && less y.f y.n x.f x.n) := by simp [ordN, h, h']
theorem ordM_zero {l : List Mk} {x : Mk} (h : l[0]? = some x) : ordM l 0 = okMk x := by simp [ordM, h]
theorem ordM_succ {l : List Mk} {i : Nat} {x y : Mk} (h : l[i + 1]? = some x) (h' : l[i]? = some y) : ordM l (i + 1) = (okMk x && less y.f y.n x.f x.n) := by simp [ordM, h, h']

/-- the place of a message in a list, -1 if it is not there -/
def ixN (l : List Nt) (f n : Int) : Int := match l.findIdx? (fun x => x.f == f && x.n == n) with
  | some i => (i : Nat)
  | none => -1
def ixM (l : List Mk) (f n : Int) : Int := match l.findIdx? (fun x => x.f == f && x.n == n) with
  | some i => (i : Nat)
  | none => -1
def hasN (l : List Nt) (f n : Int) : Bool := l.any fun x => x.f == f && x.n == n
def hasM (l : List Mk) (f n : Int) : Bool := l.any fun x => x.f == f && x.n == n
/-- does a keeper stand on a message's way, ahead of its end? -/
def way (x : Nt) (id : Int) : Bool := decide (x.f ≤ id ∧ id < x.t ∨ x.t < id ∧ id ≤ x.f)

def heldOk (k : Kp) (x : Nt) : Bool := decide (k.time < x.u) && way x k.id && !(x.f == k.id && decide (k.next ≤ x.n)) && !hasM k.marks x.f x.n
def markOk (k : Kp) (x : Mk) : Bool := decide (k.time < x.u) && !(x.f == k.id && decide (k.next ≤ x.n))
def inOk (k : Kp) (x : Nt) : Bool := (x.t == k.id) && !(x.f == k.id && decide (k.next ≤ x.n)) && !(decide (k.time < x.u) && !hasM k.marks x.f x.n)
def okK (k : Kp) : Bool := inB k.id 0 3 && inB k.time 0 999 && inB k.next 1 100 && okNts k.held 6 && okMks k.marks && okNts k.inbox 6 && k.held.all (heldOk k) && k.marks.all (markOk k) && k.inbox.all (inOk k)
end Go.Proofs.YtgihbilpimempabGreatDoor.kp

/-
  Words: messages and marks as records; what a keeper has, as a value.
-/
namespace Go.Proofs.YtgihbilpimempabGreatDoor.kp
open Go.ChangeShapes Go.WideShapes Go.ChangeAt Go.RowKit
open Go.Proofs.YtgihbilpimempabGreatDoor.wd Go.Proofs.YtgihbilpimempabGreatDoor.ow Go.Proofs.YtgihbilpimempabGreatDoor.rl Go.Proofs.YtgihbilpimempabGreatDoor.ok

def ntF (x : Nt) : List Value := [.int .i64 x.f, .int .i64 x.n, .int .i64 x.t, .int .i64 x.u, .string x.s]
def mkF (x : Mk) : List Value := [.int .i64 x.f, .int .i64 x.n, .int .i64 x.u]
def ntS : Shape Nt := ⟨5, ntF, fun _ => rfl, fun x u hu => by simp [ntF] at hu; rcases hu with rfl | rfl | rfl | rfl | rfl <;> rfl⟩
def mkS : Shape Mk := ⟨3, mkF, fun _ => rfl, fun x u hu => by simp [mkF] at hu; rcases hu with rfl | rfl | rfl <;> rfl⟩
/-- a mark as a value -/
def mark (f n u : Int) : Value := .agg #[.int .i64 f, .int .i64 n, .int .i64 u]
def ntV (x : Nt) : Value := note x.f x.n x.t x.u x.s
def mkV (x : Mk) : Value := mark x.f x.n x.u
/-- what a keeper has, as a value -/
abbrev kpV (id time next : Int) (vh vm vi : Value) : Value := .agg #[.int .i64 id, .int .i64 time, .int .i64 next, vh, vm, vi]

abbrev SeesN (w : World) (v : Value) (l : List Nt) : Prop := SeesR ntS w v l
abbrev SeesMk (w : World) (v : Value) (l : List Mk) : Prop := SeesR mkS w v l
theorem note_at {w : World} {v : Value} {l : List Nt} (h : SeesN w v l) {i : Nat} {x : Nt} (hx : l[i]? = some x) :
    ∃ g c, v = .slice (some ⟨g, 0, none⟩) l.length c ∧ g < w.heap.size ∧ i < l.length ∧ w.cell? ⟨g, i * 5, none⟩ = some (.int .i64 x.f) ∧ w.cell? ⟨g, i * 5 + 1, none⟩ = some (.int .i64 x.n) ∧ w.cell? ⟨g, i * 5 + 2, none⟩ = some (.int .i64 x.t) ∧ w.cell? ⟨g, i * 5 + 3, none⟩ = some (.int .i64 x.u) ∧ w.cell? ⟨g, i * 5 + 4, none⟩ = some (.string x.s) := by
  obtain ⟨g, c, e, hg, hi, hc⟩ := h.at hx
  exact ⟨g, c, e, hg, hi, hc 0 _ rfl, hc 1 _ rfl, hc 2 _ rfl, hc 3 _ rfl, hc 4 _ rfl⟩
theorem mark_at {w : World} {v : Value} {l : List Mk} (h : SeesMk w v l) {i : Nat} {x : Mk} (hx : l[i]? = some x) :
    ∃ g c, v = .slice (some ⟨g, 0, none⟩) l.length c ∧ g < w.heap.size ∧ i < l.length ∧ w.cell? ⟨g, i * 3, none⟩ = some (.int .i64 x.f) ∧ w.cell? ⟨g, i * 3 + 1, none⟩ = some (.int .i64 x.n) ∧ w.cell? ⟨g, i * 3 + 2, none⟩ = some (.int .i64 x.u) := by
  obtain ⟨g, c, e, hg, hi, hc⟩ := h.at hx
  exact ⟨g, c, e, hg, hi, hc 0 _ rfl, hc 1 _ rfl, hc 2 _ rfl⟩

/-- what a keeper has lies there, to be read -/
structure SeesK (w : World) (k : Kp) (vh vm vi : Value) : Prop where
  held : SeesN w vh k.held
  marks : SeesMk w vm k.marks
  inbox : SeesN w vi k.inbox
theorem SeesK.later {w w' : World} {k : Kp} {vh vm vi : Value} (h : SeesK w k vh vm vi) (hB : Below w.heap.size w w') : SeesK w' k vh vm vi := ⟨h.held.later hB, h.marks.later hB, h.inbox.later hB⟩
theorem SeesK.drewN {w : World} {k : Kp} {vh vm vi : Value} (h : SeesK w k vh vm vi) (q : Nat) : SeesK (w.drewN q) k vh vm vi := ⟨h.held, h.marks, h.inbox⟩

theorem infoNote : (Tryz.prog.info? 74).map (fun i => (i.zero, i.size, i.bytes)) = some (some (.agg #[.int .i64 0, .int .i64 0, .int .i64 0, .int .i64 0, .string ⟨#[]⟩]), 5, 48) := by kernel_rfl
theorem infoMark : (Tryz.prog.info? 88).map (fun i => (i.zero, i.size, i.bytes)) = some (some (.agg #[.int .i64 0, .int .i64 0, .int .i64 0]), 3, 24) := by kernel_rfl
end Go.Proofs.YtgihbilpimempabGreatDoor.kp

/-
  What a keeper has, come in as an argument, in our words: its lists read as messages and marks.
-/
namespace Go.Proofs.YtgihbilpimempabGreatDoor.kp
open Go.ChangeShapes Go.WideShapes Go.ChangeAt Go.RowKit Go.Deep
open Go.Proofs.YtgihbilpimempabGreatDoor.wd Go.Proofs.YtgihbilpimempabGreatDoor.rl

/-- a slice that came in and reads as records -/
def InR {α : Type} (S : Shape α) (w : World) (v : Value) (l : List α) : Prop :=
  ∃ A c, v = .slice A l.length c ∧ l.length ≤ maxLen ∧ (0 < l.length → ∃ g o, A = some ⟨g, o, none⟩ ∧ g < w.heap.size ∧ ∀ i x, l[i]? = some x → ∀ j u, (S.f x)[j]? = some u → w.cell? ⟨g, o + i * S.n + j, none⟩ = some u)
theorem InR.later {α : Type} {S : Shape α} {w w' : World} {v : Value} {l : List α} (h : InR S w v l) (hB : Below w.heap.size w w') : InR S w' v l := by
  obtain ⟨A, c, rfl, h1, hc⟩ := h
  refine ⟨A, c, rfl, h1, fun hn => ?_⟩
  obtain ⟨g, o, rfl, hg, hcell⟩ := hc hn
  exact ⟨g, o, rfl, Nat.lt_of_lt_of_le hg hB.size, fun i x hx j u hu => (hB.cell (p := ⟨g, _, none⟩) hg).trans (hcell i x hx j u hu)⟩
theorem InR.at {α : Type} {S : Shape α} {w : World} {v : Value} {l : List α} (h : InR S w v l) {i : Nat} {x : α} (hx : l[i]? = some x) :
    ∃ g o c, v = .slice (some ⟨g, o, none⟩) l.length c ∧ g < w.heap.size ∧ i < l.length ∧ ∀ j u, (S.f x)[j]? = some u → w.cell? ⟨g, o + i * S.n + j, none⟩ = some u := by
  obtain ⟨A, c, rfl, _, hc⟩ := h
  have hi := (List.getElem?_eq_some_iff.mp hx).1
  obtain ⟨g, o, rfl, hlt, hr⟩ := hc (by omega)
  exact ⟨g, o, c, rfl, hlt, hi, hr i x hx⟩

structure InK (w : World) (k : Kp) (vh vm vi : Value) : Prop where
  held : InR ntS w vh k.held
  marks : InR mkS w vm k.marks
  inbox : InR ntS w vi k.inbox
  heldS : ∀ x ∈ k.held, x.s.size ≤ maxLen
  inboxS : ∀ x ∈ k.inbox, x.s.size ≤ maxLen
theorem InK.later {w w' : World} {k : Kp} {vh vm vi : Value} (h : InK w k vh vm vi) (hB : Below w.heap.size w w') : InK w' k vh vm vi := ⟨h.held.later hB, h.marks.later hB, h.inbox.later hB, h.heldS, h.inboxS⟩

theorem cells_n : Tryz.prog.cellsOf 101 = 5 := by kernel_rfl
theorem cells_m : Tryz.prog.cellsOf 121 = 3 := by kernel_rfl
theorem cells_k : Tryz.prog.cellsOf 39 = 6 := by kernel_rfl

theorem grow_list {α : Type} {P : Nat → α → Prop} (n : Nat) (h : ∀ i, i < n → ∃ m, P i m) : ∃ l : List α, l.length = n ∧ ∀ i m, l[i]? = some m → P i m := by
  induction n with
  | zero => exact ⟨[], rfl, fun i m hm => by simp at hm⟩
  | succ n ih =>
    obtain ⟨l, hl, hP⟩ := ih (fun i hi => h i (by omega))
    obtain ⟨m, hm⟩ := h n (by omega)
    refine ⟨l ++ [m], by simp [hl], fun i m' hm' => ?_⟩
    by_cases e : i < l.length
    · rw [List.getElem?_append_left e] at hm'; exact hP i m' hm'
    · rw [List.getElem?_append_right (by omega)] at hm'
      have hi : i - l.length = 0 := by
        rcases Nat.eq_zero_or_pos (i - l.length) with h | h
        · exact h
        · rw [List.getElem?_eq_none (by simp; omega)] at hm'; cases hm'
      rw [hi] at hm'
      simp at hm'
      subst hm'
      obtain rfl : i = n := by omega
      exact hm

section
variable {H : Type} {enc : TypeId × Value → H} {w : World} {base b0 : Nat} {r : Reach} {spare : Nat → Bool} {held : Bool}

/-- from cells that were read to a list in our words -/
theorem rows_in {α : Type} {S : Shape α} (hS : 0 < S.n) {a : Addr} {len cap : Nat} {Q : α → Prop} (hm : cap ≤ maxLen) (hl : len ≤ cap)
    (h : ∀ i, i < len → ∃ x, (∀ j u, (S.f x)[j]? = some u → w.cell? (a.add (i * S.n + j)) = some u) ∧ Q x) :
    ∃ l : List α, InR S w (.slice (some a) len cap) l ∧ ∀ x ∈ l, Q x := by
  obtain ⟨l, hll, hP⟩ := grow_list len h
  refine ⟨l, ⟨some a, cap, by rw [hll], by omega, fun hn => ?_⟩, fun x hx => ?_⟩
  · have hx0 := List.getElem?_eq_getElem hn
    have hu : (S.f l[0])[0]? = some ((S.f l[0])[0]'(by rw [S.len]; exact hS)) := List.getElem?_eq_getElem _
    have h0 := (hP 0 _ hx0).1 0 _ hu
    obtain ⟨g, o, spot⟩ := a
    have hspot : spot = none := by simpa [Addr.add] using World.cell?_spot h0
    subst hspot
    have e : ∀ j, (⟨g, o, none⟩ : Addr).add j = ⟨g, o + j, none⟩ := fun j => by unfold Addr.add; split <;> simp_all
    refine ⟨g, o, rfl, ?_, fun i x hx j u hu => ?_⟩
    · rcases Nat.lt_or_ge g w.heap.size with hlt | hge
      · exact hlt
      · rw [e] at h0
        have : w.heap[g]? = none := Array.getElem?_eq_none hge
        simp [World.cell?, this] at h0
    · have := (hP i x hx).1 j u hu
      rw [e, ← Nat.add_assoc] at this
      exact this
  · obtain ⟨i, hi, rfl⟩ := List.mem_iff_getElem.mp hx
    exact (hP i _ (List.getElem?_eq_getElem hi)).2

set_option maxRecDepth 100000 in
theorem notes_in {fuel : Nat} {c : Value} {x : DataW H × List MemPlace} (h : DataW.trod enc Tryz.prog w base spare held fuel 36 [c] = some x) : ∃ l : List Nt, InR ntS w c l ∧ ∀ x ∈ l, x.s.size ≤ maxLen := by
  rcases open_slice Tryz.underlying36 h with ⟨hcs, _⟩ | ⟨a, len, cap, m, n, D, Pl, hcs, hb, hl, hm, hmm, hx, hi⟩
  · injection hcs with hcs _
    subst hcs
    exact ⟨[], ⟨none, 0, rfl, by simp, fun h => absurd h (by simp)⟩, fun x hx => by simp at hx⟩
  · injection hcs with hcs _
    subst hcs
    have hlm : len ≤ m := by rw [hmm]; split <;> omega
    refine rows_in (S := ntS) (by decide) hm hl (fun i hilt => ?_)
    obtain ⟨cs', hc, ht⟩ := hi i (by omega)
    rw [cells_n] at hc
    obtain ⟨_, hcl, hat⟩ := World.cells?_some hc
    obtain ⟨xs, n', _, _, _, hl5, hg⟩ := DataW.trod_struct Tryz.underlying101 ht
    match cs', hcl with
    | [c0, c1, c2, c3, c4], _ =>
      have h0 := hg 0 _ rfl
      have h1 := hg 1 _ rfl
      have h2 := hg 2 _ rfl
      have h3 := hg 3 _ rfl
      have h4 := hg 4 _ rfl
      have j0 : DataW.trod enc Tryz.prog w base spare held n' 3 [c0] = xs[0]? := h0
      have j1 : DataW.trod enc Tryz.prog w base spare held n' 3 [c1] = xs[1]? := h1
      have j2 : DataW.trod enc Tryz.prog w base spare held n' 3 [c2] = xs[2]? := h2
      have j3 : DataW.trod enc Tryz.prog w base spare held n' 3 [c3] = xs[3]? := h3
      have j4 : DataW.trod enc Tryz.prog w base spare held n' 9 [c4] = xs[4]? := h4
      have hl5' : xs.length = 5 := hl5
      rw [List.getElem?_eq_getElem (by omega)] at j0 j1 j2 j3 j4
      obtain ⟨i0, e0, _, _⟩ := DataW.trod_int Tryz.underlying3 j0
      obtain ⟨i1, e1, _, _⟩ := DataW.trod_int Tryz.underlying3 j1
      obtain ⟨i2, e2, _, _⟩ := DataW.trod_int Tryz.underlying3 j2
      obtain ⟨i3, e3, _, _⟩ := DataW.trod_int Tryz.underlying3 j3
      obtain ⟨s, e4, _, hs⟩ := DataW.trod_string Tryz.underlying9 j4
      simp at e0 e1 e2 e3 e4
      subst e0; subst e1; subst e2; subst e3; subst e4
      refine ⟨⟨i0, i1, i2, i3, s⟩, fun j u hu => ?_, hs⟩
      have hj : j < 5 := (List.getElem?_eq_some_iff.1 hu).1
      have := hat j hj
      rw [Go.Deep.add_add] at this
      rw [show ntS.n = 5 from rfl, this]
      exact hu

set_option maxRecDepth 100000 in
theorem marks_in {fuel : Nat} {c : Value} {x : DataW H × List MemPlace} (h : DataW.trod enc Tryz.prog w base spare held fuel 37 [c] = some x) : ∃ l : List Mk, InR mkS w c l := by
  rcases open_slice Tryz.underlying37 h with ⟨hcs, _⟩ | ⟨a, len, cap, m, n, D, Pl, hcs, hb, hl, hm, hmm, hx, hi⟩
  · injection hcs with hcs _
    subst hcs
    exact ⟨[], none, 0, rfl, by simp, fun h => absurd h (by simp)⟩
  · injection hcs with hcs _
    subst hcs
    have hlm : len ≤ m := by rw [hmm]; split <;> omega
    obtain ⟨l, hl, _⟩ := rows_in (S := mkS) (w := w) (a := a) (len := len) (cap := cap) (Q := fun _ => True) (by decide) hm hl (fun i hilt => by
      obtain ⟨cs', hc, ht⟩ := hi i (by omega)
      rw [cells_m] at hc
      obtain ⟨_, hcl, hat⟩ := World.cells?_some hc
      obtain ⟨xs, n', _, _, _, hl5, hg⟩ := DataW.trod_struct Tryz.underlying121 ht
      match cs', hcl with
      | [c0, c1, c2], _ =>
        have h0 := hg 0 _ rfl
        have h1 := hg 1 _ rfl
        have h2 := hg 2 _ rfl
        have j0 : DataW.trod enc Tryz.prog w base spare held n' 3 [c0] = xs[0]? := h0
        have j1 : DataW.trod enc Tryz.prog w base spare held n' 3 [c1] = xs[1]? := h1
        have j2 : DataW.trod enc Tryz.prog w base spare held n' 3 [c2] = xs[2]? := h2
        have hl5' : xs.length = 3 := hl5
        rw [List.getElem?_eq_getElem (by omega)] at j0 j1 j2
        obtain ⟨i0, e0, _, _⟩ := DataW.trod_int Tryz.underlying3 j0
        obtain ⟨i1, e1, _, _⟩ := DataW.trod_int Tryz.underlying3 j1
        obtain ⟨i2, e2, _, _⟩ := DataW.trod_int Tryz.underlying3 j2
        simp at e0 e1 e2
        subst e0; subst e1; subst e2
        refine ⟨⟨i0, i1, i2⟩, fun j u hu => ?_, trivial⟩
        have hj : j < 3 := (List.getElem?_eq_some_iff.1 hu).1
        have := hat j hj
        rw [Go.Deep.add_add] at this
        rw [show mkS.n = 3 from rfl, this]
        exact hu)
    exact ⟨l, hl⟩

set_option maxRecDepth 100000 in
theorem keep_in {v : Value} {d : DataW H} {p : List MemPlace} (hv : Value.okWide Tryz.prog w r b0 39 v) (h : DataW.Trod enc Tryz.prog w base spare held 39 v d p) :
    ∃ (k : Kp) (vh vm vi : Value), v = kpV k.id k.time k.next vh vm vi ∧ InK w k vh vm vi := by
  obtain ⟨cs, rfl, hsz⟩ := okWide_struct Tryz.underlying39 hv
  obtain ⟨l⟩ := cs
  match l, hsz.trans cells_k with
  | [c0, c1, c2, c3, c4, c5], _ =>
    obtain ⟨fuel, hf⟩ := h
    obtain ⟨xs, n, _, _, _, hl6, hg⟩ := DataW.trod_struct Tryz.underlying39 hf
    have h0 := hg 0 _ rfl
    have h1 := hg 1 _ rfl
    have h2 := hg 2 _ rfl
    have h3 := hg 3 _ rfl
    have h4 := hg 4 _ rfl
    have h5 := hg 5 _ rfl
    simp only [Value.cells] at h0 h1 h2 h3 h4 h5
    have j0 : DataW.trod enc Tryz.prog w base spare held n 3 [c0] = xs[0]? := h0
    have j1 : DataW.trod enc Tryz.prog w base spare held n 3 [c1] = xs[1]? := h1
    have j2 : DataW.trod enc Tryz.prog w base spare held n 3 [c2] = xs[2]? := h2
    have j3 : DataW.trod enc Tryz.prog w base spare held n 36 [c3] = xs[3]? := h3
    have j4 : DataW.trod enc Tryz.prog w base spare held n 37 [c4] = xs[4]? := h4
    have j5 : DataW.trod enc Tryz.prog w base spare held n 36 [c5] = xs[5]? := h5
    have hl6' : xs.length = 6 := hl6
    rw [List.getElem?_eq_getElem (by omega)] at j0 j1 j2 j3 j4 j5
    obtain ⟨i0, e0, _, _⟩ := DataW.trod_int Tryz.underlying3 j0
    obtain ⟨i1, e1, _, _⟩ := DataW.trod_int Tryz.underlying3 j1
    obtain ⟨i2, e2, _, _⟩ := DataW.trod_int Tryz.underlying3 j2
    simp at e0 e1 e2
    subst e0; subst e1; subst e2
    obtain ⟨lh, hh, zh⟩ := notes_in j3
    obtain ⟨lm, hm⟩ := marks_in j4
    obtain ⟨li, hi, zi⟩ := notes_in j5
    exact ⟨⟨i0, i1, i2, lh, lm, li⟩, c3, c4, c5, rfl, hh, hm, hi, zh, zi⟩
end
end Go.Proofs.YtgihbilpimempabGreatDoor.kp

/-
  A message that came in, in our words; contracts of the laws' helpers over messages: laws.szNote, laws.toNote.
-/
namespace Go.Proofs.YtgihbilpimempabGreatDoor.ok
open Go.ChangeShapes Go.WideShapes Go.ChangeAt Go.RowKit Go.Deep
open Go.Proofs.YtgihbilpimempabGreatDoor.nb

theorem cells_note : Tryz.prog.cellsOf 101 = 5 := by kernel_rfl

section
variable {H : Type} {enc : TypeId × Value → H} {w : World} {base b0 : Nat} {r : Reach} {spare : Nat → Bool} {held : Bool}
set_option maxRecDepth 100000 in
theorem note_in {v : Value} {d : DataW H} {p : List MemPlace} (hv : Value.okWide Tryz.prog w r b0 101 v) (h : DataW.Trod enc Tryz.prog w base spare held 101 v d p) :
    ∃ (f n t u : Int) (s : ByteArray), v = note f n t u s ∧ s.size ≤ maxLen := by
  obtain ⟨cs, rfl, hsz⟩ := okWide_struct Tryz.underlying101 hv
  obtain ⟨l⟩ := cs
  match l, hsz.trans cells_note with
  | [c0, c1, c2, c3, c4], _ =>
    obtain ⟨fuel, hf⟩ := h
    obtain ⟨xs, n, _, _, _, _, hg⟩ := DataW.trod_struct Tryz.underlying101 hf
    have h0 := hg 0 _ rfl
    have h1 := hg 1 _ rfl
    have h2 := hg 2 _ rfl
    have h3 := hg 3 _ rfl
    have h4 := hg 4 _ rfl
    simp only [Value.cells] at h0 h1 h2 h3 h4
    have j0 : DataW.trod enc Tryz.prog w base spare held n 3 [c0] = xs[0]? := h0
    have j1 : DataW.trod enc Tryz.prog w base spare held n 3 [c1] = xs[1]? := h1
    have j2 : DataW.trod enc Tryz.prog w base spare held n 3 [c2] = xs[2]? := h2
    have j3 : DataW.trod enc Tryz.prog w base spare held n 3 [c3] = xs[3]? := h3
    have j4 : DataW.trod enc Tryz.prog w base spare held n 9 [c4] = xs[4]? := h4
    have hl5 : xs.length = 5 := by assumption
    rw [List.getElem?_eq_getElem (by omega)] at j0 j1 j2 j3 j4
    obtain ⟨i0, e0, _, _⟩ := DataW.trod_int Tryz.underlying3 j0
    obtain ⟨i1, e1, _, _⟩ := DataW.trod_int Tryz.underlying3 j1
    obtain ⟨i2, e2, _, _⟩ := DataW.trod_int Tryz.underlying3 j2
    obtain ⟨i3, e3, _, _⟩ := DataW.trod_int Tryz.underlying3 j3
    obtain ⟨s, e4, _, hs⟩ := DataW.trod_string Tryz.underlying9 j4
    simp at e0 e1 e2 e3 e4
    subst e0; subst e1; subst e2; subst e3; subst e4
    exact ⟨i0, i1, i2, i3, s, rfl, hs⟩
end
def SizePost (w : World) (l : Int) (s : ByteArray) (e : Ending) (w' : World) : Prop := e = .returned (.int .i64 (if l < s.size then -1 else l - s.size)) ∧ Below w.heap.size w w'

theorem sz_any (f n t u : Int) (s : ByteArray) (w : World) (hs : s.size ≤ maxLen) (l : Int) (h0 : 0 ≤ l) (h1 : l ≤ 1048576) :
    Calls Tryz.prog 66 #[note f n t u s, .int .i64 l] w (SizePost w l s) := by
  unfold note
  unfold maxLen at hs
  by_cases h : l < s.size
  · have R := Lib.hid (show (if l < (s.size : Int) then (-1 : Int) else l - s.size) = -1 from if_pos h)
    go_enter Tryz.func66, Tryz.ntmps66
    go_wp2
    go_ret
    exact ⟨ret_int R.out.symm, (Below.refl _ _).alloc (Nat.le_refl _) _⟩
  · have R := Lib.hid (show (if l < (s.size : Int) then (-1 : Int) else l - s.size) = l - s.size from if_neg h)
    have h' : ¬ l - (s.size : Int) < 0 := by omega
    go_enter Tryz.func66, Tryz.ntmps66
    go_wp2
    go_ret
    exact ⟨ret_int R.out.symm, (Below.refl _ _).alloc (Nat.le_refl _) _⟩

def NotePost (w : World) (f n t u : Int) (s : ByteArray) (e : Ending) (w' : World) : Prop := e = .returned (note f n t u s) ∧ Below w.heap.size w w'

theorem to_any (f n t u : Int) (s : ByteArray) (w : World) :
    Calls Tryz.prog 82 #[note f n t u s] w (NotePost w f n t u s) := by
  unfold note
  go_enter Tryz.func82, Tryz.ntmps82
  go_wp2
  refine bodyPost_ret (v := note f n t u s) (by simp [results, Tryz.results82, go_sem, note]) rfl ⟨rfl, ?_⟩
  exact (((Below.refl _ _).alloc (Nat.le_refl _) _).alloc (by simp) _).alloc (by simp; omega) _
end Go.Proofs.YtgihbilpimempabGreatDoor.ok

/-
  Contracts of the laws' own helpers over what a keeper has, come in: szNoteS, szMarkS, szKeep; toNoteS, toMarkS, toKeep.
-/
namespace Go.Proofs.YtgihbilpimempabGreatDoor.kp
open Go.ChangeShapes Go.WideShapes Go.ChangeAt Go.RowKit
open Go.Proofs.YtgihbilpimempabGreatDoor.wd Go.Proofs.YtgihbilpimempabGreatDoor.ow Go.Proofs.YtgihbilpimempabGreatDoor.rl Go.Proofs.YtgihbilpimempabGreatDoor.ok

def SizesPost (w : World) (room : Int) (n : Nat) (e : Ending) (w' : World) : Prop := ∃ r : Int, e = .returned (.int .i64 r) ∧ -1 ≤ r ∧ r ≤ room ∧ (0 ≤ r → n ≤ 1048576) ∧ Below w.heap.size w w'

theorem size_le {room : Int} {s : ByteArray} (h0 : 0 ≤ room) : -1 ≤ (if room < (s.size : Int) then (-1 : Int) else room - s.size) ∧ (if room < (s.size : Int) then (-1 : Int) else room - s.size) ≤ room := by split <;> omega

set_option maxRecDepth 100000 in
set_option maxHeartbeats 1600000 in
theorem szN_any (w : World) (v : Value) (l : List Nt) (h : InR ntS w v l) (hz : ∀ x ∈ l, x.s.size ≤ maxLen) (room : Int) (h0 : 0 ≤ room) (h1 : room ≤ 1048576) :
    Calls Tryz.prog 34 #[v, .int .i64 room] w (SizesPost w room l.length) := by
  have HS := Lib.hid h
  obtain ⟨A, c, rfl, hm, _⟩ := h
  have hm' : l.length ≤ 9223372036854775807 := hm
  have HZ := Lib.hid hz
  clear hm hz
  by_cases hl : room < l.length
  · go_enter Tryz.func34, Tryz.ntmps34
    go_wp2
    go_ret
    exact ⟨_, rfl, by omega, by omega, by omega, Below.refl _ _⟩
  · go_enter Tryz.func34, Tryz.ntmps34
    go_wp2
    go_loopw [1, 5] (fun r i wr => ∃ (x : Int) (k : Nat), k ≤ l.length ∧ i = .int .i64 k ∧ r = .int .i64 x ∧ 0 ≤ x ∧ x ≤ room ∧ Below w.heap.size w wr) (fun _ i _ => (l.length + 1 : Nat) - (intOf i).toNat)
    case atStart => exact ⟨_, 0, by omega, rfl, rfl, by omega, by omega, Below.refl _ _⟩
    case round =>
      obtain ⟨x, k, hk, rfl, rfl, x0, x1, hB⟩ := hrel
      by_cases hkl : k < l.length
      · have hx : l[k]? = some l[k] := List.getElem?_eq_getElem hkl
        have hzm := HZ.out l[k] (List.getElem_mem hkl)
        obtain ⟨g, o, c', e, hg, _, hcell⟩ := (HS.out.later hB).at hx
        injection e with e1 e2 e3
        subst e1; subst e3
        have t0 : wr.cell? ⟨g, o + k * 5, none⟩ = some (.int .i64 l[k].f) := hcell 0 _ rfl
        have t1 : wr.cell? ⟨g, o + k * 5 + 1, none⟩ = some (.int .i64 l[k].n) := hcell 1 _ rfl
        have t2 : wr.cell? ⟨g, o + k * 5 + 2, none⟩ = some (.int .i64 l[k].t) := hcell 2 _ rfl
        have t3 : wr.cell? ⟨g, o + k * 5 + 3, none⟩ = some (.int .i64 l[k].u) := hcell 3 _ rfl
        have t4 : wr.cell? ⟨g, o + k * 5 + 4, none⟩ = some (.string l[k].s) := hcell 4 _ rfl
        generalize l[k] = y at hx hzm t0 t1 t2 t3 t4
        have hk1 : (k : Int) < (l.length : Int) := by omega
        clear hcell hx
        go_wp2_with fail
        refine (ok.sz_any y.f y.n y.t y.u y.s _ hzm x x0 (by omega)).mono ?_
        rintro e w2 ⟨rfl, hB2⟩
        obtain ⟨r0, r1⟩ := size_le (room := x) (s := y.s) x0
        generalize (if x < (y.s.size : Int) then (-1 : Int) else x - y.s.size) = r at r0 r1 ⊢
        have HB2 := Lib.hid (hB.trans (hB2.mono hB.size))
        clear hB hB2 t0 t1 t2 t3 t4
        by_cases hr : r < 0
        · go_wp2
          go_ret
          exact ⟨_, rfl, by omega, by omega, by omega, HB2.out⟩
        · go_wp2
          go_roundw
          case rel => exact ⟨r, k + 1, by omega, by go_num, rfl, by omega, by omega, HB2.out⟩
          case measure => simp [intOf]; omega
      · go_wp2
        go_ret
        exact ⟨_, rfl, by omega, by omega, by omega, hB⟩

theorem szM_any (w : World) (v : Value) (l : List Mk) (h : InR mkS w v l) (room : Int) (h0 : 0 ≤ room) (h1 : room ≤ 1048576) :
    Calls Tryz.prog 35 #[v, .int .i64 room] w (SizesPost w room l.length) := by
  obtain ⟨A, c, rfl, hm, _⟩ := h
  have hm' : l.length ≤ 9223372036854775807 := hm
  clear hm
  by_cases hl : room < l.length
  · go_enter Tryz.func35, Tryz.ntmps35
    go_wp2
    go_ret
    exact ⟨_, rfl, by omega, by omega, by omega, Below.refl _ _⟩
  · go_enter Tryz.func35, Tryz.ntmps35
    go_wp2
    go_ret
    exact ⟨_, rfl, by omega, by omega, by omega, Below.refl _ _⟩
end Go.Proofs.YtgihbilpimempabGreatDoor.kp

