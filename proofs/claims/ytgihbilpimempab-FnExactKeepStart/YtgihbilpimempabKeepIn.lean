/-
  What a keeper has, come in as an argument, in our words: its lists read as messages and marks.
-/
import Derived.Test.YtgihbilpimempabKeepRec
import Derived.Deep.Slices
import Derived.Deep.Fields
import Derived.ChangeSame
import Derived.OpenShut
import Derived.Below
namespace Go.Proofs.Ytgihbilpimempab.kp
open Go.ChangeShapes Go.WideShapes Go.ChangeAt Go.RowKit Go.Deep
open Go.Proofs.Ytgihbilpimempab.wd Go.Proofs.Ytgihbilpimempab.rl

/-- a slice that came in and reads as records -/
def InR {α : Type} (S : Shape α) (w : World) (v : Value) (l : List α) : Prop :=
  ∃ A c, v = .slice A l.length c ∧ l.length ≤ maxLen ∧ (0 < l.length → ∃ g o, A = some ⟨g, o, none⟩ ∧ g < w.heap.size ∧ ∀ i x, l[i]? = some x → ∀ j u, (S.f x)[j]? = some u → w.cell? ⟨g, o + i * S.n + j, none⟩ = some u)
theorem InR.later {α : Type} {S : Shape α} {w w' : World} {v : Value} {l : List α} (h : InR S w v l) (hB : Below w.heap.size w w') : InR S w' v l := by
  obtain ⟨A, c, rfl, h1, hc⟩ := h
  refine ⟨A, c, rfl, h1, fun hn => ?_⟩
  obtain ⟨g, o, rfl, hg, hcell⟩ := hc hn
  exact ⟨g, o, rfl, Nat.lt_of_lt_of_le hg hB.size, fun i x hx j u hu => (hB.cell (p := ⟨g, _, none⟩) hg).trans (hcell i x hx j u hu)⟩
theorem InR.at {α : Type} {S : Shape α} {w : World} {v : Value} {l : List α} (h : InR S w v l) {i : Nat} {x : α} (hx : l[i]? = some x) :
    ∃ g o c, v = .slice (some ⟨g, o, none⟩) l.length c ∧ g < w.heap.size ∧ i < l.length ∧ ∀ j u, (S.f x)[j]? = some u → w.cell? ⟨g, o + i * S.n + j, none⟩ = some u := by
  obtain ⟨A, c, rfl, _, hc⟩ := h
  have hi := (List.getElem?_eq_some_iff.mp hx).1
  obtain ⟨g, o, rfl, hlt, hr⟩ := hc (by omega)
  exact ⟨g, o, c, rfl, hlt, hi, hr i x hx⟩

structure InK (w : World) (k : Kp) (vh vm vi : Value) : Prop where
  held : InR ntS w vh k.held
  marks : InR mkS w vm k.marks
  inbox : InR ntS w vi k.inbox
  heldS : ∀ x ∈ k.held, x.s.size ≤ maxLen
  inboxS : ∀ x ∈ k.inbox, x.s.size ≤ maxLen
theorem InK.later {w w' : World} {k : Kp} {vh vm vi : Value} (h : InK w k vh vm vi) (hB : Below w.heap.size w w') : InK w' k vh vm vi := ⟨h.held.later hB, h.marks.later hB, h.inbox.later hB, h.heldS, h.inboxS⟩

theorem cells_n : Try.prog.cellsOf 81 = 5 := by kernel_rfl
theorem cells_m : Try.prog.cellsOf 85 = 3 := by kernel_rfl
theorem cells_k : Try.prog.cellsOf 33 = 6 := by kernel_rfl

theorem grow_list {α : Type} {P : Nat → α → Prop} (n : Nat) (h : ∀ i, i < n → ∃ m, P i m) : ∃ l : List α, l.length = n ∧ ∀ i m, l[i]? = some m → P i m := by
  induction n with
  | zero => exact ⟨[], rfl, fun i m hm => by simp at hm⟩
  | succ n ih =>
    obtain ⟨l, hl, hP⟩ := ih (fun i hi => h i (by omega))
    obtain ⟨m, hm⟩ := h n (by omega)
    refine ⟨l ++ [m], by simp [hl], fun i m' hm' => ?_⟩
    by_cases e : i < l.length
    · rw [List.getElem?_append_left e] at hm'; exact hP i m' hm'
    · rw [List.getElem?_append_right (by omega)] at hm'
      have hi : i - l.length = 0 := by
        rcases Nat.eq_zero_or_pos (i - l.length) with h | h
        · exact h
        · rw [List.getElem?_eq_none (by simp; omega)] at hm'; cases hm'
      rw [hi] at hm'
      simp at hm'
      subst hm'
      obtain rfl : i = n := by omega
      exact hm

section
variable {H : Type} {enc : TypeId × Value → H} {w : World} {base b0 : Nat} {r : Reach} {spare : Nat → Bool} {held : Bool}

/-- from cells that were read to a list in our words -/
theorem rows_in {α : Type} {S : Shape α} (hS : 0 < S.n) {a : Addr} {len cap : Nat} {Q : α → Prop} (hm : cap ≤ maxLen) (hl : len ≤ cap)
    (h : ∀ i, i < len → ∃ x, (∀ j u, (S.f x)[j]? = some u → w.cell? (a.add (i * S.n + j)) = some u) ∧ Q x) :
    ∃ l : List α, InR S w (.slice (some a) len cap) l ∧ ∀ x ∈ l, Q x := by
  obtain ⟨l, hll, hP⟩ := grow_list len h
  refine ⟨l, ⟨some a, cap, by rw [hll], by omega, fun hn => ?_⟩, fun x hx => ?_⟩
  · have hx0 := List.getElem?_eq_getElem hn
    have hu : (S.f l[0])[0]? = some ((S.f l[0])[0]'(by rw [S.len]; exact hS)) := List.getElem?_eq_getElem _
    have h0 := (hP 0 _ hx0).1 0 _ hu
    obtain ⟨g, o, spot⟩ := a
    have hspot : spot = none := by simpa [Addr.add] using World.cell?_spot h0
    subst hspot
    have e : ∀ j, (⟨g, o, none⟩ : Addr).add j = ⟨g, o + j, none⟩ := fun j => by unfold Addr.add; split <;> simp_all
    refine ⟨g, o, rfl, ?_, fun i x hx j u hu => ?_⟩
    · rcases Nat.lt_or_ge g w.heap.size with hlt | hge
      · exact hlt
      · rw [e] at h0
        have : w.heap[g]? = none := Array.getElem?_eq_none hge
        simp [World.cell?, this] at h0
    · have := (hP i x hx).1 j u hu
      rw [e, ← Nat.add_assoc] at this
      exact this
  · obtain ⟨i, hi, rfl⟩ := List.mem_iff_getElem.mp hx
    exact (hP i _ (List.getElem?_eq_getElem hi)).2

set_option maxRecDepth 100000 in
theorem notes_in {fuel : Nat} {c : Value} {x : DataW H × List MemPlace} (h : DataW.trod enc Try.prog w base spare held fuel 30 [c] = some x) : ∃ l : List Nt, InR ntS w c l ∧ ∀ x ∈ l, x.s.size ≤ maxLen := by
  rcases open_slice Try.underlying30 h with ⟨hcs, _⟩ | ⟨a, len, cap, m, n, D, Pl, hcs, hb, hl, hm, hmm, hx, hi⟩
  · injection hcs with hcs _
    subst hcs
    exact ⟨[], ⟨none, 0, rfl, by simp, fun h => absurd h (by simp)⟩, fun x hx => by simp at hx⟩
  · injection hcs with hcs _
    subst hcs
    have hlm : len ≤ m := by rw [hmm]; split <;> omega
    refine rows_in (S := ntS) (by decide) hm hl (fun i hilt => ?_)
    obtain ⟨cs', hc, ht⟩ := hi i (by omega)
    rw [cells_n] at hc
    obtain ⟨_, hcl, hat⟩ := World.cells?_some hc
    obtain ⟨xs, n', _, _, _, hl5, hg⟩ := DataW.trod_struct Try.underlying81 ht
    match cs', hcl with
    | [c0, c1, c2, c3, c4], _ =>
      have h0 := hg 0 _ rfl
      have h1 := hg 1 _ rfl
      have h2 := hg 2 _ rfl
      have h3 := hg 3 _ rfl
      have h4 := hg 4 _ rfl
      have j0 : DataW.trod enc Try.prog w base spare held n' 3 [c0] = xs[0]? := h0
      have j1 : DataW.trod enc Try.prog w base spare held n' 3 [c1] = xs[1]? := h1
      have j2 : DataW.trod enc Try.prog w base spare held n' 3 [c2] = xs[2]? := h2
      have j3 : DataW.trod enc Try.prog w base spare held n' 3 [c3] = xs[3]? := h3
      have j4 : DataW.trod enc Try.prog w base spare held n' 9 [c4] = xs[4]? := h4
      have hl5' : xs.length = 5 := hl5
      rw [List.getElem?_eq_getElem (by omega)] at j0 j1 j2 j3 j4
      obtain ⟨i0, e0, _, _⟩ := DataW.trod_int Try.underlying3 j0
      obtain ⟨i1, e1, _, _⟩ := DataW.trod_int Try.underlying3 j1
      obtain ⟨i2, e2, _, _⟩ := DataW.trod_int Try.underlying3 j2
      obtain ⟨i3, e3, _, _⟩ := DataW.trod_int Try.underlying3 j3
      obtain ⟨s, e4, _, hs⟩ := DataW.trod_string Try.underlying9 j4
      simp at e0 e1 e2 e3 e4
      subst e0; subst e1; subst e2; subst e3; subst e4
      refine ⟨⟨i0, i1, i2, i3, s⟩, fun j u hu => ?_, hs⟩
      have hj : j < 5 := (List.getElem?_eq_some_iff.1 hu).1
      have := hat j hj
      rw [Go.Deep.add_add] at this
      rw [show ntS.n = 5 from rfl, this]
      exact hu

set_option maxRecDepth 100000 in
theorem marks_in {fuel : Nat} {c : Value} {x : DataW H × List MemPlace} (h : DataW.trod enc Try.prog w base spare held fuel 31 [c] = some x) : ∃ l : List Mk, InR mkS w c l := by
  rcases open_slice Try.underlying31 h with ⟨hcs, _⟩ | ⟨a, len, cap, m, n, D, Pl, hcs, hb, hl, hm, hmm, hx, hi⟩
  · injection hcs with hcs _
    subst hcs
    exact ⟨[], none, 0, rfl, by simp, fun h => absurd h (by simp)⟩
  · injection hcs with hcs _
    subst hcs
    have hlm : len ≤ m := by rw [hmm]; split <;> omega
    obtain ⟨l, hl, _⟩ := rows_in (S := mkS) (w := w) (a := a) (len := len) (cap := cap) (Q := fun _ => True) (by decide) hm hl (fun i hilt => by
      obtain ⟨cs', hc, ht⟩ := hi i (by omega)
      rw [cells_m] at hc
      obtain ⟨_, hcl, hat⟩ := World.cells?_some hc
      obtain ⟨xs, n', _, _, _, hl5, hg⟩ := DataW.trod_struct Try.underlying85 ht
      match cs', hcl with
      | [c0, c1, c2], _ =>
        have h0 := hg 0 _ rfl
        have h1 := hg 1 _ rfl
        have h2 := hg 2 _ rfl
        have j0 : DataW.trod enc Try.prog w base spare held n' 3 [c0] = xs[0]? := h0
        have j1 : DataW.trod enc Try.prog w base spare held n' 3 [c1] = xs[1]? := h1
        have j2 : DataW.trod enc Try.prog w base spare held n' 3 [c2] = xs[2]? := h2
        have hl5' : xs.length = 3 := hl5
        rw [List.getElem?_eq_getElem (by omega)] at j0 j1 j2
        obtain ⟨i0, e0, _, _⟩ := DataW.trod_int Try.underlying3 j0
        obtain ⟨i1, e1, _, _⟩ := DataW.trod_int Try.underlying3 j1
        obtain ⟨i2, e2, _, _⟩ := DataW.trod_int Try.underlying3 j2
        simp at e0 e1 e2
        subst e0; subst e1; subst e2
        refine ⟨⟨i0, i1, i2⟩, fun j u hu => ?_, trivial⟩
        have hj : j < 3 := (List.getElem?_eq_some_iff.1 hu).1
        have := hat j hj
        rw [Go.Deep.add_add] at this
        rw [show mkS.n = 3 from rfl, this]
        exact hu)
    exact ⟨l, hl⟩

set_option maxRecDepth 100000 in
theorem keep_in {v : Value} {d : DataW H} {p : List MemPlace} (hv : Value.okWide Try.prog w r b0 33 v) (h : DataW.Trod enc Try.prog w base spare held 33 v d p) :
    ∃ (k : Kp) (vh vm vi : Value), v = kpV k.id k.time k.next vh vm vi ∧ InK w k vh vm vi := by
  obtain ⟨cs, rfl, hsz⟩ := okWide_struct Try.underlying33 hv
  obtain ⟨l⟩ := cs
  match l, hsz.trans cells_k with
  | [c0, c1, c2, c3, c4, c5], _ =>
    obtain ⟨fuel, hf⟩ := h
    obtain ⟨xs, n, _, _, _, hl6, hg⟩ := DataW.trod_struct Try.underlying33 hf
    have h0 := hg 0 _ rfl
    have h1 := hg 1 _ rfl
    have h2 := hg 2 _ rfl
    have h3 := hg 3 _ rfl
    have h4 := hg 4 _ rfl
    have h5 := hg 5 _ rfl
    simp only [Value.cells] at h0 h1 h2 h3 h4 h5
    have j0 : DataW.trod enc Try.prog w base spare held n 3 [c0] = xs[0]? := h0
    have j1 : DataW.trod enc Try.prog w base spare held n 3 [c1] = xs[1]? := h1
    have j2 : DataW.trod enc Try.prog w base spare held n 3 [c2] = xs[2]? := h2
    have j3 : DataW.trod enc Try.prog w base spare held n 30 [c3] = xs[3]? := h3
    have j4 : DataW.trod enc Try.prog w base spare held n 31 [c4] = xs[4]? := h4
    have j5 : DataW.trod enc Try.prog w base spare held n 30 [c5] = xs[5]? := h5
    have hl6' : xs.length = 6 := hl6
    rw [List.getElem?_eq_getElem (by omega)] at j0 j1 j2 j3 j4 j5
    obtain ⟨i0, e0, _, _⟩ := DataW.trod_int Try.underlying3 j0
    obtain ⟨i1, e1, _, _⟩ := DataW.trod_int Try.underlying3 j1
    obtain ⟨i2, e2, _, _⟩ := DataW.trod_int Try.underlying3 j2
    simp at e0 e1 e2
    subst e0; subst e1; subst e2
    obtain ⟨lh, hh, zh⟩ := notes_in j3
    obtain ⟨lm, hm⟩ := marks_in j4
    obtain ⟨li, hi, zi⟩ := notes_in j5
    exact ⟨⟨i0, i1, i2, lh, lm, li⟩, c3, c4, c5, rfl, hh, hm, hi, zh, zi⟩
end
end Go.Proofs.Ytgihbilpimempab.kp
