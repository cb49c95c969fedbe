/-
  What a keeper has, come in as an argument, in our words: its lists read as messages and marks.
-/
import Derived.Test.YtckicpnnclbkpaaKeepRec
import Derived.Deep.Slices
import Derived.Deep.Fields
import Derived.ChangeSame
import Derived.OpenShut
import Derived.Below
namespace Go.Proofs.Ytckicpnnclbkpaa.kp
open Go.ChangeShapes Go.WideShapes Go.ChangeAt Go.RowKit Go.Deep
open Go.Proofs.Ytckicpnnclbkpaa.wd Go.Proofs.Ytckicpnnclbkpaa.rl

/-- a slice that came in and reads as records -/
def InR {α : Type} (S : Shape α) (w : World) (v : Value) (l : List α) : Prop :=
  ∃ A c, v = .slice A l.length c ∧ l.length ≤ maxLen ∧ (0 < l.length → ∃ g o, A = some ⟨g, o, none⟩ ∧ g < w.heap.size ∧ ∀ i x, l[i]? = some x → ∀ j u, (S.f x)[j]? = some u → w.cell? ⟨g, o + i * S.n + j, none⟩ = some u)
theorem InR.later {α : Type} {S : Shape α} {w w' : World} {v : Value} {l : List α} (h : InR S w v l) (hB : Below w.heap.size w w') : InR S w' v l := by
  obtain ⟨A, c, rfl, h1, hc⟩ := h
  refine ⟨A, c, rfl, h1, fun hn => ?_⟩
  obtain ⟨g, o, rfl, hg, hcell⟩ := hc hn
  exact ⟨g, o, rfl, Nat.lt_of_lt_of_le hg hB.size, fun i x hx j u hu => (hB.cell (p := ⟨g, _, none⟩) hg).trans (hcell i x hx j u hu)⟩
theorem InR.at {α : Type} {S : Shape α} {w : World} {v : Value} {l : List α} (h : InR S w v l) {i : Nat} {x : α} (hx : l[i]? = some x) :
    ∃ g o c, v = .slice (some ⟨g, o, none⟩) l.length c ∧ g < w.heap.size ∧ i < l.length ∧ ∀ j u, (S.f x)[j]? = some u → w.cell? ⟨g, o + i * S.n + j, none⟩ = some u := by
  obtain ⟨A, c, rfl, _, hc⟩ := h
  have hi := (List.getElem?_eq_some_iff.mp hx).1
  obtain ⟨g, o, rfl, hlt, hr⟩ := hc (by omega)
  exact ⟨g, o, c, rfl, hlt, hi, hr i x hx⟩

structure InK (w : World) (k : Kp) (vh vm vi : Value) : Prop where
  held : InR ntS w vh k.held
  marks : InR mkS w vm k.marks
  inbox : InR ntS w vi k.inbox
  heldS : ∀ x ∈ k.held, x.s.size ≤ maxLen
  inboxS : ∀ x ∈ k.inbox, x.s.size ≤ maxLen
theorem InK.later {w w' : World} {k : Kp} {vh vm vi : Value} (h : InK w k vh vm vi) (hB : Below w.heap.size w w') : InK w' k vh vm vi := ⟨h.held.later hB, h.marks.later hB, h.inbox.later hB, h.heldS, h.inboxS⟩

theorem grow_list {α : Type} {P : Nat → α → Prop} (n : Nat) (h : ∀ i, i < n → ∃ m, P i m) : ∃ l : List α, l.length = n ∧ ∀ i m, l[i]? = some m → P i m := by
  induction n with
  | zero => exact ⟨[], rfl, fun i m hm => by simp at hm⟩
  | succ n ih =>
    obtain ⟨l, hl, hP⟩ := ih (fun i hi => h i (by omega))
    obtain ⟨m, hm⟩ := h n (by omega)
    refine ⟨l ++ [m], by simp [hl], fun i m' hm' => ?_⟩
    by_cases e : i < l.length
    · rw [List.getElem?_append_left e] at hm'; exact hP i m' hm'
    · rw [List.getElem?_append_right (by omega)] at hm'
      have hi : i - l.length = 0 := by
        rcases Nat.eq_zero_or_pos (i - l.length) with h | h
        · exact h
        · rw [List.getElem?_eq_none (by simp; omega)] at hm'; cases hm'
      rw [hi] at hm'
      simp at hm'
      subst hm'
      obtain rfl : i = n := by omega
      exact hm

section
variable {H : Type} {enc : TypeId × Value → H} {w : World} {base b0 : Nat} {r : Reach} {spare : Nat → Bool} {held : Bool}

/-- from cells that were read to a list in our words -/
theorem rows_in {α : Type} {S : Shape α} (hS : 0 < S.n) {a : Addr} {len cap : Nat} {Q : α → Prop} (hm : cap ≤ maxLen) (hl : len ≤ cap)
    (h : ∀ i, i < len → ∃ x, (∀ j u, (S.f x)[j]? = some u → w.cell? (a.add (i * S.n + j)) = some u) ∧ Q x) :
    ∃ l : List α, InR S w (.slice (some a) len cap) l ∧ ∀ x ∈ l, Q x := by
  obtain ⟨l, hll, hP⟩ := grow_list len h
  refine ⟨l, ⟨some a, cap, by rw [hll], by omega, fun hn => ?_⟩, fun x hx => ?_⟩
  · have hx0 := List.getElem?_eq_getElem hn
    have hu : (S.f l[0])[0]? = some ((S.f l[0])[0]'(by rw [S.len]; exact hS)) := List.getElem?_eq_getElem _
    have h0 := (hP 0 _ hx0).1 0 _ hu
    obtain ⟨g, o, spot⟩ := a
    have hspot : spot = none := by simpa [Addr.add] using World.cell?_spot h0
    subst hspot
    have e : ∀ j, (⟨g, o, none⟩ : Addr).add j = ⟨g, o + j, none⟩ := fun j => by unfold Addr.add; split <;> simp_all
    refine ⟨g, o, rfl, ?_, fun i x hx j u hu => ?_⟩
    · rcases Nat.lt_or_ge g w.heap.size with hlt | hge
      · exact hlt
      · rw [e] at h0
        have : w.heap[g]? = none := Array.getElem?_eq_none hge
        simp [World.cell?, this] at h0
    · have := (hP i x hx).1 j u hu
      rw [e, ← Nat.add_assoc] at this
      exact this
  · obtain ⟨i, hi, rfl⟩ := List.mem_iff_getElem.mp hx
    exact (hP i _ (List.getElem?_eq_getElem hi)).2

end
end Go.Proofs.Ytckicpnnclbkpaa.kp
