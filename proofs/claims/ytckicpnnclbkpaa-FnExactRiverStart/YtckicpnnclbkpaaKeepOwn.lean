/-
  Words: what a keeper has, of the call's own: its three lists lie apart. Contract of laws.toKeep.
-/
import Derived.Test.YtckicpnnclbkpaaKeepEq
namespace Go.Proofs.Ytckicpnnclbkpaa.kp
open Go.ChangeShapes Go.WideShapes Go.ChangeAt Go.RowKit
open Go.Proofs.Ytckicpnnclbkpaa.wd Go.Proofs.Ytckicpnnclbkpaa.ow Go.Proofs.Ytckicpnnclbkpaa.rl Go.Proofs.Ytckicpnnclbkpaa.ok

def Apart (u v : Value) : Prop := ∀ g, u.ownBlock = some g → v.ownBlock = some g → False
theorem Apart.symm {u v : Value} (h : Apart u v) : Apart v u := fun g a b => h g b a
structure OwnK (w0 w : World) (k : Kp) (vh vm vi : Value) : Prop where
  held : OwnR ntS 60 w0 w vh k.held
  marks : OwnR mkS 100 w0 w vm k.marks
  inbox : OwnR ntS 60 w0 w vi k.inbox
  hm : Apart vh vm
  hi : Apart vh vi
  mi : Apart vm vi
section
variable {w0 w w1 : World} {k : Kp} {vh vm vi : Value}
theorem OwnK.later (h : OwnK w0 w k vh vm vi) (hb : Below w.heap.size w w1) : OwnK w0 w1 k vh vm vi := ⟨h.held.later hb, h.marks.later hb, h.inbox.later hb, h.hm, h.hi, h.mi⟩
theorem OwnK.from_ (h : OwnK w w1 k vh vm vi) (hb : Below w0.heap.size w0 w) : OwnK w0 w1 k vh vm vi := ⟨h.held.from_ hb, h.marks.from_ hb, h.inbox.from_ hb, h.hm, h.hi, h.mi⟩
theorem OwnK.sees (h : OwnK w0 w k vh vm vi) : SeesK w k vh vm vi := ⟨h.held.sees, h.marks.sees, h.inbox.sees⟩
theorem OwnK.bel (h : OwnK w0 w k vh vm vi) : Below w0.heap.size w0 w := h.held.2
end
/-- a list that was made later lies apart -/
theorem apart_of {α β : Type} {S : Shape α} {S' : Shape β} {t t' : TypeId} {w0 w w' w2 : World} {u v : Value} {l : List α} {l' : List β} (h : OwnR S t w0 w u l) (h' : OwnR S' t' w' w2 v l') (hw : w.heap.size ≤ w'.heap.size) : Apart u v := fun g a b => by
  have h1 := (h.lt a).2
  have h2 := (h'.lt b).1
  omega
theorem OwnR.form {α : Type} {S : Shape α} {t : TypeId} {w0 w : World} {v : Value} {l : List α} (h : OwnR S t w0 w v l) : ∃ A c, v = .slice A l.length c := by
  obtain ⟨A, c, e, _⟩ := h.sees
  exact ⟨A, c, e⟩
def KeepPost (w : World) (k : Kp) (e : Ending) (w' : World) : Prop := ∃ vh vm vi, e = .returned (kpV k.id k.time k.next vh vm vi) ∧ OwnK w w' k vh vm vi

/-- a list of the call's own, in whatever block that is not one of those that are written -/
def OwnAt {α : Type} (S : Shape α) (t : TypeId) (B : Nat) (W : World) (v : Value) (l : List α) : Prop := W.ownsRow B t S.n v l.length (l.flatMap S.f)
theorem OwnAt.set {α : Type} {S : Shape α} {t : TypeId} {B : Nat} {W : World} {v : Value} {l : List α} (h : OwnAt S t B W v l) {p : Addr} (hp : p.block < B) (x : Value) : OwnAt S t B (W.setCell p x) v l := by
  refine h.kept (row := some p.block) ⟨rfl, rfl, rfl, by simp, fun k _ hne => Below.heap_setCell W p x k (fun e => hne (by rw [e]))⟩ ?_
  cases hv : v.ownBlock with
  | none => exact .inl rfl
  | some k => exact .inr (fun e => by have := (h.lt k hv).1; injection e; omega)
theorem OwnAt.later {α : Type} {S : Shape α} {t : TypeId} {B : Nat} {W W' : World} {v : Value} {l : List α} (h : OwnAt S t B W v l) (hb : Below W.heap.size W W') : OwnAt S t B W' v l := by
  refine World.ownsRow.kept h (row := none) ⟨hb.os, hb.tape, hb.output, hb.size, fun i hi _ => hb.block i hi⟩ ?_
  cases hv : v.ownBlock with
  | none => exact .inl rfl
  | some k => exact .inr (by simp)
theorem OwnAt.down {α : Type} {S : Shape α} {t : TypeId} {B B' : Nat} {W : World} {v : Value} {l : List α} (h : OwnAt S t B W v l) (hB : B' ≤ B) : OwnAt S t B' W v l := by
  refine ⟨h.1, ?_⟩
  rcases h.2 with h' | ⟨g, cap, cur, h1, h2, h3⟩
  · exact .inl h'
  · exact .inr ⟨g, cap, cur, h1, by omega, h3⟩

theorem OwnAt.same {α : Type} {S : Shape α} {t : TypeId} {B : Nat} {W W' : World} {v : Value} {l : List α} (h : OwnAt S t B W v l) (hs : ∀ g, v.ownBlock = some g → W'.heap[g]? = W.heap[g]?) : OwnAt S t B W' v l := by
  refine ⟨h.1, ?_⟩
  rcases h.2 with h' | ⟨g, cap, cur, rfl, h2, h3, h4⟩
  · exact .inl h'
  · exact .inr ⟨g, cap, cur, rfl, h2, (hs g rfl).trans h3, h4⟩
theorem OwnAt.lt {α : Type} {S : Shape α} {t : TypeId} {B : Nat} {W : World} {v : Value} {l : List α} (h : OwnAt S t B W v l) {g : Nat} (hg : v.ownBlock = some g) : B ≤ g ∧ g < W.heap.size := World.ownsRow.lt h g hg
theorem OwnAt.sees {α : Type} {S : Shape α} {t : TypeId} {B : Nat} {W : World} {v : Value} {l : List α} (h : OwnAt S t B W v l) : SeesR S W v l := by
  rcases h.2 with ⟨rfl, hn⟩ | ⟨g, cap, cur, rfl, hb, hh, hn, hm, hs, ht⟩
  · exact ⟨none, 0, by rw [hn], .inl ⟨rfl, rfl, List.eq_nil_of_length_eq_zero hn⟩⟩
  · refine ⟨_, cap, rfl, .inr ⟨g, rfl, (h.lt rfl).2, fun i x hx j u hu => ?_⟩⟩
    have hj : j < S.n := by have := (List.getElem?_eq_some_iff.1 hu).1; rwa [S.len] at this
    have hf := flat_at S.len l i x hx j hj
    rw [hu] at hf
    have hi := (List.getElem?_eq_some_iff.1 hf).1
    rw [World.ownsRow.cellAt (g := g) (cap := cap) h _ (by rwa [flat_len S.len] at hi), hf]
end Go.Proofs.Ytckicpnnclbkpaa.kp
