/-
  Words: one cell of one record of a list of the call's own is written over.
-/
import Derived.Test.YtckicpnnclbkpaaKeepMark
namespace Go.Proofs.Ytckicpnnclbkpaa.op
open Go.ChangeShapes Go.WideShapes Go.ChangeAt Go.RowKit
open Go.Proofs.Ytckicpnnclbkpaa.wd Go.Proofs.Ytckicpnnclbkpaa.ow Go.Proofs.Ytckicpnnclbkpaa.rl Go.Proofs.Ytckicpnnclbkpaa.kp

section
variable {α : Type} {S : Shape α} {t : TypeId} {B g n c : Nat} {w : World} {lr : List α} {k : Nat} {r r' : α}
theorem own_blk (h : OwnAt S t B w (.slice (some ⟨g, 0, none⟩) n c) lr) : ∃ cur, Blk w g t cur ∧ cur.size = c * S.n ∧ lr.length ≤ c ∧ c ≤ maxLen ∧ B ≤ g ∧ ∀ i y, lr[i]? = some y → ∀ j v, (S.f y)[j]? = some v → cur[i * S.n + j]? = some v := by
  rcases h.2 with ⟨e, _⟩ | ⟨g', cap, cur, e, hb, hh', hn, hmm, hs, ht⟩
  · cases e
  · injection e with e1 e2 e3
    injection e1 with e1
    injection e1 with e1 _ _
    subst e1; subst e3; subst e2
    refine ⟨cur, hh', hs, hn, hmm, hb, fun i y hy j v hv => ?_⟩
    have hj : j < S.n := by have := (List.getElem?_eq_some_iff.1 hv).1; rwa [S.len] at this
    have hi' := (List.getElem?_eq_some_iff.1 hy).1
    have hf := flat_at S.len lr i y hy j hj
    rw [hv] at hf
    have h9 : (cur.toList.take (lr.length * S.n))[i * S.n + j]? = some v := by rw [show cur.toList.take (lr.length * S.n) = lr.flatMap S.f from ht]; exact hf
    have hlt : (i + 1) * S.n ≤ lr.length * S.n := Nat.mul_le_mul_right _ hi'
    rw [Nat.succ_mul] at hlt
    rw [List.getElem?_take_of_lt (by omega)] at h9
    simpa using h9
theorem own_cell (h : OwnAt S t B w (.slice (some ⟨g, 0, none⟩) n c) lr) (hk : lr[k]? = some r) {j : Nat} {u : Value} (hu : (S.f r)[j]? = some u) : w.cell? ⟨g, k * S.n + j, none⟩ = some u ∧ w.frozen? ⟨g, k * S.n + j, none⟩ = false := by
  obtain ⟨cur, h1, _, _, _, _, h2⟩ := own_blk h
  exact ⟨by rw [h1.cell]; exact h2 k r hk j u hu, h1.frozen _⟩
/-- one cell of one record was written over -/
theorem own_put (h : OwnAt S t B w (.slice (some ⟨g, 0, none⟩) n c) lr) (hk : lr[k]? = some r) {m : Nat} (hm : m < S.n) {u : Value} (hu : (S.f r')[m]? = some u) (ho : ∀ j, j ≠ m → (S.f r')[j]? = (S.f r)[j]?) :
    OwnAt S t B (w.setCell ⟨g, k * S.n + m, none⟩ u) (.slice (some ⟨g, 0, none⟩) n c) (lr.set k r') := by
  have hkl := (List.getElem?_eq_some_iff.1 hk).1
  obtain ⟨cur, h1, hs, hn, hmm, hb, hold⟩ := own_blk h
  have hnl : n = lr.length := by
    rcases h.2 with ⟨e, _⟩ | ⟨g', cap, cur', e, _⟩
    · cases e
    · injection e
  subst hnl
  have hF : Fill S t g c (lr.set k r') (lr.set k r').length (w.setCell ⟨g, k * S.n + m, none⟩ u) := by
    refine ⟨_, h1.put (k * S.n + m) u, by simpa using hs, fun i x hi hx j v hv => ?_⟩
    have hj : j < S.n := by have := (List.getElem?_eq_some_iff.1 hv).1; rwa [S.len] at this
    rw [Array.getElem?_setIfInBounds]
    by_cases hik : i = k
    · subst hik
      rw [List.getElem?_set_self hkl] at hx
      injection hx with hx
      subst hx
      by_cases hjm : j = m
      · subst hjm
        have hle : (i + 1) * S.n ≤ c * S.n := Nat.mul_le_mul_right _ (Nat.le_trans hkl hn)
        rw [Nat.succ_mul] at hle
        rw [if_pos rfl, if_pos (by omega)]
        rw [hu] at hv
        exact hv
      · rw [if_neg (by omega)]
        rw [ho j hjm] at hv
        exact hold i r hk j v hv
    · rw [List.getElem?_set_ne (fun e => hik e.symm)] at hx
      rw [if_neg (fun e => by
        rcases Nat.lt_or_ge i k with hlt | hge
        · have := Nat.mul_le_mul_right S.n (show i + 1 ≤ k from hlt)
          rw [Nat.succ_mul] at this
          omega
        · have := Nat.mul_le_mul_right S.n (show k + 1 ≤ i by omega)
          rw [Nat.succ_mul] at this
          omega)]
      exact hold i x hx j v hv
  have := Fill.ownAt (B := B) hF hb (by rw [List.length_set]; exact hn) hmm
  rw [List.length_set] at this
  exact this
end
end Go.Proofs.Ytckicpnnclbkpaa.op
