/-
  Contract of spec.DrawFrameSum: whatever the code, at most 1100 bytes of the call's own.
-/
import Derived.Test.YtgihbilpimempaaDoorDraw2
import Derived.Test.YtgihbilpimempaaDoorFrSet
import Derived.Laws.OwnMore
namespace Go.Proofs.YtgihbilpimempaaDoor.dr
open Go.ChangeShapes Go.WideShapes Go.ChangeAt Go.RowKit
open Go.Proofs.YtgihbilpimempaaDoor.wd Go.Proofs.YtgihbilpimempaaDoor.pk Go.Proofs.YtgihbilpimempaaDoor.cp Go.Proofs.YtgihbilpimempaaDoor.ow Go.Proofs.YtgihbilpimempaaDoor.fr

def SRel (w1 : World) (b : Nat) (A : Option Addr) (len cap : Nat) (v : Value) (r : Nat) (wr : World) : Prop :=
  ∃ (l : List UInt8) (p' : Int), wr.ownsRow w1.heap.size 5 1 v (l.map bv).length (l.map bv) ∧ l.length + r ≤ 40 ∧ 1 ≤ p' ∧ p' + r ≤ 41 ∧ Rd wr b A len cap p' ∧ w1.grownBy wr (some b) ∧ w1.heap.size ≤ wr.heap.size
def DrawnBytes (w : World) (e : Ending) (w' : World) : Prop :=
  ∃ (A : Option Addr) (c : Nat) (l : List UInt8), e = .returned (.slice A l.length c) ∧ RowB w' A l ∧ l.length ≤ c ∧ c ≤ maxLen ∧ l.length ≤ 1100 ∧ Below w.heap.size w w'
theorem row_lower {w : World} {B B' : Nat} {t : TypeId} {v : Value} {n : Nat} {xs : List Value} (h : w.ownsRow B t 1 v n xs) (hb : B' ≤ B) : w.ownsRow B' t 1 v n xs := by
  refine ⟨h.1, ?_⟩
  rcases h.2 with h' | ⟨g, cap, cur, h1, h2, h3⟩
  · exact .inl h'
  · exact .inr ⟨g, cap, cur, h1, Nat.le_trans hb h2, h3⟩
theorem drawn_own {w w' : World} {v : Value} {l : List UInt8} (h : Own 5 w w' v (l.map bv)) (hl : l.length ≤ 1100) : DrawnBytes w (.returned v) w' := by
  obtain ⟨A, c, e, hr⟩ := own_row h
  subst e
  have hc : l.length ≤ c ∧ c ≤ maxLen := by
    rcases h.1.2 with ⟨e, h0⟩ | ⟨g, cap, cur, e, _, _, h1, h2, _⟩
    · injection e with e1 e2 e3
      unfold maxLen
      omega
    · injection e with e1 e2 e3
      rw [List.length_map] at h1
      exact ⟨by omega, by omega⟩
  exact ⟨A, c, l, rfl, hr, hc.1, hc.2, hl, h.2⟩

end Go.Proofs.YtgihbilpimempaaDoor.dr
