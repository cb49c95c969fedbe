/-
  Contracts of the program's generator, weights and MixDegree.
-/
import Derived.Test.YtgihbilpimempaaDoorMixBase
import Derived.Test.YtgihbilpimempaaDoorWords
import Derived.RegionTactic
namespace Go.Proofs.YtgihbilpimempaaDoor.mi
open Go.ChangeShapes Go.WideShapes Go.ChangeAt Go.RowKit
open Go.Proofs.YtgihbilpimempaaDoor.mp Go.Proofs.YtgihbilpimempaaDoor.mb Go.Proofs.YtgihbilpimempaaDoor.wd

def StartPost (w : World) (x : Int) (e : Ending) (w' : World) : Prop :=
  e = .returned (.agg #[.int .i64 (rnd x)]) ∧ Below w.heap.size w w'

/-- only block b has changed, and none has come -/
def Only (b : Nat) (w w' : World) : Prop := Below b w w' ∧ (∀ k, k ≠ b → w'.heap[k]? = w.heap[k]?) ∧ w'.heap.size = w.heap.size

theorem only_set (w : World) (b o : Nat) (v : Value) : Only b w (w.setCell ⟨b, o, none⟩ v) :=
  ⟨(Below.refl _ _).setCell (p := ⟨b, o, none⟩) (Nat.le_refl _) _, fun i hi => Below.heap_setCell w _ _ i hi, by simp⟩
theorem Only.trans {b : Nat} {w w' w'' : World} (h : Only b w w') (k : Only b w' w'') : Only b w w'' :=
  ⟨h.1.trans k.1, fun i hi => (k.2.1 i hi).trans (h.2.1 i hi), k.2.2.trans h.2.2⟩

def cw (b d i : Nat) : Int := if i < d then wt b i else 0
def cells (b d : Nat) : Array Value := #[.int .i64 0, .int .i64 (cw b d 1), .int .i64 (cw b d 2), .int .i64 (cw b d 3), .int .i64 (cw b d 4), .int .i64 (cw b d 5), .int .i64 (cw b d 6), .int .i64 (ps b (d - 1))]

theorem cw_eq {b k : Nat} (h : k < b + 1) : cw b (b + 1) k = wt b k := by unfold cw; rw [if_pos h]
theorem cells_at {b k : Nat} (b1 : b ≤ 6) (k0 : 1 ≤ k) (k1 : k ≤ b) : (cells b (b + 1))[k]? = some (.int .i64 (wt b k)) := by
  rw [← cw_eq (b := b) (k := k) (by omega)]
  rcases six k0 (by omega) with rfl | rfl | rfl | rfl | rfl | rfl <;> rfl
theorem ts_step {b f d : Nat} : ts b (f + 1) d = wt b d + ts b f (d + 1) := rfl

end Go.Proofs.YtgihbilpimempaaDoor.mi
