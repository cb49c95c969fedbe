/-
  Contracts of the program's selection and MixOf.
-/
import Derived.Test.YtgihbilpimempaaDoorMixImpl
import Derived.Test.YtgihbilpimempaaDoorMixSel
import Derived.Deep.LoopGhost
import Derived.OwnWalk
import Derived.WalkSpells
namespace Go.Proofs.YtgihbilpimempaaDoor.mi
open Go.ChangeShapes Go.WideShapes Go.ChangeAt Go.RowKit
open Go.Proofs.YtgihbilpimempaaDoor.mp Go.Proofs.YtgihbilpimempaaDoor.mb Go.Proofs.YtgihbilpimempaaDoor.wd

def sel (b : Nat) (u : Nat → Bool) : Array Value := #[.int .i64 b, .bool (u 0), .bool (u 1), .bool (u 2), .bool (u 3), .bool (u 4), .bool (u 5)]
theorem six0 {b : Nat} (h1 : b < 6) : b = 0 ∨ b = 1 ∨ b = 2 ∨ b = 3 ∨ b = 4 ∨ b = 5 := by omega
theorem sel_at {b c : Nat} {u : Nat → Bool} (h : c < 6) : (sel b u)[1 + c]? = some (.bool (u c)) := by
  rcases six0 h with rfl | rfl | rfl | rfl | rfl | rfl <;> rfl
theorem sel_set {b c : Nat} {u : Nat → Bool} (h : c < 6) : (sel b u).setIfInBounds (1 + c) (.bool true) = sel b (upd u c) := by
  rcases six0 h with rfl | rfl | rfl | rfl | rfl | rfl <;> simp [sel, upd]

theorem infoInt : (Tryd.prog.info? 3).map (fun i => (i.zero, i.size, i.bytes)) = some (some (.int .i64 0), 1, 8) := by kernel_rfl

/-- a slice of ints of the call's own: what it holds -/
def Ints (w0 w' : World) (v : Value) (l : List Int) : Prop := w'.ownsRow w0.heap.size 3 1 v l.length (l.map (Value.int .i64)) ∧ Below w0.heap.size w0 w'
def IntsPost (w : World) (l : List Int) (e : Ending) (w' : World) : Prop := ∃ v, e = .returned v ∧ Ints w w' v l

theorem Ints.more {w0 w w1 : World} {v v1 : Value} {l : List Int} {n : Int} {o : Obj} (h : Ints w0 w v l)
    (h1 : w1.ownsRow w0.heap.size 3 1 v1 (l.length + 1) (l.map (Value.int .i64) ++ [.int .i64 n])) (hg : (w.alloc o).grownBy w1 v.ownBlock) : Ints w0 w1 v1 (l ++ [n]) := by
  refine ⟨by simpa using h1, ?_⟩
  have hs : (w.alloc o).heap.size = w.heap.size + 1 := by simp
  exact (h.2.alloc h.2.size o).grown hg (by have := h.2.size; omega) (fun k hk => (h.1.lt k hk).1)

theorem lst_step_t {u : Nat → Bool} {k : Nat} (h : u k = true) : lst u (k + 1) = lst u k ++ [(k : Int)] := by simp [lst, h]
theorem lst_step_f {u : Nat → Bool} {k : Nat} (h : u k = false) : lst u (k + 1) = lst u k := by simp [lst, h]
theorem lst_le (u : Nat → Bool) (k : Nat) : (lst u k).length ≤ k := by rw [lst_len]; exact cnt_le u k

theorem Only.blk {b g : Nat} {w w' : World} {t : TypeId} {cs : Array Value} (h : Only b w w') (hne : g ≠ b) (k : Blk w g t cs) : Blk w' g t cs := (h.2.1 g hne).trans k

theorem ownsRow_base {w : World} {base base' : Nat} {e : TypeId} {size : Nat} {v : Value} {n : Nat} {xs : List Value} (h : w.ownsRow base e size v n xs) (hb : base' ≤ base) : w.ownsRow base' e size v n xs := by
  refine ⟨h.1, ?_⟩
  rcases h.2 with h | ⟨g, cap, cur, h1, h2, h3⟩
  · exact .inl h
  · exact .inr ⟨g, cap, cur, h1, by omega, h3⟩

def MoPost (w : World) (b n : Int) (e : Ending) (w' : World) : Prop := IntsPost w (mo b n) e w'

end Go.Proofs.YtgihbilpimempaaDoor.mi
