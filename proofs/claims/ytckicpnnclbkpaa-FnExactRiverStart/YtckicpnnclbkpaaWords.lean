/-
  Words for memory: a block that is known whole; a row of bytes that came in.
-/
import Derived.Below
import Derived.Laws.OwnMore
import Derived.Deep.Draws
import Derived.Laws.Rows
import Derived.RowKit3
namespace Go.Proofs.Ytckicpnnclbkpaa.wd
open Go.RowKit

def Blk (w : World) (g : Nat) (t : TypeId) (cs : Array Value) : Prop := w.heap[g]? = some (.cells cs t (0, 0))

section
variable {w w' : World} {g : Nat} {t : TypeId} {cs : Array Value}
theorem Blk.lt (h : Blk w g t cs) : g < w.heap.size := by
  rcases Nat.lt_or_ge g w.heap.size with hlt | hge
  · exact hlt
  · unfold Blk at h; rw [Array.getElem?_eq_none hge] at h; cases h
theorem Blk.cell (h : Blk w g t cs) (i : Nat) : w.cell? ⟨g, i, none⟩ = cs[i]? := cell_of_row w g i cs t (0, 0) h
theorem Blk.frozen (h : Blk w g t cs) (i : Nat) : w.frozen? ⟨g, i, none⟩ = false := by
  unfold Blk at h
  simp [World.frozen?, h]
theorem Blk.new (w : World) (t : TypeId) (cs : Array Value) : Blk (w.alloc (.cells cs t)) w.heap.size t cs := heap_alloc_new w _
theorem Blk.drewN (h : Blk w g t cs) (n : Nat) : Blk (w.drewN n) g t cs := h
theorem Blk.alloc (h : Blk w g t cs) (o : Obj) : Blk (w.alloc o) g t cs := (Below.heap_alloc w o g h.lt).trans h
theorem Blk.put (h : Blk w g t cs) (i : Nat) (u : Value) : Blk (w.setCell ⟨g, i, none⟩ u) g t (cs.setIfInBounds i u) := by
  unfold Blk at h ⊢
  simp [World.setCell, Array.getElem?_modify, h]
theorem Blk.far (h : Blk w g t cs) {p : Addr} (hp : g ≠ p.block) (u : Value) : Blk (w.setCell p u) g t cs := (Below.heap_setCell w p u g hp).trans h
theorem Blk.below {B : Nat} (h : Blk w g t cs) (hb : Below B w w') (hg : g < B) : Blk w' g t cs := (hb.block g hg).trans h
end

/-- a row of bytes that can be read: none if the length is 0 -/
def Bytes (w : World) (B : Nat) (A : Option Addr) (n : Nat) : Prop :=
  0 < n → ∃ g o, A = some ⟨g, o, none⟩ ∧ g < B ∧ ∀ j, j < n → ∃ v : Int, w.cell? ⟨g, o + j, none⟩ = some (.int .u8 v) ∧ 0 ≤ v ∧ v ≤ 255

section
variable {w w' : World} {B B' : Nat} {A : Option Addr} {n : Nat}
theorem Bytes.keep (h : Bytes w B A n) (hk : ∀ g o, g < B → w'.cell? ⟨g, o, none⟩ = w.cell? ⟨g, o, none⟩) : Bytes w' B A n := fun hn => by
  obtain ⟨g, o, e, hb, hc⟩ := h hn
  refine ⟨g, o, e, hb, fun j hj => ?_⟩
  obtain ⟨v, hv, h0, h1⟩ := hc j hj
  exact ⟨v, (hk g _ hb).trans hv, h0, h1⟩
theorem Bytes.below (h : Bytes w B A n) (hb : Below B w w') : Bytes w' B A n := h.keep fun _ _ hp => hb.cell (p := ⟨_, _, none⟩) hp
theorem Bytes.take (h : Bytes w B A n) {m : Nat} (hm : m ≤ n) : Bytes w B A m := fun hn => by
  obtain ⟨g, o, e, hb, hc⟩ := h (by omega)
  exact ⟨g, o, e, hb, fun j hj => hc j (by omega)⟩
end
end Go.Proofs.Ytckicpnnclbkpaa.wd
