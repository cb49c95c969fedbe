/-
  Words: a slice of the call's own, of any element of one cell; bytes of the call's own that become a text.
-/
import Derived.Test.YtckicpnnclbkpaaRows
import Derived.Test.YtckicpnnclbkpaaWords
import Derived.Test.YtckicpnnclbkpaaCutPlain
import Derived.WalkKit
import Derived.ProofKit
import Derived.Lib.Hide
import Derived.OwnWalk
import Derived.WalkSpells
import Derived.Laws.IdiomStrings
namespace Go.Proofs.Ytckicpnnclbkpaa.ow
open Go.ChangeShapes Go.WideShapes Go.ChangeAt Go.RowKit
open Go.Proofs.Ytckicpnnclbkpaa.wd Go.Proofs.Ytckicpnnclbkpaa.cp

theorem infoByte : (Try.prog.info? 5).map (fun i => (i.zero, i.size, i.bytes)) = some (some (.int .u8 0), 1, 1) := by kernel_rfl
theorem infoStr : (Try.prog.info? 9).map (fun i => (i.zero, i.size, i.bytes)) = some (some (.string ⟨#[]⟩), 1, 16) := by kernel_rfl

/-- a slice of the call's own -/
def Own (t : TypeId) (w0 w : World) (v : Value) (xs : List Value) : Prop := w.ownsRow w0.heap.size t 1 v xs.length xs ∧ Below w0.heap.size w0 w
section
variable {t : TypeId} {w0 w w1 : World} {v v1 x : Value} {xs : List Value} {o : Obj}
theorem Own.nil (w : World) : Own t w w (.slice none 0 0) [] := ⟨World.ownsRow_nil _ _ _ _, Below.refl _ _⟩
theorem Own.empty (w : World) : Own t w (w.alloc (.cells #[] t)) (.slice (some ⟨w.heap.size, 0, none⟩) 0 0) [] :=
  ⟨World.ownsRow_lit w #[] 0 (Nat.le_refl _) (by unfold maxLen; omega) rfl, (Below.refl _ _).alloc (Nat.le_refl _) _⟩
theorem Own.empty_on (h : Below w0.heap.size w0 w) : Own t w0 (w.alloc (.cells #[] t)) (.slice (some ⟨w.heap.size, 0, none⟩) 0 0) [] :=
  ⟨World.ownsRow_lit w #[] 0 h.size (by unfold maxLen; omega) rfl, h.alloc h.size _⟩
theorem Own.more {n : Nat} (h : Own t w0 w v xs) (h1 : w1.ownsRow w0.heap.size t 1 v1 n (xs ++ [x])) (hg : (w.alloc o).grownBy w1 v.ownBlock) : Own t w0 w1 v1 (xs ++ [x]) := by
  obtain rfl : n = (xs ++ [x]).length := by have := h1.1; omega
  refine ⟨h1, ?_⟩
  have hs : (w.alloc o).heap.size = w.heap.size + 1 := by simp
  exact (h.2.alloc h.2.size o).grown hg (by have := h.2.size; omega) (fun k hk => (h.1.lt k hk).1)
theorem Own.later (h : Own t w0 w v xs) (hb : Below w.heap.size w w1) : Own t w0 w1 v xs := by
  refine ⟨h.1.kept (row := none) ⟨hb.os, hb.tape, hb.output, hb.size, fun i hi _ => hb.block i hi⟩ ?_, h.2.trans (hb.mono h.2.size)⟩
  cases hv : v.ownBlock with
  | none => exact .inl rfl
  | some k => exact .inr (by simp)
theorem Own.from_ (h : Own t w w1 v xs) (hb : Below w0.heap.size w0 w) : Own t w0 w1 v xs := by
  refine ⟨⟨h.1.1, ?_⟩, hb.trans (h.2.mono hb.size)⟩
  have := hb.size
  rcases h.1.2 with h' | ⟨g, cap, cur, h1, h2, h3⟩
  · exact .inl h'
  · exact .inr ⟨g, cap, cur, h1, by omega, h3⟩
theorem Own.lt (h : Own t w0 w v xs) {k : Nat} (hk : v.ownBlock = some k) : w0.heap.size ≤ k ∧ k < w.heap.size := h.1.lt k hk
theorem Own.drew (h : Own t w0 w v xs) : Own t w0 w.drew v xs := ⟨h.1, h.2.drew⟩
/-- as the walk reads it -/
theorem Own.form (h : Own t w0 w v xs) : ∃ A c, v = .slice A xs.length c ∧ (0 < xs.length → ∃ g, A = some ⟨g, 0, none⟩ ∧ w0.heap.size ≤ g ∧ g < w.heap.size ∧ ∀ i x, xs[i]? = some x → w.cell? ⟨g, i, none⟩ = some x) := by
  rcases h.1.2 with ⟨rfl, hn⟩ | ⟨g, cap, cur, rfl, hb, hh, hn, hm, hs, ht⟩
  · refine ⟨none, 0, by rw [hn], fun h => absurd h (by omega)⟩
  · refine ⟨_, cap, rfl, fun _ => ⟨g, rfl, hb, (h.1.lt g rfl).2, fun i x hx => ?_⟩⟩
    have hi : i < xs.length := (List.getElem?_eq_some_iff.1 hx).1
    rw [World.ownsRow.cellAt (g := g) (cap := cap) h.1 i (by omega), hx]
end

theorem below_drewN' {B : Nat} {a w : World} (h : Below B a w) (n : Nat) : Below B a (w.drewN n) := ⟨h.os, h.tape, h.output, h.size, h.block⟩

theorem grown_of_drew {w w1 : World} {row : Option Nat} (h : w.drew.grownBy w1 row) : w.grownBy w1 row := ⟨h.os, h.tape, h.output, h.size, h.block⟩

/-- bytes of the call's own, turned into a text -/
theorem own_text {w0 w : World} {v : Value} {l : List UInt8} (h : Own 5 w0 w v (l.map bv)) (hl : 0 < l.length) :
    ∃ g cap, v = .slice (some ⟨g, 0, none⟩) l.length cap ∧ (convert 72 9 (.slice (some ⟨g, 0, none⟩) l.length cap)).run Try.prog w = .ok (.string ⟨l.toArray⟩) w := by
  obtain ⟨A, c, rfl, hc⟩ := h.form
  rw [List.length_map] at hc ⊢
  obtain ⟨g, rfl, _, _, hcell⟩ := hc hl
  refine ⟨g, c, rfl, run_convert_bytes_back (P := Try.prog) w 72 9 5 ⟨g, 0, none⟩ c l Try.underlying72 Try.underlying5 Try.underlying9 (fun j hj => ?_)⟩
  have e : (⟨g, 0, none⟩ : Addr).add j = ⟨g, j, none⟩ := by unfold Addr.add; split <;> simp_all
  rw [e]
  exact hcell j _ (by simp [hj, bv])

theorem ret_int {k : IntKind} {a b : Int} (h : a = b) : Ending.returned (.int k a) = .returned (.int k b) := by rw [h]

def StrPost (w : World) (s : ByteArray) (e : Ending) (w' : World) : Prop := e = .returned (.string s) ∧ Below w.heap.size w w'
def OwnPost (t : TypeId) (w : World) (xs : List Value) (e : Ending) (w' : World) : Prop := ∃ v, e = .returned v ∧ Own t w w' v xs
end Go.Proofs.Ytckicpnnclbkpaa.ow
