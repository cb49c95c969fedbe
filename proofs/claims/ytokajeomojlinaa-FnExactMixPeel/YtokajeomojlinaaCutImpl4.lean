/-
  The contract of the program's MixCut.
-/
import Derived.Test.YtokajeomojlinaaCutImpl3
namespace Go.Proofs.Ytokajeomojlinaa.ci
open Go.ChangeShapes Go.WideShapes Go.ChangeAt Go.RowKit
open Go.Proofs.Ytokajeomojlinaa.wd Go.Proofs.Ytokajeomojlinaa.cp Go.Proofs.Ytokajeomojlinaa.ow Go.Proofs.Ytokajeomojlinaa.mi

/-- a whole variable is stored: of the world behind it, that block alone is another -/
theorem wpList_store_blk {P : Program} {ops : Array Oper} {rest : List Oper} {o : Oper} {a : Act} {w : World} {K : Exit → Act → World → Prop} (hgd : o.guard = none) (ty : TypeId) (x y : Operand) (ho : o.op = .store ty x y)
    (g : Nat) (cells : Array Value) (hx : a.eval x = .pointer (some ⟨g, 0, none⟩)) (hy : a.eval y = .agg cells)
    (t : TypeId) (old : Array Value) (hg : Blk w g t old) (hi : (P.info? ty).map (·.size) = some cells.size)
    (hold : old.size = cells.size) (h1 : cells.all (·.oneCell') = true)
    (h : ∀ w', Blk w' g t cells → Only g w w' → wpList P ops K rest (a.put o.dst undef) w') : wpList P ops K (o :: rest) a w := by
  refine wpList_store_row hgd ty x y ho g cells hx hy t old hg hi hold h1 ?_
  obtain ⟨k1, k2⟩ := only_setRow hg cells
  exact h _ k1 k2

theorem blk_grown' {w w' : World} {g : Nat} {t : TypeId} {cs : Array Value} {row : Option Nat} (h : Blk w g t cs) (hb : w.grownBy w' row) (hg : some g ≠ row) : Blk w' g t cs := (hb.block g h.lt hg).trans h

theorem src_range {w : World} {g : Nat} {t : ByteArray} {n k : Nat} (h : Blk w g 61 (src t n)) (hk : k < n) (hn : n ≤ 6) : w.rangeAt g (1 + k * 4) (qb t k).cells.toList := by
  have hq : sb t n k = qb t k := if_pos hk
  intro j v hv
  rw [h.cell, ← hq] at *
  have hj : j < 4 := by
    have := (List.getElem?_eq_some_iff.1 hv).1
    simpa [Q.cells_size] using this
  rw [← hv]
  have hk6 : k < 6 := by omega
  rcases six0 hk6 with rfl | rfl | rfl | rfl | rfl | rfl <;> rcases four hj with rfl | rfl | rfl | rfl <;> rfl

set_option maxRecDepth 100000 in
set_option maxHeartbeats 4000000 in
theorem icut_any (t : ByteArray) (ht : t.size ≤ 1048576) (w : World) : Calls Try.prog 19 #[.string t] w (OwnPost 9 w ((cut t).map Value.string)) := by
  obtain ⟨s0, si, sz0, sz1, sz2⟩ := info_parts infoStr
  have hn := cutN_le t
  have HC := Lib.hid (show cut t = cutTo t (cutN t) from rfl)
  go_enter Try.func19, Try.ntmps19
  go_wp2_with fail
  refine (cutText_any t ht _).mono ?_
  rintro e w1 ⟨rfl, hB1⟩
  generalize cutN t = n at hn HC ⊢
  go_wp2_with (refine wpList_store_blk rfl 61 (.tmp 3) (.tmp 8) rfl w1.heap.size (src t n) rfl rfl 61 (src t 0) (Blk.new w1 _ _) sizeSrc rfl (src_one _ _) ?_)
  intro w2 hS hO
  have hB2 : Below w.heap.size w w2 := (hB1.alloc hB1.size _).trans (hO.1.mono hB1.size)
  have hz := hB1.size
  have hgl := hS.lt
  clear hO hB1
  generalize w1.heap.size = g at hS hz hgl ⊢
  have c0 := hS.cell 0
  rw [src_count] at c0
  have hn0 : (0 : Int) ≤ (n : Int) := by omega
  have hn6 : (n : Int) ≤ 6 := by omega
  go_wp2
  go_loopw [4, 14] (fun v i wr => ∃ k : Nat, k ≤ n ∧ i = .int .i64 k ∧ Blk wr g 61 (src t n) ∧ Own 9 w2 wr v ((cutTo t k).map Value.string)) (fun _ i _ => (n + 1 : Nat) - (intOf i).toNat)
  case atStart => exact ⟨0, by omega, rfl, hS, Own.nil w2⟩
  case round =>
    obtain ⟨k, hk, rfl, hG, hI⟩ := hrel
    clear hS c0
    by_cases hkn : k < n
    · have hrg := src_range hG hkn hn
      have HS := Lib.hid (show (cutTo t (k + 1)).map Value.string = (cutTo t k).map Value.string ++ [.string (qb t k).str] by rw [cutTo_snoc]; simp)
      have hlo : ((cutTo t k).map Value.string).length ≤ 6 := by simp [cutTo_len]; omega
      generalize (cutTo t k).map Value.string = os at hI HS hlo
      go_wp2_with (first | (refine wpList_load_mid rfl 58 (.tmp 16) rfl g (1 + k * 4) rfl (qb t k).cells.toList _ hrg Try.underlying58 rfl sizeBlock ?_) | (refine wpList_store_blk rfl 58 (.tmp 6) (.tmp 17) rfl wr.heap.size (qb t k).cells rfl rfl 58 Q.zero.cells (Blk.new wr _ _) sizeBlock rfl (Q.cells_one _) ?_))
      intro w3 hQ hO3
      have hB3 : Below wr.heap.size wr w3 := ((Below.refl _ _).alloc (Nat.le_refl _) _).trans hO3.1
      clear hO3 hrg
      go_wp2_with (refine wpList_load_row rfl 58 (.tmp 6) rfl wr.heap.size rfl 58 (qb t k).cells (0, 0) _ hQ Try.underlying58 rfl sizeBlock ?_)
      refine (text_any _ _).mono ?_
      rintro e w4 ⟨rfl, hB4⟩
      have hB : Below wr.heap.size wr w4 := hB3.trans (hB4.mono hB3.size)
      have hI4 := hI.later hB
      have hG4 := hG.below hB hG.lt
      clear hQ hB3 hB4 hB hG hI
      go_wp2_with (at_builtin; refine wpList_append_own _ rfl _ _ 24 rfl w2.heap.size 9 s0 (.string ⟨#[]⟩) 1 16 Try.underlying24 si sz0 sz1 sz2 rfl (by decide) _ _ _ rfl (hI4.1.alloc _) ⟨w4.heap.size, 0, none⟩ 1 1 [.string (qb t k).str] rfl rfl ?e1 ?e2 ?e3 ?e4 ?e5 ?_)
      case e1 => exact cell_one_new _ _ _
      case e2 => intro x hx; simp at hx; subst hx; rfl
      case e3 => unfold maxLen; omega
      case e4 => omega
      case e5 => have := hI4.2.size; simp; omega
      intro v1 w5 hown1 hgrow1 _
      have R := Lib.hid (hI4.more hown1 hgrow1)
      have R2 := Lib.hid (blk_grown' (hG4.alloc _) hgrow1 (fun e => by have := (hI4.lt e.symm).1; omega))
      clear hown1 hgrow1 hI4 hG4
      go_wp2
      go_roundw
      case rel => exact ⟨k + 1, by omega, by go_num, R2.out, by rw [HS.out]; exact R.out⟩
      case measure => simp [intOf]; omega
    · obtain rfl : k = n := by omega
      go_wp2
      go_ret
      exact ⟨_, rfl, by rw [HC.out]; exact hI.from_ hB2⟩
end Go.Proofs.Ytokajeomojlinaa.ci
