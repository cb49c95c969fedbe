/-
  The contract of the program's cutText.
-/
import Derived.Test.YtokajeomojlinaaCutImpl2
namespace Go.Proofs.Ytokajeomojlinaa.ci
open Go.ChangeShapes Go.WideShapes Go.ChangeAt Go.RowKit
open Go.Proofs.Ytokajeomojlinaa.wd Go.Proofs.Ytokajeomojlinaa.cp Go.Proofs.Ytokajeomojlinaa.ow Go.Proofs.Ytokajeomojlinaa.mi

theorem bcell {W w1 : World} {B : Nat} (hb : Below B W w1) : (∀ b o, b < B → w1.cell? ⟨b, o, none⟩ = W.cell? ⟨b, o, none⟩) ∧ (∀ b o, b < B → w1.frozen? ⟨b, o, none⟩ = W.frozen? ⟨b, o, none⟩) :=
  ⟨fun b o h => hb.cell (p := ⟨b, o, none⟩) h, fun b o h => hb.frozen (p := ⟨b, o, none⟩) h⟩

theorem below_of_drew {w w1 : World} (h : Below w.drew.heap.size w.drew w1) : Below w.heap.size w w1 := ⟨h.os, h.tape, h.output, h.size, h.block⟩

def CRel (w : World) (t : ByteArray) (k : Nat) (wr : World) : Prop :=
  Blk wr w.heap.size 61 (src t 0) ∧ Blk wr (w.heap.size + 1) 61 (src t k) ∧ Below w.heap.size w wr

theorem crel_start (w : World) (t : ByteArray) : CRel w t 0 ((w.alloc (.cells (src t 0) 61)).alloc (.cells (src t 0) 61)) := by
  refine ⟨(Blk.new w _ _).alloc _, ?_, ((Below.refl _ _).alloc (Nat.le_refl _) _).alloc (by simp) _⟩
  have := Blk.new (w.alloc (.cells (src t 0) 61)) 61 (src t 0)
  rwa [show (w.alloc (.cells (src t 0) 61)).heap.size = w.heap.size + 1 by simp] at this

theorem crel_on {w : World} {t : ByteArray} {k : Nat} {wr w2 : World} (h : CRel w t k wr) (hk : k < 6) (hB : Below wr.heap.size wr w2) (m : Nat) (hm : m = 1 + k * 4) :
    CRel w t (k + 1) (((((w2.setCell ⟨w.heap.size + 1, m, none⟩ (.int .u8 ((qb t k).a.toNat : Int))).setCell ⟨w.heap.size + 1, m + 1, none⟩ (.int .u8 ((qb t k).b.toNat : Int))).setCell ⟨w.heap.size + 1, m + 2, none⟩ (.int .u8 ((qb t k).c.toNat : Int))).setCell ⟨w.heap.size + 1, m + 3, none⟩ (.int .u8 ((qb t k).d.toNat : Int))).setCell ⟨w.heap.size + 1, 0, none⟩ (.int .i64 ((k : Int) + 1))) := by
  subst hm
  obtain ⟨h1, h2, h3⟩ := h
  have l1 := h1.lt
  have l2 := h2.lt
  have k1 := h1.below hB l1
  have k2 := h2.below hB l2
  refine ⟨?_, ?_, ?_⟩
  · exact ((((k1.far (p := ⟨w.heap.size + 1, _, none⟩) (by simp) _).far (p := ⟨w.heap.size + 1, _, none⟩) (by simp) _).far (p := ⟨w.heap.size + 1, _, none⟩) (by simp) _).far (p := ⟨w.heap.size + 1, _, none⟩) (by simp) _).far (p := ⟨w.heap.size + 1, _, none⟩) (by simp) _
  · rw [← src_on t hk]
    exact ((((k2.put _ _).put _ _).put _ _).put _ _).put _ _
  · exact ((((((h3.trans (hB.mono h3.size)).setCell (p := ⟨w.heap.size + 1, _, none⟩) (by simp) _).setCell (p := ⟨w.heap.size + 1, _, none⟩) (by simp) _).setCell (p := ⟨w.heap.size + 1, _, none⟩) (by simp) _).setCell (p := ⟨w.heap.size + 1, _, none⟩) (by simp) _).setCell (p := ⟨w.heap.size + 1, _, none⟩) (by simp) _)

def DataPost (w : World) (a b c d : Value) (e : Ending) (w' : World) : Prop := e = .returned (.agg #[a, b, c, d]) ∧ Below w.heap.size w w'
theorem dataOf_at (t s : ByteArray) (k : Nat) (hs : s = t.extract (4 * k) t.size) (w : World) : Calls Try.prog 74 #[.string s] w (DataPost w (.int .u8 ((qb t k).a.toNat : Int)) (.int .u8 ((qb t k).b.toNat : Int)) (.int .u8 ((qb t k).c.toNat : Int)) (.int .u8 ((qb t k).d.toNat : Int))) := by
  subst hs
  have := dataOf_any (t.extract (4 * k) t.size) w
  rw [qb_extract] at this
  exact this

theorem src_isSome (t : ByteArray) (k : Nat) {j : Nat} (h : j < 25) : ∃ v, (src t k)[j]? = some v := ⟨_, Array.getElem?_eq_getElem (by rw [src_size]; exact h)⟩

set_option maxRecDepth 100000 in
set_option maxHeartbeats 4000000 in
theorem cutText_any (t : ByteArray) (ht : t.size ≤ 1048576) (w : World) : Calls Try.prog 45 #[.string t] w (AggPost w (src t (cutN t))) := by
  have hS := crel_start w t
  rw [zeroSrc] at hS
  have HS := Lib.hid hS
  clear hS
  by_cases h1 : 24 < t.size
  · have HC := Lib.hid (cutN_out (t := t) (.inr h1))
    go_enter Try.func45, Try.ntmps45
    obtain ⟨b1, b2, b3⟩ := HS.out
    clear HS
    go_wp2_with (first | (refine wpList_load_row rfl 61 (.tmp 3) rfl (w.heap.size + 1) rfl 61 (src t 0) (0, 0) _ b2 Try.underlying61 rfl sizeSrc ?_) | (refine wpList_store_row rfl 61 (.tmp 2) (.tmp 8) rfl w.heap.size (src t 0) rfl rfl 61 (src t 0) b1 sizeSrc rfl (src_one _ _) ?_))
    obtain ⟨k1, k2⟩ := only_setRow b1 (src t 0)
    exact bodyPost_ret (v := .agg (src t 0)) (results_cell_row rfl _ _ w.heap.size 61 _ (0, 0) _ rfl k1 Try.underlying61 rfl sizeSrc) rfl ⟨by rw [HC.out], b3.trans k2.1⟩
  have HC := Lib.hid (show cutN t = (t.size + 3) / 4 by unfold cutN; split <;> omega)
  have hn : (t.size + 3) / 4 ≤ 6 := by omega
  generalize hN : (t.size + 3) / 4 = n at HC hn
  have HN := Lib.hid hN
  clear hN
  go_enter Try.func45, Try.ntmps45
  go_wp2
  go_loopw [4] (fun i wr => ∃ k : Nat, k ≤ n ∧ i = .int .i64 ((4 * k : Nat) : Int) ∧ CRel w t k wr) (fun i _ => (4 * n + 1 : Nat) - (intOf i).toNat)
  case atStart => exact ⟨0, by omega, rfl, HS.out⟩
  case round =>
    obtain ⟨k, hk, rfl, hR⟩ := hrel
    clear HS
    by_cases hkn : k < n
    · have hlt : 4 * k < t.size := by have := HN.out; omega
      have hk6 : k < 6 := by omega
      have HR := Lib.hid (fun w2 hB => crel_on (w2 := w2) hR hk6 hB (1 + k * 4) rfl)
      obtain ⟨b1, b2, b3⟩ := hR
      have l2 := b2.lt
      have c0 := b2.cell 0
      rw [src_count] at c0
      obtain ⟨y0, z0⟩ := src_isSome t k (show 1 + k * 4 < 25 by omega)
      obtain ⟨y1, z1⟩ := src_isSome t k (show 1 + k * 4 + 1 < 25 by omega)
      obtain ⟨y2, z2⟩ := src_isSome t k (show 1 + k * 4 + 2 < 25 by omega)
      obtain ⟨y3, z3⟩ := src_isSome t k (show 1 + k * 4 + 3 < 25 by omega)
      rw [← b2.cell] at z0 z1 z2 z3
      have f0 := b2.frozen 0
      have e0 := b2.frozen (1 + k * 4)
      have e1 := b2.frozen (1 + k * 4 + 1)
      have e2 := b2.frozen (1 + k * 4 + 2)
      have e3 := b2.frozen (1 + k * 4 + 3)
      clear b1 b2 b3
      have hn6 : (k : Int) < 6 := by omega
      have hn7 : (0 : Int) ≤ 4 * (k : Int) := by omega
      have hn8 : 4 * (k : Int) ≤ (t.size : Int) := by omega
      go_wp2
      go_region_held3 (fun w' => w'.cell? ⟨w.heap.size + 1, 0, none⟩ = some (.int .i64 k)) (first | exact c0 | exact s1 | (rw [World.cell?_setCell_other _ _ _ _ (by simp), World.cell?_setCell_other _ _ _ _ (by simp), World.cell?_setCell_other _ _ _ _ (by simp), World.cell?_setCell_other _ _ _ _ (by simp)]; exact s1) | go_keep) ((go_at_call 74; refine (dataOf_at t _ k (by first | rfl | simp) _).mono ?_; rintro e w2 ⟨rfl, hB2⟩; have s1 := (hB2.cell (p := ⟨w.heap.size + 1, 0, none⟩) l2).trans c0; have s0 := (hB2.frozen (p := ⟨w.heap.size + 1, 0, none⟩) l2).trans f0; have g0 := (hB2.cell (p := ⟨w.heap.size + 1, 1 + k * 4, none⟩) l2).trans z0; have q0 := (hB2.frozen (p := ⟨w.heap.size + 1, 1 + k * 4, none⟩) l2).trans e0; have g1 := (hB2.cell (p := ⟨w.heap.size + 1, 1 + k * 4 + 1, none⟩) l2).trans z1; have q1 := (hB2.frozen (p := ⟨w.heap.size + 1, 1 + k * 4 + 1, none⟩) l2).trans e1; have g2 := (hB2.cell (p := ⟨w.heap.size + 1, 1 + k * 4 + 2, none⟩) l2).trans z2; have q2 := (hB2.frozen (p := ⟨w.heap.size + 1, 1 + k * 4 + 2, none⟩) l2).trans e2; have g3 := (hB2.cell (p := ⟨w.heap.size + 1, 1 + k * 4 + 3, none⟩) l2).trans z3; have q3 := (hB2.frozen (p := ⟨w.heap.size + 1, 1 + k * 4 + 3, none⟩) l2).trans e3))
      have R := Lib.hid (HR.out _ (below_of_drew hB2))
      go_wp2
      exact ⟨⟨k + 1, by omega, by go_num, R.out⟩, by simp [intOf]; omega⟩
    · obtain rfl : k = n := by omega
      obtain ⟨b1, b2, b3⟩ := hR
      have hge : t.size ≤ 4 * k := by have := HN.out; omega
      go_wp2_with (first | (refine wpList_load_row rfl 61 (.tmp 3) rfl (w.heap.size + 1) rfl 61 (src t k) (0, 0) _ b2 Try.underlying61 rfl sizeSrc ?_) | (refine wpList_store_row rfl 61 (.tmp 2) (.tmp 27) rfl w.heap.size (src t k) rfl rfl 61 (src t 0) b1 sizeSrc rfl (src_one _ _) ?_))
      obtain ⟨k1, k2⟩ := only_setRow b1 (src t k)
      exact bodyPost_ret (v := .agg (src t k)) (results_cell_row rfl _ _ w.heap.size 61 _ (0, 0) _ rfl k1 Try.underlying61 rfl sizeSrc) rfl ⟨by rw [HC.out], b3.trans k2.1⟩
end Go.Proofs.Ytokajeomojlinaa.ci
