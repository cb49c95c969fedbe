/-
  Contract of spec.DrawFrameSum: whatever the code, at most 1100 bytes of the call's own.
-/
import Derived.Test.YtgihbilpimempaaDraw2
import Derived.Test.YtgihbilpimempaaFrSet
import Derived.Laws.OwnMore
namespace Go.Proofs.Ytgihbilpimempaa.dr
open Go.ChangeShapes Go.WideShapes Go.ChangeAt Go.RowKit
open Go.Proofs.Ytgihbilpimempaa.wd Go.Proofs.Ytgihbilpimempaa.pk Go.Proofs.Ytgihbilpimempaa.cp Go.Proofs.Ytgihbilpimempaa.ow Go.Proofs.Ytgihbilpimempaa.fr

def SRel (w1 : World) (b : Nat) (A : Option Addr) (len cap : Nat) (v : Value) (r : Nat) (wr : World) : Prop :=
  ∃ (l : List UInt8) (p' : Int), wr.ownsRow w1.heap.size 5 1 v (l.map bv).length (l.map bv) ∧ l.length + r ≤ 40 ∧ 1 ≤ p' ∧ p' + r ≤ 41 ∧ Rd wr b A len cap p' ∧ w1.grownBy wr (some b) ∧ w1.heap.size ≤ wr.heap.size
def DrawnBytes (w : World) (e : Ending) (w' : World) : Prop :=
  ∃ (A : Option Addr) (c : Nat) (l : List UInt8), e = .returned (.slice A l.length c) ∧ RowB w' A l ∧ l.length ≤ c ∧ c ≤ maxLen ∧ l.length ≤ 1100 ∧ Below w.heap.size w w'
theorem row_lower {w : World} {B B' : Nat} {t : TypeId} {v : Value} {n : Nat} {xs : List Value} (h : w.ownsRow B t 1 v n xs) (hb : B' ≤ B) : w.ownsRow B' t 1 v n xs := by
  refine ⟨h.1, ?_⟩
  rcases h.2 with h' | ⟨g, cap, cur, h1, h2, h3⟩
  · exact .inl h'
  · exact .inr ⟨g, cap, cur, h1, Nat.le_trans hb h2, h3⟩
theorem drawn_own {w w' : World} {v : Value} {l : List UInt8} (h : Own 5 w w' v (l.map bv)) (hl : l.length ≤ 1100) : DrawnBytes w (.returned v) w' := by
  obtain ⟨A, c, e, hr⟩ := own_row h
  subst e
  have hc : l.length ≤ c ∧ c ≤ maxLen := by
    rcases h.1.2 with ⟨e, h0⟩ | ⟨g, cap, cur, e, _, _, h1, h2, _⟩
    · injection e with e1 e2 e3
      unfold maxLen
      omega
    · injection e with e1 e2 e3
      rw [List.length_map] at h1
      exact ⟨by omega, by omega⟩
  exact ⟨A, c, l, rfl, hr, hc.1, hc.2, hl, h.2⟩

set_option maxRecDepth 100000 in
set_option maxHeartbeats 2000000 in
theorem drawFrameSum (w : World) (A0 : Option Addr) (len0 cap0 : Nat) (h : Bytes w w.heap.size A0 len0) (hl : len0 ≤ cap0) (hm : cap0 ≤ maxLen) :
    Calls Try.prog 9 #[.slice A0 len0 cap0] w (DrawnBytes w) := by
  obtain ⟨i0, hi, hz0, hz1, hz2⟩ := info_parts infoByte
  go_enter Try.func9, Try.ntmps9
  go_wp2_with fail
  refine (open_any _ _ _ _ h hl hm).mono ?_
  rintro e w1 ⟨len, cap, rfl, hR, hB1, hz⟩
  have HB1 := Lib.hid hB1
  have hb1 := hR.1.lt
  clear h hz hB1
  generalize hbb : w.heap.size = b at hR hb1 ⊢
  have HBB := Lib.hid hbb
  clear hbb
  have hO1 := World.ownsRow_lit (base := w1.heap.size) (e := 5) (size := 1) w1 #[] 0 (Nat.le_refl _) (by unfold maxLen; omega) rfl
  go_wp2_with fail
  refine (picked _ _ _ _ _ _ _ (rd_later hR ((Below.refl _ _).alloc (by omega) _)) (by omega) (by omega) (by omega)).mono ?_
  rintro e w2 ⟨n, rfl, n0, n1, hR2, hO2⟩
  obtain ⟨n, rfl⟩ := Int.eq_ofNat_of_zero_le n0
  have HB : Hid (SRel w1 b A0 len cap (.slice (some ⟨w1.heap.size, 0, none⟩) 0 0) n w2) :=
    ⟨[], 1, own_pick hO1 hO2 hb1, by simp; omega, by omega, by omega, by simpa using hR2, grown_trans (below_grown ((Below.refl _ _).alloc (Nat.le_refl _) _) _) (only_grown hO2), by rw [hO2.2.2]; simp⟩
  clear hR2 hO2 hO1 hR
  go_wp2
  go_loopw [4, 5] (fun v i wr => ∃ r : Nat, i = .int .i64 r ∧ r ≤ 40 ∧ SRel w1 b A0 len cap v r wr) (fun _ i _ => (intOf i).toNat)
  case atStart => exact ⟨n, by go_num, by omega, HB.out⟩
  case round =>
    obtain ⟨r, rfl, hr, hL⟩ := hrel
    clear HB
    obtain ⟨l, p', hOw, hlr, hp0, hp1, hRd, hgr, hzr⟩ := hL
    by_cases hr0 : 0 < r
    · have hvl : ∀ k, u4.ownBlock = some k → w1.heap.size ≤ k := fun k hk => (hOw.lt k hk).1
      go_wp2_with fail
      refine (picked _ _ _ _ _ _ _ hRd (by omega) (by omega) (by omega)).mono ?_
      rintro e w3 ⟨x, rfl, x0, x1, hR3, hO3⟩
      have hOw3 := own_pick hOw hO3 hb1
      have hgr3 := grown_trans hgr (only_grown hO3)
      have hz3 : w1.heap.size ≤ w3.heap.size := by rw [hO3.2.2]; exact hzr
      clear hOw hgr hRd hO3 hzr
      obtain ⟨y, rfl⟩ := Int.eq_ofNat_of_zero_le x0
      have hE : Value.int .u8 (y : Int) = bv (UInt8.ofNat y) := by unfold bv; congr 1; simp; omega
      have HE := Lib.hid hE
      have hll : (l.map bv).length ≤ 40 := by simp; omega
      have HL := Lib.hid (show l.map bv ++ [bv (UInt8.ofNat y)] = (l ++ [UInt8.ofNat y]).map bv by simp)
      have HN := Lib.hid (show (l ++ [UInt8.ofNat y]).length = l.length + 1 by simp)
      clear hE
      generalize hxs : l.map bv = xs at hOw3 hll HL
      clear hxs
      go_wp2_with (at_builtin; refine wpList_append_own _ rfl _ _ 22 rfl w1.heap.size 5 i0 (.int .u8 0) 1 1 Try.underlying22 hi hz0 hz1 hz2 rfl (by decide) _ _ _ rfl (hOw3.alloc _) ⟨w3.heap.size, 0, none⟩ 1 1 [.int .u8 (y : Int)] rfl rfl ?c1 ?c2 ?c3 ?c4 ?c5 ?_)
      case c1 => exact World.news_of_block (heap_alloc_new w3 _)
      case c2 => intro x hx; simp at hx; subst hx; rfl
      case c3 => unfold maxLen; omega
      case c4 => omega
      case c5 => simp; omega
      intro v1 w4 hown1 hgrow1 _
      have R : Hid (SRel w1 b A0 len cap v1 (r - 1) w4) := by
        rw [HE.out, HL.out] at hown1
        have hq : xs.length + 1 = ((l ++ [UInt8.ofNat y]).map bv).length := by have := hown1.1; omega
        rw [hq] at hown1
        refine ⟨l ++ [UInt8.ofNat y], p' + 1, hown1, by rw [HN.out]; omega, by omega, by omega, rd_append hR3 hgrow1 hvl hb1, grown_append hgr3 hgrow1 hvl, ?_⟩
        have := hgrow1.size
        simp at this
        omega
      clear hown1 hgrow1 hOw3 hR3 hgr3
      go_wp2
      go_roundw
      case rel => exact ⟨r - 1, by go_num, by omega, R.out⟩
      case measure => simp [intOf]; omega
    · obtain rfl : r = 0 := by omega
      go_wp2_with fail
      refine (picked _ _ _ _ _ _ _ hRd (by omega) (by omega) (by omega)).mono ?_
      rintro e w3 ⟨x, rfl, x0, x1, hR3, hO3⟩
      have hOw3 := own_pick hOw hO3 hb1
      have hgr3 := grown_trans hgr (only_grown hO3)
      have hBe : Below w.heap.size w w3 := HB1.out.trans (grown_below hgr3 (by rw [HBB.out]; exact Nat.le_refl _) HB1.out.size)
      by_cases e0 : x = 0
      · subst e0
        have HBe := Lib.hid hBe
        have hRl := hR3
        clear hOw hOw3 hgr hgr3 hRd hR3 hO3 hBe hzr
        go_wp2_with (at_make; refine wpList_make_full _ rfl _ _ 22 rfl w3.heap.size 5 i0 _ 1 Try.underlying22 hi hz0 hz1 _ _ _ _ 1100 rfl rfl rfl rfl (by rw [hz2]; omega) (by unfold maxLen; omega) (Nat.le_refl _) ?_)
        intro w4 hown hgrow
        have hO4 : Own 5 w3 w4 (.slice (some ⟨w3.heap.size, 0, none⟩) 1100 1100) ((List.replicate 1100 (0 : UInt8)).map bv) := by
          rw [toList_madeCells_one, show List.replicate 1100 (Value.int .u8 0) = (List.replicate 1100 (0 : UInt8)).map bv by rw [List.map_replicate]; rfl] at hown
          refine ⟨?_, hgrow.os, hgrow.tape, hgrow.output, hgrow.size, fun k hk => hgrow.block k hk (by simp)⟩
          rw [List.length_map, List.length_replicate]
          exact hown
        have hb3 := hRl.1.lt
        have hR4 := rd_later hRl (hO4.2.mono (B := w3.heap.size) (by omega : b + 1 ≤ w3.heap.size))
        obtain ⟨L, hLe⟩ : ∃ L, L = List.replicate 1100 (0 : UInt8) := ⟨_, rfl⟩
        have hLl : L.length = 1100 := by rw [hLe, List.length_replicate]
        rw [← hLe] at hO4
        clear hLe hown hgrow hRl
        go_wp2_with fail
        refine (picked _ _ _ _ _ _ _ hR4 (by omega) (by omega) (by omega)).mono ?_
        rintro e w5 ⟨x, rfl, x0, x1, hR5, hO5⟩
        obtain ⟨x, rfl⟩ := Int.eq_ofNat_of_zero_le x0
        go_wp2_with fail
        refine (picked _ _ _ _ _ _ _ hR5 (by omega) (by omega) (by omega)).mono ?_
        rintro e w6 ⟨y, rfl, y0, y1, hR6, hO6⟩
        obtain ⟨y, rfl⟩ := Int.eq_ofNat_of_zero_le y0
        have hG := grown_trans (grown_trans (below_grown hO4.2 (some b)) (only_grown hO5)) (only_grown hO6)
        have hBw : Below w.heap.size w w6 := HBe.out.trans (grown_below hG (by rw [HBB.out]; exact Nat.le_refl _) HBe.out.size)
        have hOw : Own 5 w w6 (.slice (some ⟨w3.heap.size, 0, none⟩) 1100 1100) (L.map bv) := ⟨row_lower (own_pick (own_pick hO4.1 hO5 hb3) hO6 hb3) HBe.out.size, hBw⟩
        have hxl : x < L.length := by omega
        have hy : (((UInt8.ofNat y).toNat : Nat) : Int) = (y : Int) := by simp; omega
        obtain ⟨g6, e6, hg6, y6, f6, hRow6, hBl6, hn6, hc6, hm6⟩ := own_set hOw hxl (UInt8.ofNat y)
        rw [hy] at hRow6 hBl6
        injection e6 with e6
        injection e6 with e6
        subst e6
        have HF : Hid (DrawnBytes w (.returned (.slice (some ⟨w3.heap.size, 0, none⟩) 1100 1100)) (w6.setCell ⟨w3.heap.size, x, none⟩ (.int .u8 (y : Int)))) :=
          ⟨_, 1100, L.set x (UInt8.ofNat y), by rw [List.length_set, hLl], hRow6, by rw [List.length_set, hLl]; exact Nat.le_refl _, by unfold maxLen; omega, by rw [List.length_set, hLl]; exact Nat.le_refl _, hBl6⟩
        clear hO4 hR4 hR5 hO5 hR6 hO6 hG hBw hOw hRow6 hBl6 hn6 hc6 hm6 hy
        generalize vl L x = z at y6
        clear hLl hxl
        go_wp2
        go_ret
        exact HF.out
      · have d0 : (x == 0) = false := by rw [beq_eq_false_iff_ne]; exact e0
        have HOw := Lib.hid (drawn_own (w := w) ⟨row_lower hOw3 HB1.out.size, hBe⟩ (by omega))
        clear hOw hOw3 hgr hgr3 hRd hR3 hO3 hBe hzr
        go_wp2
        go_ret
        exact HOw.out
end Go.Proofs.Ytgihbilpimempaa.dr
