/-
  Contract of spec.DrawFrameUnpack: whatever the code, at most 18 bytes of the call's own.
-/
import Derived.Test.YtgihbilpimempaaDoorDrawFrame
import Derived.Test.YtgihbilpimempaaDoorDrawSum
import Derived.Test.YtgihbilpimempaaDoorSPack
import Derived.Deep.Cut
namespace Go.Proofs.YtgihbilpimempaaDoor.dr
open Go.ChangeShapes Go.WideShapes Go.ChangeAt Go.RowKit
open Go.Proofs.YtgihbilpimempaaDoor.wd Go.Proofs.YtgihbilpimempaaDoor.pk Go.Proofs.YtgihbilpimempaaDoor.cp Go.Proofs.YtgihbilpimempaaDoor.ow Go.Proofs.YtgihbilpimempaaDoor.fr

/-- own bytes; the reader's block lies below them -/
def FRel (w1 : World) (b : Nat) (A : Option Addr) (len cap : Nat) (i : Nat) (v : Value) (wr : World) : Prop :=
  ∃ (l : List UInt8) (p' : Int), wr.ownsRow w1.heap.size 5 1 v (l.map bv).length (l.map bv) ∧ l.length ≤ 17 ∧ 0 ≤ p' ∧ p' ≤ (i + 1) * 100 ∧ Rd wr b A len cap p' ∧ w1.grownBy wr (some b) ∧ w1.heap.size ≤ wr.heap.size
theorem frel_form {B : Nat} {w : World} {v : Value} {l : List UInt8} (h : w.ownsRow B 5 1 v (l.map bv).length (l.map bv)) : ∃ A c, v = .slice A l.length c ∧ l.length ≤ c ∧ c ≤ maxLen := by
  rcases h.2 with ⟨rfl, h0⟩ | ⟨g, cap, cur, rfl, _, _, h1, h2, _⟩
  · rw [List.length_map] at h0
    exact ⟨none, 0, by rw [h0], by omega, by unfold maxLen; omega⟩
  · rw [List.length_map] at h1 ⊢
    exact ⟨_, cap, rfl, by omega, by omega⟩
theorem frel_next {w1 wr w2 w3 : World} {b : Nat} {A : Option Addr} {len cap : Nat} {i : Nat} {v : Value} {p p' : Int} {F : Fr} (hb : b < w1.heap.size) (hz : w1.heap.size ≤ wr.heap.size) (h0 : 0 ≤ p) (hp : p ≤ i * 100) (h1 : p ≤ p') (h2 : p' ≤ p + 100)
    (hG : w1.grownBy wr (some b)) (hR : Rd w2 b A len cap p') (hG2 : wr.grownBy w2 (some b)) (hO : Own 5 w2 w3 v ((pk F).map bv)) : FRel w1 b A len cap i v w3 := by
  have hz2 := hG2.size
  have hz3 := hO.2.size
  have hl := pk_len F
  exact ⟨pk F, p', row_lower hO.1 (by omega), by omega, by omega, by omega, rd_later hR (hO.2.mono (by omega)), grown_trans (grown_trans hG hG2) (below_grown hO.2 _), by omega⟩

set_option maxRecDepth 100000 in
set_option maxHeartbeats 2000000 in
theorem drawFrameUnpack (w : World) (A0 : Option Addr) (len0 cap0 : Nat) (h : Bytes w w.heap.size A0 len0) (hl : len0 ≤ cap0) (hm : cap0 ≤ maxLen) :
    Calls Tryd.prog 14 #[.slice A0 len0 cap0] w (DrawnBytes w) := by
  obtain ⟨i0, hi, hz0, hz1, hz2⟩ := info_parts infoByte
  go_enter Tryd.func14, Tryd.ntmps14
  go_wp2_with fail
  refine (open_any _ _ _ _ h hl hm).mono ?_
  rintro e w1 ⟨len, cap, rfl, hR, hB1, hz⟩
  have HB1 := Lib.hid hB1
  have hb1 := hR.1.lt
  clear h hz hB1
  generalize hbb : w.heap.size = b at hR hb1 ⊢
  have HBB := Lib.hid hbb
  clear hbb
  go_wp2_with fail
  refine (frame72 _ _ _ _ _ _ hR (by omega)).mono ?_
  rintro e w2 ⟨F, p2, rfl, hs2, hp0, hp1, hR2, hG2⟩
  go_wp2_with fail
  refine (spack_any F w2 (by unfold maxLen; omega)).mono ?_
  rintro e w3 ⟨A3, n3, c3, rfl, hO3⟩
  have HB : Hid (FRel w1 b A0 len cap 0 (.slice A3 n3 c3) w3) := frel_next hb1 (Nat.le_refl _) (by omega) (by omega) hp0 hp1 (below_grown (Below.refl _ _) _) hR2 hG2 hO3
  clear hR hR2 hG2 hO3 hp0 hp1 hs2
  go_wp2
  go_loopw [4, 5] (fun v i wr => ∃ j : Nat, i = .int .i64 j ∧ j ≤ 5 ∧ FRel w1 b A0 len cap j v wr) (fun _ i _ => 5 - (intOf i).toNat)
  case atStart => exact ⟨0, by go_num, by omega, HB.out⟩
  case round =>
    obtain ⟨j, rfl, hj, hL⟩ := hrel
    clear HB
    obtain ⟨l, p', hOw, hl17, hp0, hp1, hRd, hgr, hzr⟩ := hL
    obtain ⟨A4, c4, rfl, hlc, hc4⟩ := frel_form hOw
    by_cases hmore : j < 5 ∧ l.length = 0
    · obtain ⟨hj5, hl0⟩ := hmore
      have hj5' : (j : Int) < 5 := by omega
      have hl0' : ((l.length : Int) == 0) = true := by rw [hl0]; rfl
      clear hl0
      go_wp2_with fail
      refine (frame72 _ _ _ _ _ _ hRd (by omega)).mono ?_
      rintro e w5 ⟨F5, p5, rfl, hs5, hq0, hq1, hR5, hG5⟩
      go_wp2_with fail
      refine (spack_any F5 w5 (by unfold maxLen; omega)).mono ?_
      rintro e w6 ⟨A6, n6, c6, rfl, hO6⟩
      have R : Hid (FRel w1 b A0 len cap (j + 1) (.slice A6 n6 c6) w6) := frel_next hb1 hzr (by omega) (by omega) hq0 hq1 hgr hR5 hG5 hO6
      clear hOw hRd hgr hzr hs5 hq0 hq1 hR5 hG5 hO6 hl0'
      go_wp2
      go_roundw
      case rel => exact ⟨j + 1, by go_num, by omega, R.out⟩
      case measure => simp [intOf]; omega
    · have hbe : Below w.heap.size w wr := HB1.out.trans (grown_below hgr (by rw [HBB.out]; exact Nat.le_refl _) HB1.out.size)
      have hown : Own 5 w wr (.slice A4 l.length c4) (l.map bv) := ⟨row_lower hOw HB1.out.size, hbe⟩
      have HD := Lib.hid (drawn_own hown (by omega))
      have hex : (decide ((j : Int) < 5) && ((l.length : Int) == 0)) = false := by
        by_cases h5 : j < 5
        · rw [show ((l.length : Int) == 0) = false from beq_eq_false_iff_ne.2 (by omega), Bool.and_false]
        · rw [decide_eq_false (by omega : ¬ (j : Int) < 5), Bool.false_and]
      by_cases hl0 : l.length = 0
      · have hl0' : ((l.length : Int) == 0) = true := by rw [hl0]; rfl
        have hj5 : ¬ (j : Int) < 5 := by omega
        clear hl0 hown hbe hOw hRd hgr hzr hex hmore
        go_wp2
        go_ret
        exact HD.out
      · have hl0' : ((l.length : Int) == 0) = false := beq_eq_false_iff_ne.2 (by omega)
        have hlb : (l.length : Int) ≤ 17 := by omega
        rcases (by omega : (j : Int) < 5 ∨ ¬ (j : Int) < 5) with h5 | h5
        · clear hown hbe hmore HD
          clear hex
          go_wp2_with fail
          refine (picked _ _ _ _ _ _ _ hRd (by omega) (by omega) (by omega)).mono ?_
          rintro e w5 ⟨x, rfl, x0, x1, hR5, hO5⟩
          have hOw5 := own_pick hOw hO5 hb1
          have hgr5 := grown_trans hgr (only_grown hO5)
          clear hOw hRd hgr hzr hO5
          by_cases hx : 0 < x
          · have HD := Lib.hid (drawn_own (w := w) (l := l) ⟨row_lower hOw5 HB1.out.size, HB1.out.trans (grown_below hgr5 (by rw [HBB.out]; exact Nat.le_refl _) HB1.out.size)⟩ (by omega))
            clear hOw5 hgr5 hR5
            go_wp2
            go_ret
            exact HD.out
          · obtain rfl : x = 0 := by omega
            clear hx
            go_wp2_with fail
            refine (picked _ _ _ _ _ _ _ hR5 (by omega) (by omega) (by omega)).mono ?_
            rintro e w6 ⟨y, rfl, y0, y1, hR6, hO6⟩
            obtain ⟨y, rfl⟩ := Int.eq_ofNat_of_zero_le y0
            go_wp2_with fail
            refine (picked _ _ _ _ _ _ _ hR6 (by omega) (by omega) (by omega)).mono ?_
            rintro e w7 ⟨k, rfl, k0, k1, hR7, hO7⟩
            have hOw7 := own_pick (own_pick hOw5 hO6 hb1) hO7 hb1
            have hgr7 := grown_trans (grown_trans hgr5 (only_grown hO6)) (only_grown hO7)
            have hBw := HB1.out.trans (grown_below hgr7 (by rw [HBB.out]; exact Nat.le_refl _) HB1.out.size)
            have hOn : Own 5 w w7 (.slice A4 l.length c4) (l.map bv) := ⟨row_lower hOw7 HB1.out.size, hBw⟩
            have hyl : y < l.length := by omega
            clear hOw5 hgr5 hR5 hR6 hO6 hO7
            by_cases ek0 : k = 0
            · subst ek0
              obtain ⟨_, hRow⟩ := own_rowN hOn
              have hT := hRow.take y
              obtain ⟨g, o, rfl, hg, hcell⟩ := hRow (by omega)
              have htl : (l.take y).length = y := by rw [List.length_take]; omega
              have HD : Hid (DrawnBytes w (.returned (.slice (some ⟨g, o, none⟩) y c4)) w7) := ⟨_, c4, l.take y, by rw [htl], hT, by omega, hc4, by omega, hBw⟩
              have hyc : (y : Int) ≤ (c4 : Int) := by omega
              clear hOw7 hgr7 hR7 hOn hT hcell hBw htl
              go_wp2
              go_ret
              exact HD.out
            have dk0 : (k == 0) = false := beq_eq_false_iff_ne.2 ek0
            by_cases ek1 : k = 1
            · subst ek1
              go_wp2_with fail
              refine (picked _ _ _ _ _ _ _ hR7 (by omega) (by omega) (by omega)).mono ?_
              rintro e w8 ⟨z, rfl, q0, q1, hR8, hO8⟩
              obtain ⟨z, rfl⟩ := Int.eq_ofNat_of_zero_le q0
              have hgr8 := grown_trans hgr7 (only_grown hO8)
              have hOn8 : Own 5 w w8 (.slice A4 l.length c4) (l.map bv) := ⟨row_lower (own_pick hOw7 hO8 hb1) HB1.out.size, HB1.out.trans (grown_below hgr8 (by rw [HBB.out]; exact Nat.le_refl _) HB1.out.size)⟩
              have hzz : (((UInt8.ofNat z).toNat : Nat) : Int) = (z : Int) := by simp; omega
              obtain ⟨g6, e6, hg6, y6, f6, hRow6, hBl6, hn6, hc6, hm6⟩ := own_set hOn8 hyl (UInt8.ofNat z)
              rw [hzz] at hRow6 hBl6
              subst e6
              have hsl : (l.set y (UInt8.ofNat z)).length = l.length := List.length_set
              have HF : Hid (DrawnBytes w (.returned (.slice (some ⟨g6, 0, none⟩) l.length c4)) (w8.setCell ⟨g6, y, none⟩ (.int .u8 (z : Int)))) :=
                ⟨_, c4, l.set y (UInt8.ofNat z), by rw [hsl], hRow6, by rw [hsl]; exact hc6, hm6, by rw [hsl]; omega, hBl6⟩
              have hyl' : (y : Int) < (l.length : Int) := by omega
              clear hOw7 hgr7 hR7 hOn hBw hgr8 hOn8 hRow6 hBl6 hR8 hO8 hzz hsl
              generalize vl l y = vv at y6
              go_wp2
              go_ret
              exact HF.out
            · have dk1 : (k == 1) = false := beq_eq_false_iff_ne.2 ek1
              have hlm : (l.map bv).length = l.length := List.length_map ..
              have hsz7 := hOn.2.size
              clear hOw7 hgr7 hR7 hBw
              go_wp2_with (at_builtin; refine wpList_append_own _ rfl (.tmp 53) (.tmp 54) 22 rfl w.heap.size 5 i0 (.int .u8 0) 1 1 Tryd.underlying22 hi hz0 hz1 hz2 rfl (by decide) _ _ _ rfl ((own_alloc hOn _).1) ⟨w7.heap.size, 0, none⟩ 1 1 [.int .u8 0] rfl rfl ?d1 ?d2 ?d3 ?d4 ?d5 ?_)
              case d1 => exact World.news_of_block (heap_alloc_new w7 _)
              case d2 => intro x hx; simp at hx; subst hx; rfl
              case d3 => unfold maxLen; omega
              case d4 => omega
              case d5 => simp; omega
              intro v8 w8 hown8 hgrow8 _
              have hO8 := own_app (own_alloc hOn _) hown8 hgrow8
              rw [show [Value.int .u8 0] = [(0 : UInt8)].map bv from rfl, ← List.map_append] at hO8
              have HD := Lib.hid (drawn_own hO8 (by rw [List.length_append, List.length_singleton]; omega))
              clear hown8 hgrow8 hO8 hOn
              go_wp2
              go_ret
              exact HD.out
        · clear hown hbe hmore HD
          clear hex
          go_wp2_with fail
          refine (picked _ _ _ _ _ _ _ hRd (by omega) (by omega) (by omega)).mono ?_
          rintro e w5 ⟨x, rfl, x0, x1, hR5, hO5⟩
          have hOw5 := own_pick hOw hO5 hb1
          have hgr5 := grown_trans hgr (only_grown hO5)
          clear hOw hRd hgr hzr hO5
          by_cases hx : 0 < x
          · have HD := Lib.hid (drawn_own (w := w) (l := l) ⟨row_lower hOw5 HB1.out.size, HB1.out.trans (grown_below hgr5 (by rw [HBB.out]; exact Nat.le_refl _) HB1.out.size)⟩ (by omega))
            clear hOw5 hgr5 hR5
            go_wp2
            go_ret
            exact HD.out
          · obtain rfl : x = 0 := by omega
            clear hx
            go_wp2_with fail
            refine (picked _ _ _ _ _ _ _ hR5 (by omega) (by omega) (by omega)).mono ?_
            rintro e w6 ⟨y, rfl, y0, y1, hR6, hO6⟩
            obtain ⟨y, rfl⟩ := Int.eq_ofNat_of_zero_le y0
            go_wp2_with fail
            refine (picked _ _ _ _ _ _ _ hR6 (by omega) (by omega) (by omega)).mono ?_
            rintro e w7 ⟨k, rfl, k0, k1, hR7, hO7⟩
            have hOw7 := own_pick (own_pick hOw5 hO6 hb1) hO7 hb1
            have hgr7 := grown_trans (grown_trans hgr5 (only_grown hO6)) (only_grown hO7)
            have hBw := HB1.out.trans (grown_below hgr7 (by rw [HBB.out]; exact Nat.le_refl _) HB1.out.size)
            have hOn : Own 5 w w7 (.slice A4 l.length c4) (l.map bv) := ⟨row_lower hOw7 HB1.out.size, hBw⟩
            have hyl : y < l.length := by omega
            clear hOw5 hgr5 hR5 hR6 hO6 hO7
            by_cases ek0 : k = 0
            · subst ek0
              obtain ⟨_, hRow⟩ := own_rowN hOn
              have hT := hRow.take y
              obtain ⟨g, o, rfl, hg, hcell⟩ := hRow (by omega)
              have htl : (l.take y).length = y := by rw [List.length_take]; omega
              have HD : Hid (DrawnBytes w (.returned (.slice (some ⟨g, o, none⟩) y c4)) w7) := ⟨_, c4, l.take y, by rw [htl], hT, by omega, hc4, by omega, hBw⟩
              have hyc : (y : Int) ≤ (c4 : Int) := by omega
              clear hOw7 hgr7 hR7 hOn hT hcell hBw htl
              go_wp2
              go_ret
              exact HD.out
            have dk0 : (k == 0) = false := beq_eq_false_iff_ne.2 ek0
            by_cases ek1 : k = 1
            · subst ek1
              go_wp2_with fail
              refine (picked _ _ _ _ _ _ _ hR7 (by omega) (by omega) (by omega)).mono ?_
              rintro e w8 ⟨z, rfl, q0, q1, hR8, hO8⟩
              obtain ⟨z, rfl⟩ := Int.eq_ofNat_of_zero_le q0
              have hgr8 := grown_trans hgr7 (only_grown hO8)
              have hOn8 : Own 5 w w8 (.slice A4 l.length c4) (l.map bv) := ⟨row_lower (own_pick hOw7 hO8 hb1) HB1.out.size, HB1.out.trans (grown_below hgr8 (by rw [HBB.out]; exact Nat.le_refl _) HB1.out.size)⟩
              have hzz : (((UInt8.ofNat z).toNat : Nat) : Int) = (z : Int) := by simp; omega
              obtain ⟨g6, e6, hg6, y6, f6, hRow6, hBl6, hn6, hc6, hm6⟩ := own_set hOn8 hyl (UInt8.ofNat z)
              rw [hzz] at hRow6 hBl6
              subst e6
              have hsl : (l.set y (UInt8.ofNat z)).length = l.length := List.length_set
              have HF : Hid (DrawnBytes w (.returned (.slice (some ⟨g6, 0, none⟩) l.length c4)) (w8.setCell ⟨g6, y, none⟩ (.int .u8 (z : Int)))) :=
                ⟨_, c4, l.set y (UInt8.ofNat z), by rw [hsl], hRow6, by rw [hsl]; exact hc6, hm6, by rw [hsl]; omega, hBl6⟩
              have hyl' : (y : Int) < (l.length : Int) := by omega
              clear hOw7 hgr7 hR7 hOn hBw hgr8 hOn8 hRow6 hBl6 hR8 hO8 hzz hsl
              generalize vl l y = vv at y6
              go_wp2
              go_ret
              exact HF.out
            · have dk1 : (k == 1) = false := beq_eq_false_iff_ne.2 ek1
              have hlm : (l.map bv).length = l.length := List.length_map ..
              have hsz7 := hOn.2.size
              clear hOw7 hgr7 hR7 hBw
              go_wp2_with (at_builtin; refine wpList_append_own _ rfl (.tmp 53) (.tmp 54) 22 rfl w.heap.size 5 i0 (.int .u8 0) 1 1 Tryd.underlying22 hi hz0 hz1 hz2 rfl (by decide) _ _ _ rfl ((own_alloc hOn _).1) ⟨w7.heap.size, 0, none⟩ 1 1 [.int .u8 0] rfl rfl ?d1 ?d2 ?d3 ?d4 ?d5 ?_)
              case d1 => exact World.news_of_block (heap_alloc_new w7 _)
              case d2 => intro x hx; simp at hx; subst hx; rfl
              case d3 => unfold maxLen; omega
              case d4 => omega
              case d5 => simp; omega
              intro v8 w8 hown8 hgrow8 _
              have hO8 := own_app (own_alloc hOn _) hown8 hgrow8
              rw [show [Value.int .u8 0] = [(0 : UInt8)].map bv from rfl, ← List.map_append] at hO8
              have HD := Lib.hid (drawn_own hO8 (by rw [List.length_append, List.length_singleton]; omega))
              clear hown8 hgrow8 hO8 hOn
              go_wp2
              go_ret
              exact HD.out
end Go.Proofs.YtgihbilpimempaaDoor.dr
