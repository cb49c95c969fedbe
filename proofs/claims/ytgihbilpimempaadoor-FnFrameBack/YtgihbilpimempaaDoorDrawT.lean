/-
  Contract of spec.l72Text: whatever the code, a text of at most 25 bytes; nothing old is turned but the reader.
-/
import Derived.Test.YtgihbilpimempaaDoorDraw2
namespace Go.Proofs.YtgihbilpimempaaDoor.dr
open Go.ChangeShapes Go.WideShapes Go.ChangeAt Go.RowKit
open Go.Proofs.YtgihbilpimempaaDoor.wd Go.Proofs.YtgihbilpimempaaDoor.pk Go.Proofs.YtgihbilpimempaaDoor.cp Go.Proofs.YtgihbilpimempaaDoor.ow

theorem five {i : Nat} (h : i < 5) : i = 0 ∨ i = 1 ∨ i = 2 ∨ i = 3 ∨ i = 4 := by omega
theorem eight {i : Nat} (h : i < 8) : i = 0 ∨ i = 1 ∨ i = 2 ∨ i = 3 ∨ i = 4 ∨ i = 5 ∨ i = 6 ∨ i = 7 := by omega

theorem text_few (w : World) (b : Nat) (A : Option Addr) (len cap : Nat) (p : Int) (h : Rd w b A len cap p) (hp : p ≤ 1000000) (cs : Array Value) (n : Nat) (hn : 1 ≤ n) (hn' : n ≤ 100)
    (hc : ∀ i, i < n → ∃ s : ByteArray, cs[i]? = some (.string s) ∧ s.size ≤ 25) :
    Calls Tryd.prog 38 #[.pointer (some ⟨b, 0, none⟩), .slice (some ⟨w.heap.size, 0, none⟩) n n] (w.alloc (.cells cs 9)) (OfPost (w.alloc (.cells cs 9)) b A len cap p) := by
  have hb := h.1.lt
  exact of_any _ b A len cap p (rd_later h ((Below.refl _ _).alloc (by omega) _)) hp w.heap.size n cs (Blk.new w _ _) (by omega) hn hn' hc

theorem of_text {w W w' : World} {b : Nat} {A : Option Addr} {len cap : Nat} {p q : Int} {e : Ending} {cs : Array Value} (hw : w.grownBy W (some b)) (h0 : p ≤ q) (h1 : q ≤ p + 20)
    (h : OfPost (W.alloc (.cells cs 9)) b A len cap q e w') : TextPost w b A len cap p e w' := by
  obtain ⟨s, rfl, hs, hR, hO⟩ := h
  refine ⟨s, q + 1, rfl, hs, by omega, by omega, hR, ?_⟩
  exact grown_trans (grown_trans hw (below_grown ((Below.refl _ _).alloc (Nat.le_refl _) _) _)) (only_grown hO)

set_option maxRecDepth 100000 in
set_option maxHeartbeats 1600000 in
theorem text72 (w : World) (b : Nat) (A : Option Addr) (len cap : Nat) (p : Int) (h : Rd w b A len cap p) (hp : p ≤ 900000) :
    Calls Tryd.prog 55 #[.pointer (some ⟨b, 0, none⟩)] w (TextPost w b A len cap p) := by
  obtain ⟨i0, hi, hz0, hz1, hz2⟩ := info_parts infoByte
  have hb := h.1.lt
  go_enter Tryd.func55, Tryd.ntmps55
  go_wp2_with fail
  refine (picked _ _ _ _ _ _ _ h (by omega) (by omega) (by omega)).mono ?_
  rintro e w1 ⟨v, rfl, v0, v1, hR, hO⟩
  have hg1 := only_grown hO
  have hb1 := hR.1.lt
  clear hO h
  by_cases e0 : v = 0
  · subst e0
    go_wp2_with fail
    refine (many_any ⟨#[120]⟩ rfl 24 (by omega) _).mono ?_
    rintro e w2 ⟨s1, rfl, hs1, rfl⟩
    have HS1 := Lib.hid hs1
    clear hs1
    go_wp2_with fail
    refine (many_any ⟨#[121]⟩ rfl 25 (by omega) _).mono ?_
    rintro e w2 ⟨s2, rfl, hs2, rfl⟩
    have HS2 := Lib.hid hs2
    clear hs2
    go_wp2_with fail
    refine (text_few _ _ _ _ _ _ hR (by omega) _ 5 (by omega) (by omega) ?_).mono ?_
    · intro i hi
      rcases five hi with rfl | rfl | rfl | rfl | rfl
      · exact ⟨_, rfl, by decide⟩
      · exact ⟨_, rfl, by rw [HS1.out]; decide⟩
      · exact ⟨_, rfl, by rw [HS2.out]; decide⟩
      · exact ⟨_, rfl, by decide⟩
      · exact ⟨_, rfl, by decide⟩
    intro e w3 hP
    obtain ⟨s, p', rfl, hT⟩ := of_text (p := p) hg1 (by omega) (by omega) hP
    have HT : Hid (TextPost w b A len cap p (.returned (.string s)) w3) := ⟨s, p', rfl, hT⟩
    clear hT hP
    go_wp2
    go_ret
    exact HT.out
  by_cases e1 : v = 1
  · subst e1
    have hO1 := World.ownsRow_lit (base := w1.heap.size) (e := 5) (size := 1) w1 #[] 0 (Nat.le_refl _) (by unfold maxLen; omega) rfl
    go_wp2_with fail
    refine (picked _ _ _ _ _ _ _ (rd_later hR ((Below.refl _ _).alloc (by omega) _)) (by omega) (by omega) (by omega)).mono ?_
    rintro e w2 ⟨n, rfl, n0, n1, hR2, hO2⟩
    obtain ⟨n, rfl⟩ := Int.eq_ofNat_of_zero_le n0
    have HB : Hid (BRel w w1 b A len cap p (.slice (some ⟨w1.heap.size, 0, none⟩) 0 0) (1 + n) w2) :=
      ⟨[], p + 2, own_pick hO1 hO2 hb1, by simp; omega, by simp, by omega, by omega, by rw [show p + 2 = p + 1 + 1 by omega]; exact hR2, grown_trans (grown_trans hg1 (below_grown ((Below.refl _ _).alloc (Nat.le_refl _) _) _)) (only_grown hO2), by rw [hO2.2.2]; simp⟩
    have hsz := hg1.size
    clear hR2 hO2 hO1 hR hg1
    go_wp2
    go_loopw [3, 4] (fun v i wr => ∃ r : Nat, i = .int .i64 r ∧ r ≤ 20 ∧ BRel w w1 b A len cap p v r wr) (fun _ i _ => (intOf i).toNat)
    case atStart => exact ⟨1 + n, by go_num, by omega, HB.out⟩
    case round =>
      obtain ⟨r, rfl, hr, hL⟩ := hrel
      clear HB
      obtain ⟨l, p', hOw, hlr, hlr1, hp0, hp1, hRd, hgr, hzr⟩ := hL
      have hbr := hRd.1.lt
      by_cases hr0 : 0 < r
      · have hvl : ∀ k, u3.ownBlock = some k → w1.heap.size ≤ k := fun k hk => (hOw.lt k hk).1
        go_wp2_with fail
        refine (picked _ _ _ _ _ _ _ hRd (by omega) (by omega) (by omega)).mono ?_
        rintro e w3 ⟨x, rfl, x0, x1, hR3, hO3⟩
        have hOw3 := own_pick hOw hO3 hb1
        have hgr3 := grown_trans hgr (only_grown hO3)
        have hz3 : w1.heap.size ≤ w3.heap.size := by rw [hO3.2.2]; exact hzr
        clear hOw hgr hRd hO3 hzr
        obtain ⟨y, rfl⟩ := Int.eq_ofNat_of_zero_le x0
        have hE : Value.int .u8 (y : Int) = bv (UInt8.ofNat y) := by unfold bv; congr 1; simp; omega
        have HE := Lib.hid hE
        have hll : (l.map bv).length ≤ 20 := by simp; omega
        have HL := Lib.hid (show l.map bv ++ [bv (UInt8.ofNat y)] = (l ++ [UInt8.ofNat y]).map bv by simp)
        have HN := Lib.hid (show (l ++ [UInt8.ofNat y]).length = l.length + 1 by simp)
        clear hE
        generalize hxs : l.map bv = xs at hOw3 hll HL
        clear hxs
        go_wp2_with (at_builtin; refine wpList_append_own _ rfl _ _ 22 rfl w1.heap.size 5 i0 (.int .u8 0) 1 1 Tryd.underlying22 hi hz0 hz1 hz2 rfl (by decide) _ _ _ rfl (hOw3.alloc _) ⟨w3.heap.size, 0, none⟩ 1 1 [.int .u8 (y : Int)] rfl rfl ?c1 ?c2 ?c3 ?c4 ?c5 ?_)
        case c1 => exact cell_one_new _ _ _
        case c2 => intro x hx; simp at hx; subst hx; rfl
        case c3 => unfold maxLen; omega
        case c4 => omega
        case c5 => simp; omega
        intro v1 w4 hown1 hgrow1 _
        have R : Hid (BRel w w1 b A len cap p v1 (r - 1) w4) := by
          rw [HE.out, HL.out] at hown1
          have hq : xs.length + 1 = ((l ++ [UInt8.ofNat y]).map bv).length := by have := hown1.1; omega
          rw [hq] at hown1
          refine ⟨l ++ [UInt8.ofNat y], p' + 1, hown1, by rw [HN.out]; omega, by rw [HN.out]; omega, by omega, by omega, rd_append hR3 hgrow1 hvl hb1, grown_append hgr3 hgrow1 (fun k hk => Nat.le_trans hsz (hvl k hk)), ?_⟩
          have := hgrow1.size
          simp at this
          omega
        clear hown1 hgrow1 hOw3 hR3 hgr3
        go_wp2
        go_roundw
        case rel => exact ⟨r - 1, by go_num, by omega, R.out⟩
        case measure => simp [intOf]; omega
      · obtain rfl : r = 0 := by omega
        have HT := Lib.hid hgr
        have HR := Lib.hid hRd
        obtain ⟨g, c, hu, hcv⟩ := own_text' hOw (by omega)
        subst hu
        clear hOw hgr hRd
        go_wp2
        go_ret
        exact ⟨_, p', rfl, by show l.toArray.size ≤ 25; simp; omega, by omega, by omega, HR.out, HT.out⟩
  have d0 : (v == 0) = false := by rw [beq_eq_false_iff_ne]; exact e0
  have d1 : (v == 1) = false := by rw [beq_eq_false_iff_ne]; exact e1
  go_wp2_with fail
  refine (text_few _ _ _ _ _ _ hR (by omega) _ 8 (by omega) (by omega) ?_).mono ?_
  · intro i hi
    rcases eight hi with rfl | rfl | rfl | rfl | rfl | rfl | rfl | rfl <;> exact ⟨_, rfl, by decide⟩
  intro e w3 hP
  obtain ⟨s, p', rfl, hT⟩ := of_text (p := p) hg1 (by omega) (by omega) hP
  have HT : Hid (TextPost w b A len cap p (.returned (.string s)) w3) := ⟨s, p', rfl, hT⟩
  clear hT hP
  go_wp2
  go_ret
  exact HT.out
end Go.Proofs.YtgihbilpimempaaDoor.dr
