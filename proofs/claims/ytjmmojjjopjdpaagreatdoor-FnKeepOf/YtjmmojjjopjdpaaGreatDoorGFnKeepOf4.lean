/-
  Merged texts: DrawT, SOk, Five, DrawNote, SWrite.
-/
import Derived.Test.YtjmmojjjopjdpaaGreatDoorGFnKeepOf3
import Derived.Test.YtjmmojjjopjdpaaGreatDoorGFnKeepOf1
import Derived.Below
import Derived.Deep.RegionHeld3
import Derived.Deep.RegionWith
/-
  Contract of spec.l72Text: whatever the code, a text of at most 25 bytes; nothing old is turned but the reader.
-/
namespace Go.Proofs.YtjmmojjjopjdpaaGreatDoor.dr
open Go.ChangeShapes Go.WideShapes Go.ChangeAt Go.RowKit
open Go.Proofs.YtjmmojjjopjdpaaGreatDoor.wd Go.Proofs.YtjmmojjjopjdpaaGreatDoor.pk Go.Proofs.YtjmmojjjopjdpaaGreatDoor.cp Go.Proofs.YtjmmojjjopjdpaaGreatDoor.ow

theorem five {i : Nat} (h : i < 5) : i = 0 ∨ i = 1 ∨ i = 2 ∨ i = 3 ∨ i = 4 := by omega
theorem eight {i : Nat} (h : i < 8) : i = 0 ∨ i = 1 ∨ i = 2 ∨ i = 3 ∨ i = 4 ∨ i = 5 ∨ i = 6 ∨ i = 7 := by omega

theorem text_few (w : World) (b : Nat) (A : Option Addr) (len cap : Nat) (p : Int) (h : Rd w b A len cap p) (hp : p ≤ 1000000) (cs : Array Value) (n : Nat) (hn : 1 ≤ n) (hn' : n ≤ 100)
    (hc : ∀ i, i < n → ∃ s : ByteArray, cs[i]? = some (.string s) ∧ s.size ≤ 25) :
    Calls Tryz.prog 162 #[.pointer (some ⟨b, 0, none⟩), .slice (some ⟨w.heap.size, 0, none⟩) n n] (w.alloc (.cells cs 9)) (OfPost (w.alloc (.cells cs 9)) b A len cap p) := by
  have hb := h.1.lt
  exact of_any _ b A len cap p (rd_later h ((Below.refl _ _).alloc (by omega) _)) hp w.heap.size n cs (Blk.new w _ _) (by omega) hn hn' hc

theorem of_text {w W w' : World} {b : Nat} {A : Option Addr} {len cap : Nat} {p q : Int} {e : Ending} {cs : Array Value} (hw : w.grownBy W (some b)) (h0 : p ≤ q) (h1 : q ≤ p + 20)
    (h : OfPost (W.alloc (.cells cs 9)) b A len cap q e w') : TextPost w b A len cap p e w' := by
  obtain ⟨s, rfl, hs, hR, hO⟩ := h
  refine ⟨s, q + 1, rfl, hs, by omega, by omega, hR, ?_⟩
  exact grown_trans (grown_trans hw (below_grown ((Below.refl _ _).alloc (Nat.le_refl _) _) _)) (only_grown hO)

set_option maxRecDepth 100000 in
set_option maxHeartbeats 1600000 in
theorem text72 (w : World) (b : Nat) (A : Option Addr) (len cap : Nat) (p : Int) (h : Rd w b A len cap p) (hp : p ≤ 900000) :
    Calls Tryz.prog 163 #[.pointer (some ⟨b, 0, none⟩)] w (TextPost w b A len cap p) := by
  obtain ⟨i0, hi, hz0, hz1, hz2⟩ := info_parts infoByte
  have hb := h.1.lt
  go_enter Tryz.func163, Tryz.ntmps163
  go_wp2_with fail
  refine (picked _ _ _ _ _ _ _ h (by omega) (by omega) (by omega)).mono ?_
  rintro e w1 ⟨v, rfl, v0, v1, hR, hO⟩
  have hg1 := only_grown hO
  have hb1 := hR.1.lt
  clear hO h
  by_cases e0 : v = 0
  · subst e0
    go_wp2_with fail
    refine (many_any ⟨#[120]⟩ rfl 24 (by omega) _).mono ?_
    rintro e w2 ⟨s1, rfl, hs1, rfl⟩
    have HS1 := Lib.hid hs1
    clear hs1
    go_wp2_with fail
    refine (many_any ⟨#[121]⟩ rfl 25 (by omega) _).mono ?_
    rintro e w2 ⟨s2, rfl, hs2, rfl⟩
    have HS2 := Lib.hid hs2
    clear hs2
    go_wp2_with fail
    refine (text_few _ _ _ _ _ _ hR (by omega) _ 5 (by omega) (by omega) ?_).mono ?_
    · intro i hi
      rcases five hi with rfl | rfl | rfl | rfl | rfl
      · exact ⟨_, rfl, by decide⟩
      · exact ⟨_, rfl, by rw [HS1.out]; decide⟩
      · exact ⟨_, rfl, by rw [HS2.out]; decide⟩
      · exact ⟨_, rfl, by decide⟩
      · exact ⟨_, rfl, by decide⟩
    intro e w3 hP
    obtain ⟨s, p', rfl, hT⟩ := of_text (p := p) hg1 (by omega) (by omega) hP
    have HT : Hid (TextPost w b A len cap p (.returned (.string s)) w3) := ⟨s, p', rfl, hT⟩
    clear hT hP
    go_wp2
    go_ret
    exact HT.out
  by_cases e1 : v = 1
  · subst e1
    have hO1 := World.ownsRow_lit (base := w1.heap.size) (e := 5) (size := 1) w1 #[] 0 (Nat.le_refl _) (by unfold maxLen; omega) rfl
    go_wp2_with fail
    refine (picked _ _ _ _ _ _ _ (rd_later hR ((Below.refl _ _).alloc (by omega) _)) (by omega) (by omega) (by omega)).mono ?_
    rintro e w2 ⟨n, rfl, n0, n1, hR2, hO2⟩
    obtain ⟨n, rfl⟩ := Int.eq_ofNat_of_zero_le n0
    have HB : Hid (BRel w w1 b A len cap p (.slice (some ⟨w1.heap.size, 0, none⟩) 0 0) (1 + n) w2) :=
      ⟨[], p + 2, own_pick hO1 hO2 hb1, by simp; omega, by simp, by omega, by omega, by rw [show p + 2 = p + 1 + 1 by omega]; exact hR2, grown_trans (grown_trans hg1 (below_grown ((Below.refl _ _).alloc (Nat.le_refl _) _) _)) (only_grown hO2), by rw [hO2.2.2]; simp⟩
    have hsz := hg1.size
    clear hR2 hO2 hO1 hR hg1
    go_wp2
    go_loopw [3, 4] (fun v i wr => ∃ r : Nat, i = .int .i64 r ∧ r ≤ 20 ∧ BRel w w1 b A len cap p v r wr) (fun _ i _ => (intOf i).toNat)
    case atStart => exact ⟨1 + n, by go_num, by omega, HB.out⟩
    case round =>
      obtain ⟨r, rfl, hr, hL⟩ := hrel
      clear HB
      obtain ⟨l, p', hOw, hlr, hlr1, hp0, hp1, hRd, hgr, hzr⟩ := hL
      have hbr := hRd.1.lt
      by_cases hr0 : 0 < r
      · have hvl : ∀ k, u3.ownBlock = some k → w1.heap.size ≤ k := fun k hk => (hOw.lt k hk).1
        go_wp2_with fail
        refine (picked _ _ _ _ _ _ _ hRd (by omega) (by omega) (by omega)).mono ?_
        rintro e w3 ⟨x, rfl, x0, x1, hR3, hO3⟩
        have hOw3 := own_pick hOw hO3 hb1
        have hgr3 := grown_trans hgr (only_grown hO3)
        have hz3 : w1.heap.size ≤ w3.heap.size := by rw [hO3.2.2]; exact hzr
        clear hOw hgr hRd hO3 hzr
        obtain ⟨y, rfl⟩ := Int.eq_ofNat_of_zero_le x0
        have hE : Value.int .u8 (y : Int) = bv (UInt8.ofNat y) := by unfold bv; congr 1; simp; omega
        have HE := Lib.hid hE
        have hll : (l.map bv).length ≤ 20 := by simp; omega
        have HL := Lib.hid (show l.map bv ++ [bv (UInt8.ofNat y)] = (l ++ [UInt8.ofNat y]).map bv by simp)
        have HN := Lib.hid (show (l ++ [UInt8.ofNat y]).length = l.length + 1 by simp)
        clear hE
        generalize hxs : l.map bv = xs at hOw3 hll HL
        clear hxs
        go_wp2_with (at_builtin; refine wpList_append_own _ rfl _ _ 22 rfl w1.heap.size 5 i0 (.int .u8 0) 1 1 Tryz.underlying22 hi hz0 hz1 hz2 rfl (by decide) _ _ _ rfl (hOw3.alloc _) ⟨w3.heap.size, 0, none⟩ 1 1 [.int .u8 (y : Int)] rfl rfl ?c1 ?c2 ?c3 ?c4 ?c5 ?_)
        case c1 => exact cell_one_new _ _ _
        case c2 => intro x hx; simp at hx; subst hx; rfl
        case c3 => unfold maxLen; omega
        case c4 => omega
        case c5 => simp; omega
        intro v1 w4 hown1 hgrow1 _
        have R : Hid (BRel w w1 b A len cap p v1 (r - 1) w4) := by
          rw [HE.out, HL.out] at hown1
          have hq : xs.length + 1 = ((l ++ [UInt8.ofNat y]).map bv).length := by have := hown1.1; omega
          rw [hq] at hown1
          refine ⟨l ++ [UInt8.ofNat y], p' + 1, hown1, by rw [HN.out]; omega, by rw [HN.out]; omega, by omega, by omega, rd_append hR3 hgrow1 hvl hb1, grown_append hgr3 hgrow1 (fun k hk => Nat.le_trans hsz (hvl k hk)), ?_⟩
          have := hgrow1.size
          simp at this
          omega
        clear hown1 hgrow1 hOw3 hR3 hgr3
        go_wp2
        go_roundw
        case rel => exact ⟨r - 1, by go_num, by omega, R.out⟩
        case measure => simp [intOf]; omega
      · obtain rfl : r = 0 := by omega
        have HT := Lib.hid hgr
        have HR := Lib.hid hRd
        obtain ⟨g, c, hu, hcv⟩ := own_text' hOw (by omega)
        subst hu
        clear hOw hgr hRd
        go_wp2
        go_ret
        exact ⟨_, p', rfl, by show l.toArray.size ≤ 25; simp; omega, by omega, by omega, HR.out, HT.out⟩
  have d0 : (v == 0) = false := by rw [beq_eq_false_iff_ne]; exact e0
  have d1 : (v == 1) = false := by rw [beq_eq_false_iff_ne]; exact e1
  go_wp2_with fail
  refine (text_few _ _ _ _ _ _ hR (by omega) _ 8 (by omega) (by omega) ?_).mono ?_
  · intro i hi
    rcases eight hi with rfl | rfl | rfl | rfl | rfl | rfl | rfl | rfl <;> exact ⟨_, rfl, by decide⟩
  intro e w3 hP
  obtain ⟨s, p', rfl, hT⟩ := of_text (p := p) hg1 (by omega) (by omega) hP
  have HT : Hid (TextPost w b A len cap p (.returned (.string s)) w3) := ⟨s, p', rfl, hT⟩
  clear hT hP
  go_wp2
  go_ret
  exact HT.out
end Go.Proofs.YtjmmojjjopjdpaaGreatDoor.dr

/-
  Contract of spec.NoteOk.
-/
namespace Go.Proofs.YtjmmojjjopjdpaaGreatDoor.ok
open Go.ChangeShapes Go.WideShapes Go.ChangeAt Go.RowKit
open Go.Proofs.YtjmmojjjopjdpaaGreatDoor.nb

def BoolPost (w : World) (b : Bool) (e : Ending) (w' : World) : Prop := e = .returned (.bool b) ∧ Below w.heap.size w w'

theorem sok_f (f n t u : Int) (s : ByteArray) (w : World) (hs : s.size ≤ maxLen)
    (h : inB f 0 3 = false ∨ inB t 0 3 = false ∨ inB n 1 99 = false ∨ inB u 1 999 = false ∨ okS s = false) :
    Calls Tryz.prog 89 #[note f n t u s] w (BoolPost w false) := by
  unfold note
  unfold maxLen at hs
  cases k1 : inB f 0 3 with
  | false =>
    clear h
    go_enter Tryz.func89, Tryz.ntmps89
    go_wp2_with (first | (go_at_call 49; refine (keeper_any _ _).mono ?_; rintro e w' ⟨rfl, rfl⟩) | (go_at_call 88; refine (in_any _ _ _ _).mono ?_; rintro e w' ⟨rfl, rfl⟩))
    go_ret
    exact ⟨rfl, (Below.refl _ _).alloc (Nat.le_refl _) _⟩
  | true =>
  cases k2 : inB t 0 3 with
  | false =>
    clear h
    go_enter Tryz.func89, Tryz.ntmps89
    go_wp2_with (first | (go_at_call 49; refine (keeper_any _ _).mono ?_; rintro e w' ⟨rfl, rfl⟩) | (go_at_call 88; refine (in_any _ _ _ _).mono ?_; rintro e w' ⟨rfl, rfl⟩))
    go_ret
    exact ⟨rfl, (Below.refl _ _).alloc (Nat.le_refl _) _⟩
  | true =>
  cases k3 : inB n 1 99 with
  | false =>
    clear h
    go_enter Tryz.func89, Tryz.ntmps89
    go_wp2_with (first | (go_at_call 49; refine (keeper_any _ _).mono ?_; rintro e w' ⟨rfl, rfl⟩) | (go_at_call 88; refine (in_any _ _ _ _).mono ?_; rintro e w' ⟨rfl, rfl⟩))
    go_ret
    exact ⟨rfl, (Below.refl _ _).alloc (Nat.le_refl _) _⟩
  | true =>
  cases k4 : inB u 1 999 with
  | false =>
    clear h
    go_enter Tryz.func89, Tryz.ntmps89
    go_wp2_with (first | (go_at_call 49; refine (keeper_any _ _).mono ?_; rintro e w' ⟨rfl, rfl⟩) | (go_at_call 88; refine (in_any _ _ _ _).mono ?_; rintro e w' ⟨rfl, rfl⟩))
    go_ret
    exact ⟨rfl, (Below.refl _ _).alloc (Nat.le_refl _) _⟩
  | true =>
  by_cases k5 : s.size < 1
  · have k5' : (s.size : Int) < 1 := by omega
    clear h
    go_enter Tryz.func89, Tryz.ntmps89
    go_wp2_with (first | (go_at_call 49; refine (keeper_any _ _).mono ?_; rintro e w' ⟨rfl, rfl⟩) | (go_at_call 88; refine (in_any _ _ _ _).mono ?_; rintro e w' ⟨rfl, rfl⟩))
    go_ret
    exact ⟨rfl, (Below.refl _ _).alloc (Nat.le_refl _) _⟩
  by_cases k6 : 24 < s.size
  · have k5' : ¬ (s.size : Int) < 1 := by omega
    have k6' : 24 < (s.size : Int) := by omega
    clear h
    go_enter Tryz.func89, Tryz.ntmps89
    go_wp2_with (first | (go_at_call 49; refine (keeper_any _ _).mono ?_; rintro e w' ⟨rfl, rfl⟩) | (go_at_call 88; refine (in_any _ _ _ _).mono ?_; rintro e w' ⟨rfl, rfl⟩))
    go_ret
    exact ⟨rfl, (Below.refl _ _).alloc (Nat.le_refl _) _⟩
  · exfalso
    rw [k1, k2, k3, k4, okS_t (by omega) (by omega)] at h
    simp at h

theorem sok_t (f n t u : Int) (s : ByteArray) (w : World)
    (k1 : inB f 0 3 = true) (k2 : inB t 0 3 = true) (k3 : inB n 1 99 = true) (k4 : inB u 1 999 = true) (k5 : 1 ≤ s.size) (k6 : s.size ≤ 24) :
    Calls Tryz.prog 89 #[note f n t u s] w (BoolPost w (allPr s)) := by
  unfold note
  have k7 : ¬ (s.size : Int) < 1 := by omega
  have k8 : ¬ 24 < (s.size : Int) := by omega
  go_enter Tryz.func89, Tryz.ntmps89
  go_wp2_with (first | (go_at_call 49; refine (keeper_any _ _).mono ?_; rintro e w' ⟨rfl, rfl⟩) | (go_at_call 88; refine (in_any _ _ _ _).mono ?_; rintro e w' ⟨rfl, rfl⟩))
  go_loop [3] (fun i => ∃ k : Nat, k ≤ s.size ∧ i = .int .i64 k ∧ Hid ((s.data.toList.take k).all pr = true)) (fun i => s.size - (intOf i).toNat)
  case atStart => exact ⟨0, by omega, rfl, rfl⟩
  case round =>
    obtain ⟨k, hk, rfl, HA⟩ := hrel
    by_cases hlt : k < s.size
    · by_cases p0 : 32 ≤ (s[k].toNat : Int)
      · by_cases p1 : (s[k].toNat : Int) ≤ 126
        · have R := Lib.hid (all_more hlt HA.out (pr_t p0 p1))
          go_wp2
          go_round
          case rel => exact ⟨k + 1, by omega, by go_num, R⟩
          case measure => simp [intOf]; omega
        · have R := Lib.hid (all_not hlt (pr_f (.inr (by omega))))
          go_wp2
          go_ret
          exact ⟨ret_bool R.out.symm, (Below.refl _ _).alloc (Nat.le_refl _) _⟩
      · have R := Lib.hid (all_not hlt (pr_f (.inl (by omega))))
        go_wp2
        go_ret
        exact ⟨ret_bool R.out.symm, (Below.refl _ _).alloc (Nat.le_refl _) _⟩
    · have R := Lib.hid (all_whole (by omega) HA.out)
      go_wp2
      go_ret
      exact ⟨ret_bool R.out.symm, (Below.refl _ _).alloc (Nat.le_refl _) _⟩

theorem sok_any (f n t u : Int) (s : ByteArray) (w : World) (hs : s.size ≤ maxLen) :
    Calls Tryz.prog 89 #[note f n t u s] w (BoolPost w (okN f n t u s)) := by
  by_cases h : inB f 0 3 = false ∨ inB t 0 3 = false ∨ inB n 1 99 = false ∨ inB u 1 999 = false ∨ okS s = false
  · rw [okN_f h]; exact sok_f f n t u s w hs h
  · simp only [not_or, Bool.not_eq_false] at h
    obtain ⟨h1, h2, h3, h4, h5⟩ := h
    rw [okN_t h1 h2 h3 h4 h5]
    have := of_decide_eq_true h5
    exact sok_t f n t u s w h1 h2 h3 h4 this.1 this.2
end Go.Proofs.YtjmmojjjopjdpaaGreatDoor.ok

/-
  Words: a block of five cells that is known whole.
-/
namespace Go.Proofs.YtjmmojjjopjdpaaGreatDoor.ok
open Go.RowKit
open Go.Proofs.YtjmmojjjopjdpaaGreatDoor.wd

theorem five {w : World} {g : Nat} {T : TypeId} {a b c d e : Value} (h : Blk w g T #[a, b, c, d, e]) :
    w.cell? ⟨g, 0, none⟩ = some a ∧ w.cell? ⟨g, 1, none⟩ = some b ∧ w.cell? ⟨g, 2, none⟩ = some c ∧ w.cell? ⟨g, 3, none⟩ = some d ∧ w.cell? ⟨g, 4, none⟩ = some e ∧ g < w.heap.size :=
  ⟨h.cell 0, h.cell 1, h.cell 2, h.cell 3, h.cell 4, h.lt⟩
end Go.Proofs.YtjmmojjjopjdpaaGreatDoor.ok

/-
  Contract of spec.l72Note: whatever the code, a message with a text of at most 25 bytes; nothing old is turned but the reader.
-/
namespace Go.Proofs.YtjmmojjjopjdpaaGreatDoor.dr
open Go.ChangeShapes Go.WideShapes Go.ChangeAt Go.RowKit
open Go.Proofs.YtjmmojjjopjdpaaGreatDoor.wd Go.Proofs.YtjmmojjjopjdpaaGreatDoor.pk Go.Proofs.YtjmmojjjopjdpaaGreatDoor.cp Go.Proofs.YtjmmojjjopjdpaaGreatDoor.ow Go.Proofs.YtjmmojjjopjdpaaGreatDoor.ok

theorem rd_set {W : World} {b : Nat} {A : Option Addr} {len cap : Nat} {q : Int} (h : Rd W b A len cap q) {a : Addr} (ha : b < a.block) (v : Value) : Rd (W.setCell a v) b A len cap q :=
  rd_later h ((Below.refl _ _).setCell (p := a) (by omega) v)
theorem grown_set {w W : World} {b : Nat} (h : w.grownBy W (some b)) {a : Addr} (ha : w.heap.size ≤ a.block) (v : Value) : w.grownBy (W.setCell a v) (some b) := by
  have hb : Below w.heap.size W (W.setCell a v) := (Below.refl _ _).setCell (p := a) ha v
  exact ⟨hb.os.trans h.os, hb.tape.trans h.tape, hb.output.trans h.output, Nat.le_trans h.size hb.size, fun k hk hn => (hb.block k hk).trans (h.block k hk hn)⟩
theorem blk_only {W W' : World} {b g : Nat} {T : TypeId} {cs : Array Value} (h : Blk W g T cs) (hO : Only b W W') (hg : g ≠ b) : Blk W' g T cs := (hO.2.1 g hg).trans h
theorem blk_grown {W W' : World} {b g : Nat} {T : TypeId} {cs : Array Value} (h : Blk W g T cs) (hG : W.grownBy W' (some b)) (hg : g ≠ b) : Blk W' g T cs :=
  (hG.block g h.lt (fun e => hg (by injection e))).trans h

def NotePost (w : World) (b : Nat) (A : Option Addr) (len cap : Nat) (p : Int) (e : Ending) (w' : World) : Prop :=
  ∃ (f n t u : Int) (s : ByteArray) (p' : Int), e = .returned (note f n t u s) ∧ s.size ≤ 25 ∧ p ≤ p' ∧ p' ≤ p + 50 ∧ Rd w' b A len cap p' ∧ w.grownBy w' (some b)

set_option maxRecDepth 100000 in
set_option maxHeartbeats 8000000 in
theorem note72 (w : World) (b : Nat) (A : Option Addr) (len cap : Nat) (p : Int) (h : Rd w b A len cap p) (hp : p ≤ 800000) :
    Calls Tryz.prog 104 #[.pointer (some ⟨b, 0, none⟩)] w (NotePost w b A len cap p) := by
  have hb := h.1.lt
  have hZ0 := Blk.new w 131 #[.int .i64 0, .int .i64 0, .int .i64 0, .int .i64 0, .string ⟨#[]⟩]
  have hR0 := rd_later h ((Below.refl (b + 1) w).alloc (by omega) (.cells #[.int .i64 0, .int .i64 0, .int .i64 0, .int .i64 0, .string ⟨#[]⟩] 131))
  have hG0 := below_grown ((Below.refl _ w).alloc (Nat.le_refl _) (.cells #[.int .i64 0, .int .i64 0, .int .i64 0, .int .i64 0, .string ⟨#[]⟩] 131)) (some b)
  have hZb : w.heap.size ≠ b := by omega
  clear h
  go_enter Tryz.func104, Tryz.ntmps104
  go_wp2_with fail
  refine (picked _ _ _ _ _ _ _ hR0 (by omega) (by omega) (by omega)).mono ?_
  rintro e w1 ⟨f, rfl, f0, f1, hR1, hO1⟩
  have hZ1 := blk_only hZ0 hO1 hZb
  have hG1 := grown_trans hG0 (only_grown hO1)
  clear hZ0 hR0 hG0 hO1
  go_wp2_with fail
  refine (picked _ _ _ _ _ _ _ hR1 (by omega) (by omega) (by omega)).mono ?_
  rintro e w2 ⟨n, rfl, n0, n1, hR2, hO2⟩
  have hZ2 := blk_only hZ1 hO2 hZb
  have hG2 := grown_trans hG1 (only_grown hO2)
  clear hZ1 hR1 hG1 hO2
  go_wp2_with fail
  refine (picked _ _ _ _ _ _ _ hR2 (by omega) (by omega) (by omega)).mono ?_
  rintro e w3 ⟨t, rfl, t0, t1, hR3, hO3⟩
  have hZ3 := blk_only hZ2 hO3 hZb
  have hG3 := grown_trans hG2 (only_grown hO3)
  clear hZ2 hR2 hG2 hO3
  go_wp2_with fail
  refine (picked _ _ _ _ _ _ _ hR3 (by omega) (by omega) (by omega)).mono ?_
  rintro e w4 ⟨u, rfl, u0, u1, hR4, hO4⟩
  have hZ4 := blk_only hZ3 hO4 hZb
  have hG4 := grown_trans hG3 (only_grown hO4)
  clear hZ3 hR3 hG3 hO4
  go_wp2_with fail
  refine (text_few _ _ _ _ _ _ hR4 (by omega) _ 5 (by omega) (by omega) ?_).mono ?_
  · intro i hi
    rcases five hi with rfl | rfl | rfl | rfl | rfl
    · exact ⟨_, rfl, by decide⟩
    · exact ⟨_, rfl, by decide⟩
    · exact ⟨_, rfl, by decide⟩
    · exact ⟨_, rfl, by decide⟩
    · exact ⟨_, rfl, by decide⟩
  rintro e w5 ⟨s, rfl, hsz, hR5, hO5⟩
  have hZ5 := blk_only (hZ4.alloc _) hO5 hZb
  have hG5 := grown_trans (grown_trans hG4 (below_grown ((Below.refl _ _).alloc (Nat.le_refl _) _) _)) (only_grown hO5)
  clear hZ4 hR4 hG4 hO5
  have hb5 := hR5.1.lt
  have hw5 := hZ5.lt
  have hne5 : ¬ w.heap.size = w5.heap.size := by omega
  have hne6 : ¬ w5.heap.size = w.heap.size := by omega
  have hZ6 := hZ5.alloc (.cells #[.int .i64 f, .int .i64 (1 + n), .int .i64 t, .int .i64 (1 + u), .string s] 131)
  have hN6 := Blk.new w5 131 #[.int .i64 f, .int .i64 (1 + n), .int .i64 t, .int .i64 (1 + u), .string s]
  have hR6 := rd_later hR5 ((Below.refl (b + 1) w5).alloc (by omega) (.cells #[.int .i64 f, .int .i64 (1 + n), .int .i64 t, .int .i64 (1 + u), .string s] 131))
  have hG6 := grown_trans hG5 (below_grown ((Below.refl _ w5).alloc (Nat.le_refl _) (.cells #[.int .i64 f, .int .i64 (1 + n), .int .i64 t, .int .i64 (1 + u), .string s] 131)) (some b))
  have hNb : w5.heap.size ≠ b := by omega
  clear hZ5 hR5 hG5
  go_wp2_with fail
  refine (picked _ _ _ _ _ _ _ hR6 (by omega) (by omega) (by omega)).mono ?_
  rintro e w7 ⟨v, rfl, v0, v1, hR7, hO7⟩
  have hZ7 := blk_only hZ6 hO7 hZb
  have hN7 := blk_only hN6 hO7 hNb
  have hG7 := grown_trans hG6 (only_grown hO7)
  clear hZ6 hN6 hR6 hG6 hO7
  by_cases e0 : v = 0
  · subst e0
    have hI := Blk.new w7 3 #[.int .i64 (-1), .int .i64 (4)]
    have hz7 := hR7.1.lt
    go_wp2_with fail
    refine (picked _ _ _ _ _ _ _ (rd_later hR7 ((Below.refl _ _).alloc (by omega) _)) (by omega) (by omega) (by omega)).mono ?_
    rintro e W ⟨j, rfl, j0, j1, hR, hO⟩
    have hI2 : Blk W w7.heap.size 3 #[.int .i64 (-1), .int .i64 (4)] := (hO.2.1 _ (by omega)).trans hI
    have HZ := Lib.hid (blk_only (hZ7.alloc (.cells #[.int .i64 (-1), .int .i64 (4)] 3)) hO hZb)
    have HN := Lib.hid (blk_only (hN7.alloc (.cells #[.int .i64 (-1), .int .i64 (4)] 3)) hO hNb)
    have HR := Lib.hid hR
    have HG := Lib.hid (grown_trans (grown_trans hG7 (below_grown ((Below.refl _ _).alloc (Nat.le_refl _) (.cells #[.int .i64 (-1), .int .i64 (4)] 3)) _)) (only_grown hO))
    obtain ⟨q, hq⟩ : ∃ q, q = p + 1 + 1 + 1 + 1 + 1 + 1 + 1 := ⟨_, rfl⟩
    rw [← hq] at HR
    have hq0 : p ≤ q := by omega
    have hq1 : q ≤ p + 50 := by omega
    have yN := HN.out.frozen 0
    obtain ⟨y, hy⟩ : ∃ y : Int, W.cell? ⟨w7.heap.size, j.toNat, none⟩ = some (.int .i64 y) := by
      rw [hI2.cell]
      have : j = 0 ∨ j = 1 := by omega
      rcases this with rfl | rfl
      · exact ⟨_, rfl⟩
      · exact ⟨_, rfl⟩
    have hjn : (j.toNat : Int) = j := by omega
    clear hq hI hI2 hR hO hR7 hG7 hZ7 hN7
    obtain ⟨z0, z1, z2, z3, z4, _⟩ := ok.five HZ.out
    obtain ⟨n0, n1, n2, n3, n4, _⟩ := ok.five HN.out
    have y0 := HZ.out.frozen 0
    have y1 := HZ.out.frozen 1
    have y2 := HZ.out.frozen 2
    have y3 := HZ.out.frozen 3
    have y4 := HZ.out.frozen 4
    clear HZ
    clear HN
    go_wp2
    refine bodyPost_ret (v := note (y) (1 + n) (t) (1 + u) (s)) (by simp [results, Tryz.results104, go_sem, note, *]) rfl ⟨_, _, _, _, _, q, rfl, hsz, hq0, hq1, ?_, ?_⟩
    · exact rd_set (rd_set (rd_set (rd_set (rd_set (rd_set (HR.out) (by first | (simp; done) | (simp; omega)) _) (by first | (simp; done) | (simp; omega)) _) (by first | (simp; done) | (simp; omega)) _) (by first | (simp; done) | (simp; omega)) _) (by first | (simp; done) | (simp; omega)) _) (by first | (simp; done) | (simp; omega)) _
    · exact grown_set (grown_set (grown_set (grown_set (grown_set (grown_set (HG.out) (by first | (simp; done) | (simp; omega)) _) (by first | (simp; done) | (simp; omega)) _) (by first | (simp; done) | (simp; omega)) _) (by first | (simp; done) | (simp; omega)) _) (by first | (simp; done) | (simp; omega)) _) (by first | (simp; done) | (simp; omega)) _
  by_cases e1 : v = 1
  · subst e1
    have hI := Blk.new w7 3 #[.int .i64 (0), .int .i64 (99), .int .i64 (100)]
    have hz7 := hR7.1.lt
    go_wp2_with fail
    refine (picked _ _ _ _ _ _ _ (rd_later hR7 ((Below.refl _ _).alloc (by omega) _)) (by omega) (by omega) (by omega)).mono ?_
    rintro e W ⟨j, rfl, j0, j1, hR, hO⟩
    have hI2 : Blk W w7.heap.size 3 #[.int .i64 (0), .int .i64 (99), .int .i64 (100)] := (hO.2.1 _ (by omega)).trans hI
    have HZ := Lib.hid (blk_only (hZ7.alloc (.cells #[.int .i64 (0), .int .i64 (99), .int .i64 (100)] 3)) hO hZb)
    have HN := Lib.hid (blk_only (hN7.alloc (.cells #[.int .i64 (0), .int .i64 (99), .int .i64 (100)] 3)) hO hNb)
    have HR := Lib.hid hR
    have HG := Lib.hid (grown_trans (grown_trans hG7 (below_grown ((Below.refl _ _).alloc (Nat.le_refl _) (.cells #[.int .i64 (0), .int .i64 (99), .int .i64 (100)] 3)) _)) (only_grown hO))
    obtain ⟨q, hq⟩ : ∃ q, q = p + 1 + 1 + 1 + 1 + 1 + 1 + 1 := ⟨_, rfl⟩
    rw [← hq] at HR
    have hq0 : p ≤ q := by omega
    have hq1 : q ≤ p + 50 := by omega
    have yN := HN.out.frozen 1
    obtain ⟨y, hy⟩ : ∃ y : Int, W.cell? ⟨w7.heap.size, j.toNat, none⟩ = some (.int .i64 y) := by
      rw [hI2.cell]
      have : j = 0 ∨ j = 1 ∨ j = 2 := by omega
      rcases this with rfl | rfl | rfl
      · exact ⟨_, rfl⟩
      · exact ⟨_, rfl⟩
      · exact ⟨_, rfl⟩
    have hjn : (j.toNat : Int) = j := by omega
    clear hq hI hI2 hR hO hR7 hG7 hZ7 hN7
    obtain ⟨z0, z1, z2, z3, z4, _⟩ := ok.five HZ.out
    obtain ⟨n0, n1, n2, n3, n4, _⟩ := ok.five HN.out
    have y0 := HZ.out.frozen 0
    have y1 := HZ.out.frozen 1
    have y2 := HZ.out.frozen 2
    have y3 := HZ.out.frozen 3
    have y4 := HZ.out.frozen 4
    clear HZ
    clear HN
    go_wp2
    refine bodyPost_ret (v := note (f) (y) (t) (1 + u) (s)) (by simp [results, Tryz.results104, go_sem, note, *]) rfl ⟨_, _, _, _, _, q, rfl, hsz, hq0, hq1, ?_, ?_⟩
    · exact rd_set (rd_set (rd_set (rd_set (rd_set (rd_set (HR.out) (by first | (simp; done) | (simp; omega)) _) (by first | (simp; done) | (simp; omega)) _) (by first | (simp; done) | (simp; omega)) _) (by first | (simp; done) | (simp; omega)) _) (by first | (simp; done) | (simp; omega)) _) (by first | (simp; done) | (simp; omega)) _
    · exact grown_set (grown_set (grown_set (grown_set (grown_set (grown_set (HG.out) (by first | (simp; done) | (simp; omega)) _) (by first | (simp; done) | (simp; omega)) _) (by first | (simp; done) | (simp; omega)) _) (by first | (simp; done) | (simp; omega)) _) (by first | (simp; done) | (simp; omega)) _) (by first | (simp; done) | (simp; omega)) _
  by_cases e2 : v = 2
  · subst e2
    have hI := Blk.new w7 3 #[.int .i64 (0), .int .i64 (999), .int .i64 (1000)]
    have hz7 := hR7.1.lt
    go_wp2_with fail
    refine (picked _ _ _ _ _ _ _ (rd_later hR7 ((Below.refl _ _).alloc (by omega) _)) (by omega) (by omega) (by omega)).mono ?_
    rintro e W ⟨j, rfl, j0, j1, hR, hO⟩
    have hI2 : Blk W w7.heap.size 3 #[.int .i64 (0), .int .i64 (999), .int .i64 (1000)] := (hO.2.1 _ (by omega)).trans hI
    have HZ := Lib.hid (blk_only (hZ7.alloc (.cells #[.int .i64 (0), .int .i64 (999), .int .i64 (1000)] 3)) hO hZb)
    have HN := Lib.hid (blk_only (hN7.alloc (.cells #[.int .i64 (0), .int .i64 (999), .int .i64 (1000)] 3)) hO hNb)
    have HR := Lib.hid hR
    have HG := Lib.hid (grown_trans (grown_trans hG7 (below_grown ((Below.refl _ _).alloc (Nat.le_refl _) (.cells #[.int .i64 (0), .int .i64 (999), .int .i64 (1000)] 3)) _)) (only_grown hO))
    obtain ⟨q, hq⟩ : ∃ q, q = p + 1 + 1 + 1 + 1 + 1 + 1 + 1 := ⟨_, rfl⟩
    rw [← hq] at HR
    have hq0 : p ≤ q := by omega
    have hq1 : q ≤ p + 50 := by omega
    have yN := HN.out.frozen 3
    obtain ⟨y, hy⟩ : ∃ y : Int, W.cell? ⟨w7.heap.size, j.toNat, none⟩ = some (.int .i64 y) := by
      rw [hI2.cell]
      have : j = 0 ∨ j = 1 ∨ j = 2 := by omega
      rcases this with rfl | rfl | rfl
      · exact ⟨_, rfl⟩
      · exact ⟨_, rfl⟩
      · exact ⟨_, rfl⟩
    have hjn : (j.toNat : Int) = j := by omega
    clear hq hI hI2 hR hO hR7 hG7 hZ7 hN7
    obtain ⟨z0, z1, z2, z3, z4, _⟩ := ok.five HZ.out
    obtain ⟨n0, n1, n2, n3, n4, _⟩ := ok.five HN.out
    have y0 := HZ.out.frozen 0
    have y1 := HZ.out.frozen 1
    have y2 := HZ.out.frozen 2
    have y3 := HZ.out.frozen 3
    have y4 := HZ.out.frozen 4
    clear HZ
    clear HN
    go_wp2
    refine bodyPost_ret (v := note (f) (1 + n) (t) (y) (s)) (by simp [results, Tryz.results104, go_sem, note, *]) rfl ⟨_, _, _, _, _, q, rfl, hsz, hq0, hq1, ?_, ?_⟩
    · exact rd_set (rd_set (rd_set (rd_set (rd_set (rd_set (HR.out) (by first | (simp; done) | (simp; omega)) _) (by first | (simp; done) | (simp; omega)) _) (by first | (simp; done) | (simp; omega)) _) (by first | (simp; done) | (simp; omega)) _) (by first | (simp; done) | (simp; omega)) _) (by first | (simp; done) | (simp; omega)) _
    · exact grown_set (grown_set (grown_set (grown_set (grown_set (grown_set (HG.out) (by first | (simp; done) | (simp; omega)) _) (by first | (simp; done) | (simp; omega)) _) (by first | (simp; done) | (simp; omega)) _) (by first | (simp; done) | (simp; omega)) _) (by first | (simp; done) | (simp; omega)) _) (by first | (simp; done) | (simp; omega)) _
  by_cases e3 : v = 3
  · subst e3
    go_wp2_with fail
    refine (text72 _ _ _ _ _ _ hR7 (by omega)).mono ?_
    rintro e W ⟨s', q, rfl, hsz', hq0', hq1', hR, hG⟩
    have HZ := Lib.hid (blk_grown hZ7 hG hZb)
    have HN := Lib.hid (blk_grown hN7 hG hNb)
    have HR := Lib.hid hR
    have HG := Lib.hid (grown_trans hG7 hG)
    have hq0 : p ≤ q := by omega
    have hq1 : q ≤ p + 50 := by omega
    have yN := HN.out.frozen 4
    clear hR hG hR7 hG7 hZ7 hN7 hsz
    have hsz := hsz'
    obtain ⟨z0, z1, z2, z3, z4, _⟩ := ok.five HZ.out
    obtain ⟨n0, n1, n2, n3, n4, _⟩ := ok.five HN.out
    have y0 := HZ.out.frozen 0
    have y1 := HZ.out.frozen 1
    have y2 := HZ.out.frozen 2
    have y3 := HZ.out.frozen 3
    have y4 := HZ.out.frozen 4
    clear HZ
    clear HN
    go_wp2
    refine bodyPost_ret (v := note f (1 + n) t (1 + u) s') (by simp [results, Tryz.results104, go_sem, note, *]) rfl ⟨_, _, _, _, _, q, rfl, hsz, hq0, hq1, ?_, ?_⟩
    · exact rd_set (rd_set (rd_set (rd_set (rd_set (rd_set (HR.out) (by first | (simp; done) | (simp; omega)) _) (by first | (simp; done) | (simp; omega)) _) (by first | (simp; done) | (simp; omega)) _) (by first | (simp; done) | (simp; omega)) _) (by first | (simp; done) | (simp; omega)) _) (by first | (simp; done) | (simp; omega)) _
    · exact grown_set (grown_set (grown_set (grown_set (grown_set (grown_set (HG.out) (by first | (simp; done) | (simp; omega)) _) (by first | (simp; done) | (simp; omega)) _) (by first | (simp; done) | (simp; omega)) _) (by first | (simp; done) | (simp; omega)) _) (by first | (simp; done) | (simp; omega)) _) (by first | (simp; done) | (simp; omega)) _
  by_cases e4 : v = 4
  · subst e4
    have hI := Blk.new w7 3 #[.int .i64 (-1), .int .i64 (4)]
    have hz7 := hR7.1.lt
    go_wp2_with fail
    refine (picked _ _ _ _ _ _ _ (rd_later hR7 ((Below.refl _ _).alloc (by omega) _)) (by omega) (by omega) (by omega)).mono ?_
    rintro e W ⟨j, rfl, j0, j1, hR, hO⟩
    have hI2 : Blk W w7.heap.size 3 #[.int .i64 (-1), .int .i64 (4)] := (hO.2.1 _ (by omega)).trans hI
    have HZ := Lib.hid (blk_only (hZ7.alloc (.cells #[.int .i64 (-1), .int .i64 (4)] 3)) hO hZb)
    have HN := Lib.hid (blk_only (hN7.alloc (.cells #[.int .i64 (-1), .int .i64 (4)] 3)) hO hNb)
    have HR := Lib.hid hR
    have HG := Lib.hid (grown_trans (grown_trans hG7 (below_grown ((Below.refl _ _).alloc (Nat.le_refl _) (.cells #[.int .i64 (-1), .int .i64 (4)] 3)) _)) (only_grown hO))
    obtain ⟨q, hq⟩ : ∃ q, q = p + 1 + 1 + 1 + 1 + 1 + 1 + 1 := ⟨_, rfl⟩
    rw [← hq] at HR
    have hq0 : p ≤ q := by omega
    have hq1 : q ≤ p + 50 := by omega
    have yN := HN.out.frozen 2
    obtain ⟨y, hy⟩ : ∃ y : Int, W.cell? ⟨w7.heap.size, j.toNat, none⟩ = some (.int .i64 y) := by
      rw [hI2.cell]
      have : j = 0 ∨ j = 1 := by omega
      rcases this with rfl | rfl
      · exact ⟨_, rfl⟩
      · exact ⟨_, rfl⟩
    have hjn : (j.toNat : Int) = j := by omega
    clear hq hI hI2 hR hO hR7 hG7 hZ7 hN7
    obtain ⟨z0, z1, z2, z3, z4, _⟩ := ok.five HZ.out
    obtain ⟨n0, n1, n2, n3, n4, _⟩ := ok.five HN.out
    have y0 := HZ.out.frozen 0
    have y1 := HZ.out.frozen 1
    have y2 := HZ.out.frozen 2
    have y3 := HZ.out.frozen 3
    have y4 := HZ.out.frozen 4
    clear HZ
    clear HN
    go_wp2
    refine bodyPost_ret (v := note (f) (1 + n) (y) (1 + u) (s)) (by simp [results, Tryz.results104, go_sem, note, *]) rfl ⟨_, _, _, _, _, q, rfl, hsz, hq0, hq1, ?_, ?_⟩
    · exact rd_set (rd_set (rd_set (rd_set (rd_set (rd_set (HR.out) (by first | (simp; done) | (simp; omega)) _) (by first | (simp; done) | (simp; omega)) _) (by first | (simp; done) | (simp; omega)) _) (by first | (simp; done) | (simp; omega)) _) (by first | (simp; done) | (simp; omega)) _) (by first | (simp; done) | (simp; omega)) _
    · exact grown_set (grown_set (grown_set (grown_set (grown_set (grown_set (HG.out) (by first | (simp; done) | (simp; omega)) _) (by first | (simp; done) | (simp; omega)) _) (by first | (simp; done) | (simp; omega)) _) (by first | (simp; done) | (simp; omega)) _) (by first | (simp; done) | (simp; omega)) _) (by first | (simp; done) | (simp; omega)) _
  have HZ := Lib.hid hZ7
  have HN := Lib.hid hN7
  have HR := Lib.hid hR7
  have HG := Lib.hid hG7
  obtain ⟨q, hq⟩ : ∃ q, q = p + 1 + 1 + 1 + 1 + 1 + 1 := ⟨_, rfl⟩
  rw [← hq] at HR
  have hq0 : p ≤ q := by omega
  have hq1 : q ≤ p + 50 := by omega
  have k0 : (v == 0) = false := by simpa using e0
  have k1 : (v == 1) = false := by simpa using e1
  have k2 : (v == 2) = false := by simpa using e2
  have k3 : (v == 3) = false := by simpa using e3
  have k4 : (v == 4) = false := by simpa using e4
  clear hq hR7 hG7 hZ7 hN7 e0 e1 e2 e3 e4
  obtain ⟨z0, z1, z2, z3, z4, _⟩ := ok.five HZ.out
  obtain ⟨n0, n1, n2, n3, n4, _⟩ := ok.five HN.out
  have y0 := HZ.out.frozen 0
  have y1 := HZ.out.frozen 1
  have y2 := HZ.out.frozen 2
  have y3 := HZ.out.frozen 3
  have y4 := HZ.out.frozen 4
  clear HZ
  clear HN
  go_wp2
  refine bodyPost_ret (v := note f (1 + n) t (1 + u) s) (by simp [results, Tryz.results104, go_sem, note, *]) rfl ⟨_, _, _, _, _, q, rfl, hsz, hq0, hq1, ?_, ?_⟩
  · exact rd_set (rd_set (rd_set (rd_set (rd_set (HR.out) (by first | (simp; done) | (simp; omega)) _) (by first | (simp; done) | (simp; omega)) _) (by first | (simp; done) | (simp; omega)) _) (by first | (simp; done) | (simp; omega)) _) (by first | (simp; done) | (simp; omega)) _
  · exact grown_set (grown_set (grown_set (grown_set (grown_set (HG.out) (by first | (simp; done) | (simp; omega)) _) (by first | (simp; done) | (simp; omega)) _) (by first | (simp; done) | (simp; omega)) _) (by first | (simp; done) | (simp; omega)) _) (by first | (simp; done) | (simp; omega)) _
end Go.Proofs.YtjmmojjjopjdpaaGreatDoor.dr

/-
  Contract of spec.NoteWrite.
-/
namespace Go.Proofs.YtjmmojjjopjdpaaGreatDoor.dc
open Go.ChangeShapes Go.WideShapes Go.ChangeAt Go.RowKit
open Go.Proofs.YtjmmojjjopjdpaaGreatDoor.nb Go.Proofs.YtjmmojjjopjdpaaGreatDoor.ok Go.Proofs.YtjmmojjjopjdpaaGreatDoor.wd

/-- a sum of two short strings -/
theorem adds (a b : ByteArray) (h : a.size + b.size ≤ 1000000000) : ∃ c : ByteArray, c = a ++ b ∧ c.size = a.size + b.size ∧ ∀ W : World, (Op.stringOp .add a b).run Tryz.prog W = .ok (.string c) W :=
  ⟨a ++ b, rfl, by simp, fun W => run_string_add_sum W a b (by omega)⟩

theorem wr_cat (f n t u : Int) (s : ByteArray) : (((((((str (dl f) ++ str [32]) ++ str (dl n)) ++ str [32]) ++ str (dl t)) ++ str [32]) ++ str (dl u)) ++ str [32]) ++ s = wr f n t u s := by
  unfold wr wl
  rw [← str_data s]
  simp only [str_app, data_str]
  congr 1
  simp

theorem swrite_f (f n t u : Int) (s : ByteArray) (w : World) (hs : s.size ≤ maxLen) (h : okN f n t u s = false) :
    Calls Tryz.prog 106 #[note f n t u s] w (StrPost w (str [])) := by
  unfold note
  go_enter Tryz.func106, Tryz.ntmps106
  go_wp2_with fail
  refine (sok_any f n t u s _ hs).mono ?_
  rintro e w1 ⟨rfl, hB1⟩
  have HB := Lib.hid (((Below.refl w.heap.size w).alloc (Nat.le_refl _) _).trans (hB1.mono (by simp)))
  clear hB1
  rw [h]
  go_wp2
  go_ret
  exact ⟨rfl, HB.out⟩

set_option maxRecDepth 100000 in
set_option maxHeartbeats 1000000 in
theorem swrite_t (f n t u : Int) (s : ByteArray) (w : World) (h : okN f n t u s = true) :
    Calls Tryz.prog 106 #[note f n t u s] w (StrPost w (wr f n t u s)) := by
  obtain ⟨⟨f0, f1⟩, ⟨n0, n1⟩, ⟨t0, t1⟩, ⟨u0, u1⟩, ⟨z0, z1⟩, _⟩ := okN_parts h
  have HD0 := Lib.hid (fun W => dec_any f f0 (by omega) W)
  have HD1 := Lib.hid (fun W => dec_any n (by omega) (by omega) W)
  have HD2 := Lib.hid (fun W => dec_any t t0 (by omega) W)
  have HD3 := Lib.hid (fun W => dec_any u (by omega) (by omega) W)
  have l0 : (str (dl f)).size ≤ 3 := by rw [str_size]; exact (dl_len (by omega)).2
  have l1 : (str (dl n)).size ≤ 3 := by rw [str_size]; exact (dl_len (by omega)).2
  have l2 : (str (dl t)).size ≤ 3 := by rw [str_size]; exact (dl_len (by omega)).2
  have l3 : (str (dl u)).size ≤ 3 := by rw [str_size]; exact (dl_len (by omega)).2
  have HW := Lib.hid (wr_cat f n t u s)
  have lb : (⟨#[32]⟩ : ByteArray).size = 1 := rfl
  generalize str (dl f) = D0 at HD0 l0 HW
  generalize str (dl n) = D1 at HD1 l1 HW
  generalize str (dl t) = D2 at HD2 l2 HW
  generalize str (dl u) = D3 at HD3 l3 HW
  obtain ⟨p1, e1, q1, r1⟩ := adds D0 ⟨#[32]⟩ (by omega)
  obtain ⟨p2, e2, q2, r2⟩ := adds p1 D1 (by omega)
  obtain ⟨p3, e3, q3, r3⟩ := adds p2 ⟨#[32]⟩ (by omega)
  obtain ⟨p4, e4, q4, r4⟩ := adds p3 D2 (by omega)
  obtain ⟨p5, e5, q5, r5⟩ := adds p4 ⟨#[32]⟩ (by omega)
  obtain ⟨p6, e6, q6, r6⟩ := adds p5 D3 (by omega)
  obtain ⟨p7, e7, q7, r7⟩ := adds p6 ⟨#[32]⟩ (by omega)
  obtain ⟨p8, e8, q8, r8⟩ := adds p7 s (by omega)
  have HP : Hid (p8 = wr f n t u s) := by rw [e8, e7, e6, e5, e4, e3, e2, e1]; exact HW.out
  clear e1 e2 e3 e4 e5 e6 e7 e8 q1 q2 q3 q4 q5 q6 q7 q8 HW l0 l1 l2 l3 lb
  have hs : s.size ≤ maxLen := by unfold maxLen; omega
  unfold note
  have hb := Blk.new w 131 #[.int .i64 f, .int .i64 n, .int .i64 t, .int .i64 u, .string s]
  have hB0 : Below w.heap.size w (w.alloc (.cells #[.int .i64 f, .int .i64 n, .int .i64 t, .int .i64 u, .string s] 131)) := (Below.refl _ _).alloc (Nat.le_refl _) _
  go_enter Tryz.func106, Tryz.ntmps106
  go_wp2_with fail
  generalize w.alloc (.cells #[.int .i64 f, .int .i64 n, .int .i64 t, .int .i64 u, .string s] 131) = W0 at hb hB0 ⊢
  refine (sok_any f n t u s _ hs).mono ?_
  rintro e W ⟨rfl, hB1⟩
  have hbW := hb.below hB1 hb.lt
  have hBW := hB0.trans (hB1.mono hB0.size)
  rw [h]
  clear hb hB0 hB1 h hs
  obtain ⟨c0, c1, c2, c3, c4, hz⟩ := five hbW
  clear hbW
  go_wp2_with fail
  go_region_held3 (fun w' => w'.cell? ⟨w.heap.size, 0, none⟩ = some (.int .i64 f) ∧ w'.cell? ⟨w.heap.size, 1, none⟩ = some (.int .i64 n) ∧ w'.cell? ⟨w.heap.size, 2, none⟩ = some (.int .i64 t) ∧ w'.cell? ⟨w.heap.size, 3, none⟩ = some (.int .i64 u) ∧ w'.cell? ⟨w.heap.size, 4, none⟩ = some (.string s)) (first | exact ⟨c0, c1, c2, c3, c4⟩ | exact ⟨s0, s1, s2, s3, s4⟩ | go_keep) (first | (go_at_call_of 105 f; refine (HD0.out _).mono ?_; rintro e w2 ⟨rfl, hB2⟩; first | (have hBa := hBa.trans (hB2.mono hBa.size); have s0 := (hB2.cell (p := ⟨w.heap.size, 0, none⟩) hz2).trans s0; have s1 := (hB2.cell (p := ⟨w.heap.size, 1, none⟩) hz2).trans s1; have s2 := (hB2.cell (p := ⟨w.heap.size, 2, none⟩) hz2).trans s2; have s3 := (hB2.cell (p := ⟨w.heap.size, 3, none⟩) hz2).trans s3; have s4 := (hB2.cell (p := ⟨w.heap.size, 4, none⟩) hz2).trans s4; have hz2 := Nat.lt_of_lt_of_le hz2 hB2.size) | (have hBa := hB2; have s0 := (hB2.cell (p := ⟨w.heap.size, 0, none⟩) hz).trans c0; have s1 := (hB2.cell (p := ⟨w.heap.size, 1, none⟩) hz).trans c1; have s2 := (hB2.cell (p := ⟨w.heap.size, 2, none⟩) hz).trans c2; have s3 := (hB2.cell (p := ⟨w.heap.size, 3, none⟩) hz).trans c3; have s4 := (hB2.cell (p := ⟨w.heap.size, 4, none⟩) hz).trans c4; have hz2 := Nat.lt_of_lt_of_le hz hB2.size)) | (go_at_call_of 105 n; refine (HD1.out _).mono ?_; rintro e w2 ⟨rfl, hB2⟩; first | (have hBa := hBa.trans (hB2.mono hBa.size); have s0 := (hB2.cell (p := ⟨w.heap.size, 0, none⟩) hz2).trans s0; have s1 := (hB2.cell (p := ⟨w.heap.size, 1, none⟩) hz2).trans s1; have s2 := (hB2.cell (p := ⟨w.heap.size, 2, none⟩) hz2).trans s2; have s3 := (hB2.cell (p := ⟨w.heap.size, 3, none⟩) hz2).trans s3; have s4 := (hB2.cell (p := ⟨w.heap.size, 4, none⟩) hz2).trans s4; have hz2 := Nat.lt_of_lt_of_le hz2 hB2.size) | (have hBa := hB2; have s0 := (hB2.cell (p := ⟨w.heap.size, 0, none⟩) hz).trans c0; have s1 := (hB2.cell (p := ⟨w.heap.size, 1, none⟩) hz).trans c1; have s2 := (hB2.cell (p := ⟨w.heap.size, 2, none⟩) hz).trans c2; have s3 := (hB2.cell (p := ⟨w.heap.size, 3, none⟩) hz).trans c3; have s4 := (hB2.cell (p := ⟨w.heap.size, 4, none⟩) hz).trans c4; have hz2 := Nat.lt_of_lt_of_le hz hB2.size)) | (go_at_call_of 105 t; refine (HD2.out _).mono ?_; rintro e w2 ⟨rfl, hB2⟩; first | (have hBa := hBa.trans (hB2.mono hBa.size); have s0 := (hB2.cell (p := ⟨w.heap.size, 0, none⟩) hz2).trans s0; have s1 := (hB2.cell (p := ⟨w.heap.size, 1, none⟩) hz2).trans s1; have s2 := (hB2.cell (p := ⟨w.heap.size, 2, none⟩) hz2).trans s2; have s3 := (hB2.cell (p := ⟨w.heap.size, 3, none⟩) hz2).trans s3; have s4 := (hB2.cell (p := ⟨w.heap.size, 4, none⟩) hz2).trans s4; have hz2 := Nat.lt_of_lt_of_le hz2 hB2.size) | (have hBa := hB2; have s0 := (hB2.cell (p := ⟨w.heap.size, 0, none⟩) hz).trans c0; have s1 := (hB2.cell (p := ⟨w.heap.size, 1, none⟩) hz).trans c1; have s2 := (hB2.cell (p := ⟨w.heap.size, 2, none⟩) hz).trans c2; have s3 := (hB2.cell (p := ⟨w.heap.size, 3, none⟩) hz).trans c3; have s4 := (hB2.cell (p := ⟨w.heap.size, 4, none⟩) hz).trans c4; have hz2 := Nat.lt_of_lt_of_le hz hB2.size)) | (go_at_call_of 105 u; refine (HD3.out _).mono ?_; rintro e w2 ⟨rfl, hB2⟩; first | (have hBa := hBa.trans (hB2.mono hBa.size); have s0 := (hB2.cell (p := ⟨w.heap.size, 0, none⟩) hz2).trans s0; have s1 := (hB2.cell (p := ⟨w.heap.size, 1, none⟩) hz2).trans s1; have s2 := (hB2.cell (p := ⟨w.heap.size, 2, none⟩) hz2).trans s2; have s3 := (hB2.cell (p := ⟨w.heap.size, 3, none⟩) hz2).trans s3; have s4 := (hB2.cell (p := ⟨w.heap.size, 4, none⟩) hz2).trans s4; have hz2 := Nat.lt_of_lt_of_le hz2 hB2.size) | (have hBa := hB2; have s0 := (hB2.cell (p := ⟨w.heap.size, 0, none⟩) hz).trans c0; have s1 := (hB2.cell (p := ⟨w.heap.size, 1, none⟩) hz).trans c1; have s2 := (hB2.cell (p := ⟨w.heap.size, 2, none⟩) hz).trans c2; have s3 := (hB2.cell (p := ⟨w.heap.size, 3, none⟩) hz).trans c3; have s4 := (hB2.cell (p := ⟨w.heap.size, 4, none⟩) hz).trans c4; have hz2 := Nat.lt_of_lt_of_le hz hB2.size)))
  have HB := Lib.hid (show Below w.heap.size w w2 from hBW.trans ((show Below W.heap.size W w2 from ⟨hBa.os, hBa.tape, hBa.output, hBa.size, hBa.block⟩).mono hBW.size))
  clear hBa hBW hB2 s0 s1 s2 s3 s4 c0 c1 c2 c3 c4
  go_wp2
  go_ret
  exact ⟨by rw [← HP.out]; rfl, HB.out⟩

theorem swrite_any (f n t u : Int) (s : ByteArray) (w : World) (hs : s.size ≤ maxLen) :
    Calls Tryz.prog 106 #[note f n t u s] w (StrPost w (nw f n t u s)) := by
  cases h : okN f n t u s with
  | true => rw [nw_t h]; exact swrite_t f n t u s w h
  | false => rw [nw_f h]; exact swrite_f f n t u s w hs h
end Go.Proofs.YtjmmojjjopjdpaaGreatDoor.dc

