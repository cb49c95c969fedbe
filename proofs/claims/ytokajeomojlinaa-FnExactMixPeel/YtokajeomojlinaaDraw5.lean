/-
  Contracts of l72Mixed, DrawMixPeel, DrawMixText: whatever the code, a short list of encoded blocks; nothing old is turned but the reader.
-/
import Derived.Test.YtokajeomojlinaaDraw4
import Derived.Deep.Onto
namespace Go.Proofs.Ytokajeomojlinaa.ls
open Go.ChangeShapes Go.WideShapes Go.ChangeAt Go.RowKit
open Go.Proofs.Ytokajeomojlinaa.wd Go.Proofs.Ytokajeomojlinaa.cp Go.Proofs.Ytokajeomojlinaa.mp Go.Proofs.Ytokajeomojlinaa.pp Go.Proofs.Ytokajeomojlinaa.ow Go.Proofs.Ytokajeomojlinaa.pk Go.Proofs.Ytokajeomojlinaa.dr Go.Proofs.Ytokajeomojlinaa.cs

/-- at the head of the loop that draws encoded blocks -/
def MRel (w ws : World) (b : Nat) (A : Option Addr) (len cap : Nat) (p : Int) (v : Value) (r : Nat) (wr : World) : Prop :=
  ∃ (l : List Mx) (p' : Int), wr.ownsRow ws.heap.size 40 2 v l.length (l.flatMap mc) ∧ l.length + r ≤ 20 ∧ p ≤ p' ∧ p' + 10 * r ≤ p + 400 ∧ Rd wr b A len cap p' ∧ w.grownBy wr (some b) ∧ ws.heap.size ≤ wr.heap.size
def MixedPost (w : World) (b : Nat) (e : Ending) (w' : World) : Prop :=
  ∃ (v : Value) (l : List Mx), e = .returned v ∧ l.length ≤ 20 ∧ w'.ownsRow w.heap.size 40 2 v l.length (l.flatMap mc) ∧ w.grownBy w' (some b)

theorem own_pick2 {w w' : World} {base b sz : Nat} {t : TypeId} {v : Value} {n : Nat} {xs : List Value} (h : w.ownsRow base t sz v n xs) (hO : Only b w w') (hb : b < base) : w'.ownsRow base t sz v n xs :=
  h.kept (only_grown hO) (by
    cases hv : v.ownBlock with
    | none => exact .inl rfl
    | some k => exact .inr (fun e => by have := (h.lt k hv).1; injection e; omega))

/-- within a round: the block that is being made lies in a block of its own -/
def Cur (w : World) (b : Nat) (A : Option Addr) (len cap : Nat) (u : Value) (n : Nat) (xs : List Value) (g : Nat) (num : Int) (d : ByteArray) (q : Int) (W : World) : Prop :=
  Blk W g 40 #[.int .i64 num, .string d] ∧ W.ownsRow w.heap.size 40 2 u n xs ∧ Rd W b A len cap q ∧ w.grownBy W (some b) ∧ w.heap.size ≤ g ∧ u.ownBlock ≠ some g ∧ b < w.heap.size
section
variable {w W W' : World} {b : Nat} {A : Option Addr} {len cap : Nat} {u : Value} {n : Nat} {xs : List Value} {g : Nat} {num : Int} {d : ByteArray} {q : Int}
theorem Cur.new (h1 : W.ownsRow w.heap.size 40 2 u n xs) (h2 : Rd W b A len cap q) (h3 : w.grownBy W (some b)) (h4 : b < w.heap.size) :
    Cur w b A len cap u n xs W.heap.size num d q (W.alloc (.cells #[.int .i64 num, .string d] 40)) := by
  have hz := h3.size
  have hb := h2.1.lt
  exact ⟨Blk.new _ _ _, h1.alloc _, rd_later h2 ((Below.refl _ _).alloc (by omega) _), grown_trans h3 (below_grown ((Below.refl _ _).alloc (Nat.le_refl _) _) _), hz, fun e => by have := (h1.lt _ e).2; omega, h4⟩
theorem Cur.pick (h : Cur w b A len cap u n xs g num d q W) {q' : Int} (hR : Rd W' b A len cap q') (hO : Only b W W') : Cur w b A len cap u n xs g num d q' W' := by
  obtain ⟨h1, h2, h3, h4, h5, h6, h7⟩ := h
  exact ⟨(hO.2.1 g (by omega)).trans h1, own_pick2 h2 hO h7, hR, grown_trans h4 (only_grown hO), h5, h6, h7⟩
theorem Cur.later (h : Cur w b A len cap u n xs g num d q W) (hB : Below W.heap.size W W') : Cur w b A len cap u n xs g num d q W' := by
  obtain ⟨h1, h2, h3, h4, h5, h6, h7⟩ := h
  have hb := h3.1.lt
  refine ⟨h1.below hB h1.lt, h2.kept (below_grown hB none) ?_, rd_later h3 (hB.mono (by omega)), grown_trans h4 (below_grown hB _), h5, h6, h7⟩
  cases hv : u.ownBlock with
  | none => exact .inl rfl
  | some k => exact .inr (fun e => by cases e)
theorem Cur.put (h : Cur w b A len cap u n xs g num d q W) (i : Nat) (x : Value) {num' : Int} {d' : ByteArray} (hx : (#[.int .i64 num, .string d] : Array Value).setIfInBounds i x = #[.int .i64 num', .string d']) : Cur w b A len cap u n xs g num' d' q (W.setCell ⟨g, i, none⟩ x) := by
  obtain ⟨h1, h2, h3, h4, h5, h6, h7⟩ := h
  have hO : Below (b + 1) W (W.setCell ⟨g, i, none⟩ x) := ⟨rfl, rfl, rfl, by simp, fun k hk => Below.heap_setCell W _ x k (by show k ≠ g; omega)⟩
  refine ⟨hx ▸ h1.put i x, ownsRow_setCell_other h2 h6 x, rd_later h3 hO, ⟨h4.os, h4.tape, h4.output, by simpa using h4.size, fun k hk hn => (Below.heap_setCell W _ x k (by show k ≠ g; omega)).trans (h4.block k hk hn)⟩, h5, h6, h7⟩
end

theorem new_after (w : World) (p : Addr) (u : Value) (o : Obj) : ((w.setCell p u).alloc o).heap[w.heap.size]? = some o := by
  have h := heap_alloc_new (w.setCell p u) o
  have e : (w.setCell p u).heap.size = w.heap.size := by simp
  rwa [e] at h

set_option hygiene false in
macro "mixed_end" : tactic => `(tactic| (
  have d0 := hE.1.cell 0
  have d1 := hE.1.cell 1
  simp only [List.getElem?_toArray, List.getElem?_cons_zero, List.getElem?_cons_succ] at d0 d1
  go_wp2_with (at_builtin; refine wpList_append_own _ rfl _ _ 33 rfl w.heap.size 40 i0 _ 2 24 Try.underlying33 hi hz0 hz1 hz2 rfl (by decide) u7 l.length xs rfl (hE.2.1.alloc _) ⟨_, 0, none⟩ 1 1 (mc (num', d')) rfl rfl ?c1 (mc_one _) (by unfold maxLen; omega) (by omega) ?c5 ?_)
  case c1 => first | exact World.news_of_block (heap_alloc_new _ _) | exact World.news_of_block (new_after _ _ _ _)
  case c5 => have h1 := hE.2.2.2.1.size; (first | (simp; omega) | (simp at h1 ⊢; omega))
  intro v1 wz hown1 hgrow1 _
  have R : Hid (MRel w w b A len cap p v1 (r - 1) wz) := by
    rw [HL.out, ← HN.out (num', d')] at hown1
    refine ⟨l ++ [(num', d')], q, hown1, by rw [HN.out]; omega, by omega, by omega, rd_append hE.2.2.1 hgrow1 hvl hb, grown_append hE.2.2.2.1 hgrow1 hvl, ?_⟩
    have h1 := hgrow1.size
    have h2 := hE.2.2.2.1.size
    simp at h1 h2
    omega
  clear hown1 hgrow1 hE d0 d1
  go_wp2
  go_roundw
  case rel => exact ⟨r - 1, by go_num, by omega, R.out⟩
  case measure => simp [intOf]; omega))

set_option hygiene false in
macro "mixed_forty" : tactic => `(tactic| (
  refine (picked _ _ _ _ _ _ _ hC9.2.2.1 (by omega) (by omega) (by omega)).mono ?_
  rintro e wa ⟨v', rfl, v0', v1', hRa, hOa⟩
  have hCa := hC9.pick hRa hOa
  clear hC9 hRa hOa
  by_cases e1 : v' = 0
  · subst e1
    have hCb := hCa.later ((Below.refl _ _).alloc (Nat.le_refl _) (.cells #[.int .i64 (-1), .int .i64 1000] 3))
    have hbb := hCa.2.2.1.1.lt
    go_wp2_with fail
    refine (picked _ _ _ _ _ _ _ hCb.2.2.1 (by omega) (by omega) (by omega)).mono ?_
    rintro e wc ⟨j, rfl, j0, j1, hRc, hOc⟩
    have hCc := hCb.pick hRc hOc
    have hbl : Blk wc wa.heap.size 3 #[.int .i64 (-1), .int .i64 1000] := (hOc.2.1 _ (by omega)).trans (Blk.new wa _ _)
    have k0 := hCc.1.cell 0
    have f0 := hCc.1.frozen 0
    simp only [List.getElem?_toArray, List.getElem?_cons_zero, List.getElem?_cons_succ] at k0
    obtain ⟨num', hn'⟩ : ∃ num' : Int, wc.cell? ⟨wa.heap.size, j.toNat, none⟩ = some (.int .i64 num') := by
      rcases (show j = 0 ∨ j = 1 by omega) with rfl | rfl
      · exact ⟨_, hbl.cell 0⟩
      · exact ⟨_, hbl.cell 1⟩
    obtain ⟨jj, rfl⟩ := Int.eq_ofNat_of_zero_le j0
    rw [Int.toNat_natCast] at hn'
    obtain ⟨d', q, hq, hCe⟩ : ∃ d' q, (q ≤ p' + 10 ∧ p' ≤ q) ∧ Cur w b A len cap u7 l.length xs w5.heap.size num d' q wc := ⟨_, _, by omega, hCc⟩
    have k1 := hCe.1.cell 1
    simp only [List.getElem?_toArray, List.getElem?_cons_zero, List.getElem?_cons_succ] at k1
    have hE := hCe.put 0 (.int .i64 num') (num' := num') (d' := d') rfl
    clear hCa hCb hCc hRc hOc hbl hCe
    mixed_end
  · have e1' : (v' == 0) = false := by rw [beq_eq_false_iff_ne]; exact e1
    obtain ⟨num', d', q, hq, hE⟩ : ∃ num' d' q, (q ≤ p' + 10 ∧ p' ≤ q) ∧ Cur w b A len cap u7 l.length xs w5.heap.size num' d' q wa := ⟨_, _, _, by omega, hCa⟩
    clear hCa
    mixed_end))

set_option maxRecDepth 100000 in
set_option maxHeartbeats 4000000 in
theorem l72Mixed_any (w : World) (b : Nat) (A : Option Addr) (len cap : Nat) (p : Int) (h : Rd w b A len cap p) (hp : p ≤ 900000) (t : ByteArray) (ht : t.size ≤ 25) (most : Nat) (hm : 1 ≤ most) (hm' : most ≤ 18) :
    Calls Try.prog 57 #[.pointer (some ⟨b, 0, none⟩), .string t, .int .i64 most] w (MixedPost w b) := by
  obtain ⟨i0, hi, hz0, hz1, hz2⟩ := info_parts infoMixed
  have hb := h.1.lt
  go_enter Try.func57, Try.ntmps57
  have hO1 := World.ownsRow_lit (base := w.heap.size) (e := 40) (size := 2) w #[] 0 (Nat.le_refl _) (by unfold maxLen; omega) rfl
  go_wp2_with fail
  refine (picked _ _ _ _ _ _ _ (rd_later h ((Below.refl _ _).alloc (by omega) _)) (by omega) (by omega) (by omega)).mono ?_
  rintro e w2 ⟨n, rfl, n0, n1, hR2, hO2⟩
  obtain ⟨n, rfl⟩ := Int.eq_ofNat_of_zero_le n0
  have HB : Hid (MRel w w b A len cap p (.slice (some ⟨w.heap.size, 0, none⟩) 0 0) n w2) :=
    ⟨[], p + 1, own_pick2 hO1 hO2 hb, by simp; omega, by omega, by omega, hR2, grown_trans (below_grown ((Below.refl _ _).alloc (Nat.le_refl _) _) _) (only_grown hO2), by rw [hO2.2.2]; simp⟩
  clear hR2 hO2 hO1 h
  go_wp2
  go_loopw [7, 8] (fun v i wr => ∃ r : Nat, i = .int .i64 r ∧ r ≤ 20 ∧ MRel w w b A len cap p v r wr) (fun _ i _ => (intOf i).toNat)
  case atStart => exact ⟨n, by go_num, by omega, HB.out⟩
  case round =>
    obtain ⟨r, rfl, hr, hL⟩ := hrel
    clear HB
    obtain ⟨l, p', hOw, hlr, hp0, hp1, hRd, hgr, hzr⟩ := hL
    by_cases hr0 : 0 < r
    · have hvl : ∀ k, u7.ownBlock = some k → w.heap.size ≤ k := fun k hk => (hOw.lt k hk).1
      go_wp2_with fail
      refine (picked _ _ _ _ _ _ _ hRd (by omega) (by omega) (by omega)).mono ?_
      rintro e w3 ⟨x, rfl, x0, x1, hR3, hO3⟩
      go_wp2_with fail
      refine (picked _ _ _ _ _ _ _ hR3 (by omega) (by omega) (by omega)).mono ?_
      rintro e w4 ⟨y, rfl, y0, y1, hR4, hO4⟩
      have hxy : 0 ≤ x * y ∧ x * y ≤ 59 := by
        have : x = 0 ∨ x = 1 := by omega
        rcases this with rfl | rfl <;> simp <;> omega
      obtain ⟨hxy0, hxy1⟩ := hxy
      go_wp2_with fail
      refine (picked _ _ _ _ _ _ _ hR4 (by omega) (by omega) (by omega)).mono ?_
      rintro e w5 ⟨z, rfl, z0, z1, hR5, hO5⟩
      have hO := hO3.trans (hO4.trans hO5)
      have hOw5 := own_pick2 hOw hO hb
      have hgr5 := grown_trans hgr (only_grown hO)
      have hz5 : w.heap.size ≤ w5.heap.size := by rw [hO.2.2]; exact hzr
      have hC := Cur.new (num := x * y + z) (d := ⟨#[]⟩) hOw5 hR5 hgr5 hb
      have HL := Lib.hid (fun (m : Mx) => show l.flatMap mc ++ mc m = (l ++ [m]).flatMap mc by simp)
      have HN := Lib.hid (fun (m : Mx) => show (l ++ [m]).length = l.length + 1 by simp)
      clear hO hOw hgr hRd hO3 hO4 hO5 hR3 hR4 hOw5 hR5 hgr5
      generalize l.flatMap mc = xs at hC HL
      go_wp2_with fail
      generalize x * y + z = num at hC ⊢
      refine (smake_any t (by omega) _ _).mono ?_
      rintro e w7 ⟨rfl, hB7⟩
      have hC7 := hC.later hB7
      have hz7 : w.heap.size ≤ w7.heap.size := hC7.2.2.2.1.size
      have c1 : w7.cell? ⟨w5.heap.size, 1, none⟩ = some (.string ⟨#[]⟩) := hC7.1.cell 1
      have f1 := hC7.1.frozen 1
      have hC8 := hC7.put 1 (.string (mk t num)) (num' := num) (d' := mk t num) rfl
      clear hC hC7 hB7
      go_wp2_with fail
      generalize hW8 : w7.setCell _ _ = w8 at hC8 ⊢
      clear hW8 c1 f1
      refine (picked _ _ _ _ _ _ _ hC8.2.2.1 (by omega) (by omega) (by omega)).mono ?_
      rintro e w9 ⟨v, rfl, v0, v1, hR9, hO9⟩
      have hC9 := hC8.pick hR9 hO9
      clear hC8 hR9 hO9
      by_cases e0 : v = 0
      · subst e0
        go_wp2_with fail
        refine (text_few _ _ _ _ _ _ hC9.2.2.1 (by omega) _ 3 (by omega) (by omega) ?_).mono ?_
        · intro i hi
          rcases (show i = 0 ∨ i = 1 ∨ i = 2 by omega) with rfl | rfl | rfl <;> exact ⟨_, rfl, by decide⟩
        rintro e wb ⟨s, rfl, hs, hRb, hOb⟩
        have hCb := (hC9.later ((Below.refl _ _).alloc (Nat.le_refl _) _)).pick hRb hOb
        have c1 := hCb.1.cell 1
        have f1 := hCb.1.frozen 1
        simp only [List.getElem?_toArray, List.getElem?_cons_zero, List.getElem?_cons_succ] at c1
        have hCd := hCb.put 1 (.string s) (num' := num) (d' := s) rfl
        clear hC9 hCb hRb hOb
        go_wp2_with fail
        generalize hWd : wb.setCell _ _ = wd at hCd ⊢
        clear hWd c1 f1
        have hC9 := hCd
        clear hCd
        mixed_forty
      · have e0' : (v == 0) = false := by rw [beq_eq_false_iff_ne]; exact e0
        go_wp2_with fail
        mixed_forty
    · obtain rfl : r = 0 := by omega
      have R : Hid (MixedPost w b (.returned u7) wr) := ⟨u7, l, rfl, by omega, hOw, hgr⟩
      clear hOw hgr hRd
      go_wp2
      go_ret
      exact R.out

def DrawnPeel (w : World) (e : Ending) (w' : World) : Prop :=
  ∃ (n : Int) (v : Value) (l : List Mx), e = .returned (.tuple #[.int .i64 n, v]) ∧ -1 ≤ n ∧ n ≤ 30 ∧ l.length ≤ 20 ∧ OwnZ 40 2 w w' v l.length (l.flatMap mc)

theorem l72Mixed_from {w w1 w' : World} {b : Nat} {v : Value} {l : List Mx} (h1 : w'.ownsRow w1.heap.size 40 2 v l.length (l.flatMap mc)) (h2 : w1.grownBy w' (some b)) (h3 : Below w.heap.size w w1) (hb : w.heap.size ≤ b) : OwnZ 40 2 w w' v l.length (l.flatMap mc) :=
  ⟨World.ownsRow.mono h1 h3.size, h3.trans (grown_below h2 hb h3.size)⟩

theorem drawMixPeel (w : World) (A : Option Addr) (len cap : Nat) (h : Bytes w w.heap.size A len) (hl : len ≤ cap) (hm : cap ≤ maxLen) :
    Calls Try.prog 26 #[.slice A len cap] w (DrawnPeel w) := by
  go_enter Try.func26, Try.ntmps26
  go_wp2_with fail
  refine (open_any _ _ _ _ h hl hm).mono ?_
  rintro e w1 ⟨len1, cap1, rfl, hR, hB, hz⟩
  have HZ := Lib.hid hz
  clear hz
  go_wp2_with fail
  refine (text72 _ _ _ _ _ _ hR (by omega)).mono ?_
  rintro e w2 ⟨s, p', rfl, hs, hp0, hp1, hR1, hg⟩
  have hBB := (hB.trans (grown_below hg (Nat.le_refl _) (by rw [HZ.out]; omega)))
  clear hg hR
  go_wp2_with fail
  refine (blocks_any _ (by omega) _).mono ?_
  rintro e w2' ⟨rfl, rfl⟩
  go_wp2_with fail
  refine (picked _ _ _ _ _ _ _ hR1 (by omega) (by omega) (by omega)).mono ?_
  rintro e w3 ⟨u, rfl, u0, u1, hR3, hO3⟩
  have hB3 := hBB.trans (grown_below (only_grown hO3) (Nat.le_refl _) hBB.size)
  clear hR1 hO3 hBB
  by_cases e0 : u = 0
  · subst e0
    go_wp2_with fail
    refine (picked _ _ _ _ _ _ _ hR3 (by omega) (by omega) (by omega)).mono ?_
    rintro e w4 ⟨x, rfl, x0, x1, hR4, hO4⟩
    have hB4 := hB3.trans (grown_below (only_grown hO4) (Nat.le_refl _) hB3.size)
    clear hR3 hO4
    go_wp2_with fail
    refine (l72Mixed_any _ _ _ _ _ _ hR4 (by omega) s hs 14 (by omega) (by omega)).mono ?_
    rintro e w5 ⟨v, l, rfl, hl5, hO5, hg5⟩
    have R := Lib.hid (l72Mixed_from hO5 hg5 hB4 (Nat.le_refl _))
    clear hO5 hg5 hB4 hR4
    go_wp2
    go_ret2
    exact ⟨_, v, l, rfl, by omega, by omega, hl5, R.out⟩
  · have e0' : (u == 0) = false := by rw [beq_eq_false_iff_ne]; exact e0
    go_wp2_with fail
    refine (l72Mixed_any _ _ _ _ _ _ hR3 (by omega) s hs 14 (by omega) (by omega)).mono ?_
    rintro e w5 ⟨v, l, rfl, hl5, hO5, hg5⟩
    have R := Lib.hid (l72Mixed_from hO5 hg5 hB3 (Nat.le_refl _))
    clear hO5 hg5 hB3 hR3
    go_wp2
    go_ret2
    exact ⟨_, v, l, rfl, by omega, by omega, hl5, R.out⟩

theorem drawMixText (w : World) (A : Option Addr) (len cap : Nat) (h : Bytes w w.heap.size A len) (hl : len ≤ cap) (hm : cap ≤ maxLen) :
    Calls Try.prog 31 #[.slice A len cap] w (DrawnPeel w) := by
  go_enter Try.func31, Try.ntmps31
  go_wp2_with fail
  refine (open_any _ _ _ _ h hl hm).mono ?_
  rintro e w1 ⟨len1, cap1, rfl, hR, hB, hz⟩
  have HZ := Lib.hid hz
  clear hz
  go_wp2_with fail
  refine (text72 _ _ _ _ _ _ hR (by omega)).mono ?_
  rintro e w2 ⟨s, p', rfl, hs, hp0, hp1, hR1, hg⟩
  have hBB := (hB.trans (grown_below hg (Nat.le_refl _) (by rw [HZ.out]; omega)))
  clear hg hR
  go_wp2_with fail
  refine (picked _ _ _ _ _ _ _ hR1 (by omega) (by omega) (by omega)).mono ?_
  rintro e w3 ⟨u, rfl, u0, u1, hR3, hO3⟩
  have hB3 := hBB.trans (grown_below (only_grown hO3) (Nat.le_refl _) hBB.size)
  clear hR1 hO3 hBB
  by_cases e0 : u = 0
  · subst e0
    go_wp2_with fail
    refine (picked _ _ _ _ _ _ _ hR3 (by omega) (by omega) (by omega)).mono ?_
    rintro e w4 ⟨x, rfl, x0, x1, hR4, hO4⟩
    have hB4 := hB3.trans (grown_below (only_grown hO4) (Nat.le_refl _) hB3.size)
    clear hR3 hO4
    go_wp2_with fail
    refine (l72Mixed_any _ _ _ _ _ _ hR4 (by omega) s hs 18 (by omega) (by omega)).mono ?_
    rintro e w5 ⟨v, l, rfl, hl5, hO5, hg5⟩
    have R := Lib.hid (l72Mixed_from hO5 hg5 hB4 (Nat.le_refl _))
    clear hO5 hg5 hB4 hR4
    go_wp2
    go_ret2
    exact ⟨_, v, l, rfl, by omega, by omega, hl5, R.out⟩
  · have e0' : (u == 0) = false := by rw [beq_eq_false_iff_ne]; exact e0
    go_wp2_with fail
    refine (l72Mixed_any _ _ _ _ _ _ hR3 (by omega) s hs 18 (by omega) (by omega)).mono ?_
    rintro e w5 ⟨v, l, rfl, hl5, hO5, hg5⟩
    have R := Lib.hid (l72Mixed_from hO5 hg5 hB3 (Nat.le_refl _))
    clear hO5 hg5 hB3 hR3
    go_wp2
    go_ret2
    exact ⟨_, v, l, rfl, by omega, by omega, hl5, R.out⟩
end Go.Proofs.Ytokajeomojlinaa.ls
