/-
  Contracts of both RiverStart.
-/
import Derived.Test.YtckicpnnclbkpaaKrRepeat
import Derived.Test.YtckicpnnclbkpaaRegSkip
import Derived.Deep.Cut
namespace Go.Proofs.Ytckicpnnclbkpaa.kr
open Go.ChangeShapes Go.WideShapes Go.ChangeAt Go.RowKit
open Go.Proofs.Ytckicpnnclbkpaa.wd Go.Proofs.Ytckicpnnclbkpaa.nb Go.Proofs.Ytckicpnnclbkpaa.li Go.Proofs.Ytckicpnnclbkpaa.ow Go.Proofs.Ytckicpnnclbkpaa.rl Go.Proofs.Ytckicpnnclbkpaa.kp Go.Proofs.Ytckicpnnclbkpaa.sl Go.Proofs.Ytckicpnnclbkpaa.op

/-- the nodes at first -/
def startN (i : Nat) : Nk := ⟨stId i, inB i 0 3, ⟨#[]⟩, 0⟩
def starts (n : Nat) : List Nk := (List.range n).map startN
theorem starts_len (n : Nat) : (starts n).length = n := by simp [starts]
theorem starts_on (n : Nat) : starts (n + 1) = starts n ++ [startN n] := by simp [starts, List.range_succ]
theorem kr_bo {B B' : Nat} {W : World} {v u : Value} {l : List Nk} {l2 : List Bool} (h1 : OwnAt nkS 36 B W v l) (h2 : OwnAt boS 4 B' W u l2) : Apart v u := by
  intro b p q
  rcases h1.2 with ⟨rfl, _⟩ | ⟨g, cap, cur, rfl, _, hh, _⟩
  · cases p
  · rcases h2.2 with ⟨rfl, _⟩ | ⟨g', cap', cur', rfl, _, hh', _⟩
    · cases q
    · injection p with p
      injection q with q
      subst p
      subst q
      rw [hh] at hh'
      injection hh' with hh'
      injection hh' with _ ht
      exact absurd ht (by decide)
/-- while a run is made: the result's block, the run's, its lists -/
structure RvS (w wr : World) (b BL : Nat) (Kb K L : Value) (l : List Nk) (m : List Bool) : Prop where
  ltb : w.heap.size < b
  leL : w.heap.size < BL
  res : Blk wr w.heap.size 27 (rvC no no)
  box : Blk wr b 27 (rvC Kb L)
  bel : Below w.heap.size w wr
  row : OwnAt nkS 36 (b + 1) wr K l
  bos : OwnAt boS 4 BL wr L m
  off : L.ownBlock ≠ some b
section
variable {w wr W w6 : World} {b BL : Nat} {Kb K K' L L' : Value} {l l' : List Nk} {m m' : List Bool}
theorem RvS.later (M : RvS w wr b BL Kb K L l m) (hB : Below wr.heap.size wr W) : RvS w W b BL Kb K L l m :=
  ⟨M.ltb, M.leL, M.res.below hB M.res.lt, M.box.below hB M.box.lt, M.bel.trans (hB.mono M.bel.size), M.row.later hB, M.bos.later hB, M.off⟩
theorem RvS.appK (M : RvS w W b BL K K L l m) (h : OwnAt nkS 36 (b + 1) w6 K' l') (hg : W.grownBy w6 K.ownBlock) : RvS w w6 b BL K K' L l' m := by
  have hk : ∀ q, q < W.heap.size → q < b + 1 → w6.heap[q]? = W.heap[q]? := fun q h1 h2 => hg.block q h1 (fun e => by have := (M.row.lt e.symm).1; omega)
  exact ⟨M.ltb, M.leL, (hk _ M.res.lt (by have := M.ltb; omega)).trans M.res, (hk _ M.box.lt (by omega)).trans M.box, M.bel.trans ⟨hg.os, hg.tape, hg.output, hg.size, fun q hq => hk q (Nat.lt_of_lt_of_le hq M.bel.size) (by have := M.ltb; omega)⟩, h, M.bos.same fun q hq => hg.block q (M.bos.lt hq).2 (fun e => kr_bo M.row M.bos q e.symm hq), M.off⟩
theorem RvS.putK (M : RvS w W b BL K K' L l m) : RvS w (W.setCell ⟨b, 1, none⟩ K') b BL K' K' L l m :=
  ⟨M.ltb, M.leL, M.res.far (p := ⟨b, 1, none⟩) (by show w.heap.size ≠ b; have := M.ltb; omega) _, M.box.put 1 K', M.bel.setCell (p := ⟨b, 1, none⟩) (Nat.le_of_lt M.ltb) _, M.row.set (p := ⟨b, 1, none⟩) (Nat.lt_succ_self b) _, M.bos.same fun q hq => Below.heap_setCell W ⟨b, 1, none⟩ _ q (fun e => M.off (by rw [hq, e])), M.off⟩
theorem RvS.appL (M : RvS w W b (b + 1) K K L l m) (h : OwnAt boS 4 (b + 1) w6 L' m') (hg : W.grownBy w6 L.ownBlock) : RvS w (w6.setCell ⟨b, 2, none⟩ L') b (b + 1) K K L' l m' := by
  have hk : ∀ q, q < W.heap.size → q < b + 1 → w6.heap[q]? = W.heap[q]? := fun q h1 h2 => hg.block q h1 (fun e => by have := (M.bos.lt e.symm).1; omega)
  have hrow := M.row.same (W' := w6) fun q hq => hg.block q (M.row.lt hq).2 (fun e => kr_bo M.row M.bos q hq e.symm)
  exact ⟨M.ltb, M.leL, (show Blk w6 _ _ _ from (hk _ M.res.lt (by have := M.ltb; omega)).trans M.res).far (p := ⟨b, 2, none⟩) (by show w.heap.size ≠ b; have := M.ltb; omega) _, (show Blk w6 _ _ _ from (hk _ M.box.lt (by omega)).trans M.box).put 2 L', (M.bel.trans ⟨hg.os, hg.tape, hg.output, hg.size, fun q hq => hk q (Nat.lt_of_lt_of_le hq M.bel.size) (by have := M.ltb; omega)⟩).setCell (p := ⟨b, 2, none⟩) (Nat.le_of_lt M.ltb) _, hrow.set (p := ⟨b, 2, none⟩) (Nat.lt_succ_self b) _, h.set (p := ⟨b, 2, none⟩) (Nat.lt_succ_self b) _, fun e => by have := (h.lt e).1; omega⟩
theorem RvS.boxL (M : RvS w W b (b + 1) K K L l m) (hg : W.grownBy w6 L.ownBlock) : Blk w6 b 27 (rvC K L) :=
  (hg.block _ M.box.lt (fun e => by have := (M.bos.lt e.symm).1; omega)).trans M.box
end
abbrev put6r (V : World) (R : Nat) (a b c d e f : Value) : World := (((((V.setCell ⟨R, 0, none⟩ a).setCell ⟨R, 1, none⟩ b).setCell ⟨R, 2, none⟩ c).setCell ⟨R, 3, none⟩ d).setCell ⟨R, 4, none⟩ e).setCell ⟨R, 5, none⟩ f
theorem put6r_blk {V : World} {R : Nat} {t : TypeId} {a b c d e f a' b' c' d' e' f' : Value} (h : Blk V R t #[a, b, c, d, e, f]) : Blk (put6r V R a' b' c' d' e' f') R t #[a', b', c', d', e', f'] :=
  (((((h.put 0 a').put 1 b').put 2 c').put 3 d').put 4 e').put 5 f'
theorem put6r_below {w V : World} {B R : Nat} (hR : B ≤ R) (h : Below B w V) (a b c d e f : Value) : Below B w (put6r V R a b c d e f) :=
  (((((h.setCell (p := ⟨R, 0, none⟩) hR a).setCell (p := ⟨R, 1, none⟩) hR b).setCell (p := ⟨R, 2, none⟩) hR c).setCell (p := ⟨R, 3, none⟩) hR d).setCell (p := ⟨R, 4, none⟩) hR e).setCell (p := ⟨R, 5, none⟩) hR f
theorem put6r_own {α : Type} {S : Shape α} {t : TypeId} {B : Nat} {W : World} {v : Value} {l : List α} (h : OwnAt S t B W v l) {R : Nat} (hR : R < B) (a b c d e f : Value) : OwnAt S t B (put6r W R a b c d e f) v l :=
  (((((h.set (p := ⟨R, 0, none⟩) hR a).set (p := ⟨R, 1, none⟩) hR b).set (p := ⟨R, 2, none⟩) hR c).set (p := ⟨R, 3, none⟩) hR d).set (p := ⟨R, 4, none⟩) hR e).set (p := ⟨R, 5, none⟩) hR f
def RvP (w : World) (e : Ending) (w' : World) : Prop := ∃ K L, e = .returned (rvV K L) ∧ OwnAt nkS 36 w.heap.size w' K (starts 4) ∧ OwnAt boS 4 w.heap.size w' L [true, true, true] ∧ Apart K L ∧ Below w.heap.size w w'

set_option maxRecDepth 100000 in
set_option maxHeartbeats 3200000 in
theorem srv_start (w : World) : Calls Try.prog 4 #[] w (RvP w) := by
  obtain ⟨i0, hi, hz0, hz1, hz2⟩ := info_parts infoKr
  obtain ⟨j0, hj, hy0, hy1, hy2⟩ := info_parts infoBo
  have r0 := (Blk.new w 27 (rvC no no)).alloc (.cells (rvC no no) 27)
  have b0 := Blk.new (w.alloc (.cells (rvC no no) 27)) 27 (rvC no no)
  simp only [World.size_alloc] at b0
  have B0 := ((Below.refl w.heap.size w).alloc (Nat.le_refl _) (.cells (rvC no no) 27)).alloc (by simp) (.cells (rvC no no) 27)
  have M0 := Lib.hid (show RvS w ((w.alloc (.cells (rvC no no) 27)).alloc (.cells (rvC no no) 27)) (w.heap.size + 1) (w.heap.size + 1 + 1) no no no (starts 0) [] from ⟨by omega, by omega, r0, b0, B0, World.ownsRow_nil _ _ _ _, World.ownsRow_nil _ _ _ _, fun e => by cases e⟩)
  clear r0 b0 B0
  go_enter Try.func4, Try.ntmps4
  go_upto_region 2 with (fail)
  generalize (w.alloc (.cells (rvC no no) 27)).alloc (.cells (rvC no no) 27) = V at M0 ⊢
  generalize w.heap.size + 1 = b at M0 ⊢
  go_wp2
  go_loopw [2] (fun i wr => ∃ (j : Nat) (K : Value), j ≤ 4 ∧ i = .int .i64 j ∧ Hid (RvS w wr b (b + 1) K K no (starts j) [])) (fun i _ => 5 - (intOf i).toNat)
  case atStart => exact ⟨0, _, by omega, rfl, M0.out⟩
  case round =>
    clear M0
    obtain ⟨j, K, hj4, rfl, HM⟩ := hrel
    by_cases hjl : j < 4
    · go_upto_region 5 with (fail)
      obtain ⟨_, a1, _⟩ := six6 HM.out.box
      have h0 := (Below.refl wr.heap.size wr).drew
      refine wp_region_held_drew (S := (fun _ : World => True)) (by kernel_rfl) trivial (fun hHeld => ?_)
      clear hHeld
      replace HM := Lib.hid (HM.out.later h0)
      clear h0 a1
      generalize wr.drew = Z at HM ⊢
      obtain ⟨_, a1, _⟩ := six6 HM.out.box
      have hKd : True := trivial
      refine rs.w 0 9 ?_ rfl ?_ ?_
      rotate_left 1
      · (intro w' _; go_simp; try with_reducible rfl)
      simp only [rs.a, rs.b, rs.c]
      refine rs.w 2 11 ?_ rfl ?_ ?_
      rotate_left 1
      · (intro w' _; go_simp; try with_reducible rfl)
      simp only [rs.a, rs.b, rs.c]
      refine wpAnyH_ready (rs := [1, 3]) (by kernel_rfl) (by simp) ?_
      refine AllReadyH.cons rfl (fun K1 hK => ?_) (AllReadyH.cons rfl (fun K1 hK => ?_) AllReadyH.nil)
      · go_simp
        refine hK.out _ _ trivial (fun hHeld => ?_)
        clear hK K1 hHeld
        refine wpAnyH_ready (rs := [3]) (by kernel_rfl) (by simp) ?_
        refine AllReadyH.cons rfl (fun K1 hK => ?_) AllReadyH.nil
        go_simp
        refine (skr_start (j : Int) _).mono ?_
        rintro e w2 ⟨rfl, B2⟩
        replace HM := Lib.hid (HM.out.later B2)
        clear B2 a1
        obtain ⟨_, a1, _⟩ := six6 HM.out.box
        refine hK.out _ _ trivial (fun hHeld => ?_)
        clear hK K1 hHeld
        refine wpAnyH_ready (rs := [4]) (by kernel_rfl) (by simp) ?_
        refine AllReadyH.cons rfl (fun K1 hK => ?_) AllReadyH.nil
        have hA := (Below.refl w2.heap.size w2).alloc (Nat.le_refl _) (.cells #[.int .i64 (stId j), .bool (inB j 0 3), .string ⟨#[]⟩, .int .i64 0, .slice none 0 0] 36)
        have KX := Lib.hid (Blk.new w2 36 #[.int .i64 (stId j), .bool (inB j 0 3), .string ⟨#[]⟩, .int .i64 0, .slice none 0 0])
        replace HM := Lib.hid (HM.out.later hA)
        clear hA a1
        go_simp
        generalize w2.alloc (.cells #[.int .i64 (stId j), .bool (inB j 0 3), .string ⟨#[]⟩, .int .i64 0, .slice none 0 0] 36) = W at KX HM ⊢
        generalize w2.heap.size = g9 at KX ⊢
        obtain ⟨_, a1, _⟩ := six6 HM.out.box
        refine hK.out _ _ trivial (fun hHeld => ?_)
        clear hK K1 hHeld
        refine wpAnyH_ready (rs := [5]) (by kernel_rfl) (by simp) ?_
        refine AllReadyH.cons rfl (fun K1 hK => ?_) AllReadyH.nil
        have PA : PartR nkS W (some ⟨g9, 0, none⟩) 1 [startN j] := .inr ⟨g9, 0, rfl, fun q u hu => by
          have hb := KX.out.cell q
          rw [Nat.zero_add, hb]
          have hu' : (nkF (startN j))[q]? = some u := by simpa [nkS] using hu
          simpa [nkF, startN] using hu'⟩
        have R5 := HM.out.row
        have hres := HM.out.box.lt
        have hsl := starts_len j
        refine wp_append_recs nkS (by decide) (.tmp 10) (.tmp 13) 22 rfl (b + 1) 36 i0 _ 64 Try.underlying22 hi hz0 hz1 hz2 rfl K (starts j).length ((starts j).flatMap nkS.f) (by simp [Act.eval]) R5 (some ⟨g9, 0, none⟩) 1 1 [startN j] (by simp [Act.eval]) rfl PA (by rw [hsl]; show j + 1 ≤ maxLen; unfold maxLen; omega) (by rw [hsl]; show (j + 1) * 64 ≤ _; omega) (by omega) ?_
        intro v' w6 hown hgrow
        have hown' : OwnAt nkS 36 (b + 1) w6 v' (starts (j + 1)) := by
          rw [starts_on]
          unfold OwnAt
          rw [List.length_append, List.flatMap_append]
          exact hown
        obtain ⟨A9, c9, e9, _⟩ := hown'.sees
        rw [starts_len] at e9
        subst e9
        replace HM := Lib.hid (HM.out.appK hown' hgrow)
        clear PA R5 hres hsl hown hown' hgrow KX a1
        obtain ⟨_, a1, _⟩ := six6 HM.out.box
        have f1 := HM.out.box.frozen 1
        go_simp
        refine hK.out _ _ trivial (fun hHeld => ?_)
        clear hK K1 hHeld
        refine rs.w 6 15 ?_ rfl ?_ ?_
        rotate_left 1
        · (intro w' _; go_simp; try with_reducible rfl)
        simp only [rs.a, rs.b, rs.c]
        refine wpAnyH_ready (rs := [7]) (by kernel_rfl) (by simp) ?_
        refine AllReadyH.cons rfl (fun K1 hK => ?_) AllReadyH.nil
        go_simp
        replace HM := Lib.hid (HM.out.putK)
        clear a1 f1
        generalize w6.setCell ⟨b, 1, none⟩ (.slice A9 (j + 1) c9) = W7 at HM ⊢
        refine hK.out _ _ trivial (fun hHeld => ?_)
        clear hK K1 hHeld
        refine wpAnyH_done (by kernel_rfl) ?_ _
        clear hKd
        go_wp2
        first
          | exact ⟨⟨j + 1, _, by omega, by go_num, HM.out⟩, by simp [intOf]; omega⟩
          | (go_roundw
             case rel => exact ⟨j + 1, _, by omega, by go_num, HM.out⟩
             case measure => simp [intOf]; omega)
      · go_simp
        refine (skr_start (j : Int) _).mono ?_
        rintro e w2 ⟨rfl, B2⟩
        replace HM := Lib.hid (HM.out.later B2)
        clear B2 a1
        obtain ⟨_, a1, _⟩ := six6 HM.out.box
        refine hK.out _ _ trivial (fun hHeld => ?_)
        clear hK K1 hHeld
        refine wpAnyH_ready (rs := [1, 4]) (by kernel_rfl) (by simp) ?_
        refine AllReadyH.cons rfl (fun K1 hK => ?_) (AllReadyH.cons rfl (fun K1 hK => ?_) AllReadyH.nil)
        · go_simp
          refine hK.out _ _ trivial (fun hHeld => ?_)
          clear hK K1 hHeld
          refine wpAnyH_ready (rs := [4]) (by kernel_rfl) (by simp) ?_
          refine AllReadyH.cons rfl (fun K1 hK => ?_) AllReadyH.nil
          have hA := (Below.refl w2.heap.size w2).alloc (Nat.le_refl _) (.cells #[.int .i64 (stId j), .bool (inB j 0 3), .string ⟨#[]⟩, .int .i64 0, .slice none 0 0] 36)
          have KX := Lib.hid (Blk.new w2 36 #[.int .i64 (stId j), .bool (inB j 0 3), .string ⟨#[]⟩, .int .i64 0, .slice none 0 0])
          replace HM := Lib.hid (HM.out.later hA)
          clear hA a1
          go_simp
          generalize w2.alloc (.cells #[.int .i64 (stId j), .bool (inB j 0 3), .string ⟨#[]⟩, .int .i64 0, .slice none 0 0] 36) = W at KX HM ⊢
          generalize w2.heap.size = g9 at KX ⊢
          obtain ⟨_, a1, _⟩ := six6 HM.out.box
          refine hK.out _ _ trivial (fun hHeld => ?_)
          clear hK K1 hHeld
          refine wpAnyH_ready (rs := [5]) (by kernel_rfl) (by simp) ?_
          refine AllReadyH.cons rfl (fun K1 hK => ?_) AllReadyH.nil
          have PA : PartR nkS W (some ⟨g9, 0, none⟩) 1 [startN j] := .inr ⟨g9, 0, rfl, fun q u hu => by
            have hb := KX.out.cell q
            rw [Nat.zero_add, hb]
            have hu' : (nkF (startN j))[q]? = some u := by simpa [nkS] using hu
            simpa [nkF, startN] using hu'⟩
          have R5 := HM.out.row
          have hres := HM.out.box.lt
          have hsl := starts_len j
          refine wp_append_recs nkS (by decide) (.tmp 10) (.tmp 13) 22 rfl (b + 1) 36 i0 _ 64 Try.underlying22 hi hz0 hz1 hz2 rfl K (starts j).length ((starts j).flatMap nkS.f) (by simp [Act.eval]) R5 (some ⟨g9, 0, none⟩) 1 1 [startN j] (by simp [Act.eval]) rfl PA (by rw [hsl]; show j + 1 ≤ maxLen; unfold maxLen; omega) (by rw [hsl]; show (j + 1) * 64 ≤ _; omega) (by omega) ?_
          intro v' w6 hown hgrow
          have hown' : OwnAt nkS 36 (b + 1) w6 v' (starts (j + 1)) := by
            rw [starts_on]
            unfold OwnAt
            rw [List.length_append, List.flatMap_append]
            exact hown
          obtain ⟨A9, c9, e9, _⟩ := hown'.sees
          rw [starts_len] at e9
          subst e9
          replace HM := Lib.hid (HM.out.appK hown' hgrow)
          clear PA R5 hres hsl hown hown' hgrow KX a1
          obtain ⟨_, a1, _⟩ := six6 HM.out.box
          have f1 := HM.out.box.frozen 1
          go_simp
          refine hK.out _ _ trivial (fun hHeld => ?_)
          clear hK K1 hHeld
          refine rs.w 6 15 ?_ rfl ?_ ?_
          rotate_left 1
          · (intro w' _; go_simp; try with_reducible rfl)
          simp only [rs.a, rs.b, rs.c]
          refine wpAnyH_ready (rs := [7]) (by kernel_rfl) (by simp) ?_
          refine AllReadyH.cons rfl (fun K1 hK => ?_) AllReadyH.nil
          go_simp
          replace HM := Lib.hid (HM.out.putK)
          clear a1 f1
          generalize w6.setCell ⟨b, 1, none⟩ (.slice A9 (j + 1) c9) = W7 at HM ⊢
          refine hK.out _ _ trivial (fun hHeld => ?_)
          clear hK K1 hHeld
          refine wpAnyH_done (by kernel_rfl) ?_ _
          clear hKd
          go_wp2
          first
            | exact ⟨⟨j + 1, _, by omega, by go_num, HM.out⟩, by simp [intOf]; omega⟩
            | (go_roundw
               case rel => exact ⟨j + 1, _, by omega, by go_num, HM.out⟩
               case measure => simp [intOf]; omega)
        · have hA := (Below.refl w2.heap.size w2).alloc (Nat.le_refl _) (.cells #[.int .i64 (stId j), .bool (inB j 0 3), .string ⟨#[]⟩, .int .i64 0, .slice none 0 0] 36)
          have KX := Lib.hid (Blk.new w2 36 #[.int .i64 (stId j), .bool (inB j 0 3), .string ⟨#[]⟩, .int .i64 0, .slice none 0 0])
          replace HM := Lib.hid (HM.out.later hA)
          clear hA a1
          go_simp
          generalize w2.alloc (.cells #[.int .i64 (stId j), .bool (inB j 0 3), .string ⟨#[]⟩, .int .i64 0, .slice none 0 0] 36) = W at KX HM ⊢
          generalize w2.heap.size = g9 at KX ⊢
          obtain ⟨_, a1, _⟩ := six6 HM.out.box
          refine hK.out _ _ trivial (fun hHeld => ?_)
          clear hK K1 hHeld
          refine wpAnyH_ready (rs := [1]) (by kernel_rfl) (by simp) ?_
          refine AllReadyH.cons rfl (fun K1 hK => ?_) AllReadyH.nil
          go_simp
          refine hK.out _ _ trivial (fun hHeld => ?_)
          clear hK K1 hHeld
          refine wpAnyH_ready (rs := [5]) (by kernel_rfl) (by simp) ?_
          refine AllReadyH.cons rfl (fun K1 hK => ?_) AllReadyH.nil
          have PA : PartR nkS W (some ⟨g9, 0, none⟩) 1 [startN j] := .inr ⟨g9, 0, rfl, fun q u hu => by
            have hb := KX.out.cell q
            rw [Nat.zero_add, hb]
            have hu' : (nkF (startN j))[q]? = some u := by simpa [nkS] using hu
            simpa [nkF, startN] using hu'⟩
          have R5 := HM.out.row
          have hres := HM.out.box.lt
          have hsl := starts_len j
          refine wp_append_recs nkS (by decide) (.tmp 10) (.tmp 13) 22 rfl (b + 1) 36 i0 _ 64 Try.underlying22 hi hz0 hz1 hz2 rfl K (starts j).length ((starts j).flatMap nkS.f) (by simp [Act.eval]) R5 (some ⟨g9, 0, none⟩) 1 1 [startN j] (by simp [Act.eval]) rfl PA (by rw [hsl]; show j + 1 ≤ maxLen; unfold maxLen; omega) (by rw [hsl]; show (j + 1) * 64 ≤ _; omega) (by omega) ?_
          intro v' w6 hown hgrow
          have hown' : OwnAt nkS 36 (b + 1) w6 v' (starts (j + 1)) := by
            rw [starts_on]
            unfold OwnAt
            rw [List.length_append, List.flatMap_append]
            exact hown
          obtain ⟨A9, c9, e9, _⟩ := hown'.sees
          rw [starts_len] at e9
          subst e9
          replace HM := Lib.hid (HM.out.appK hown' hgrow)
          clear PA R5 hres hsl hown hown' hgrow KX a1
          obtain ⟨_, a1, _⟩ := six6 HM.out.box
          have f1 := HM.out.box.frozen 1
          go_simp
          refine hK.out _ _ trivial (fun hHeld => ?_)
          clear hK K1 hHeld
          refine rs.w 6 15 ?_ rfl ?_ ?_
          rotate_left 1
          · (intro w' _; go_simp; try with_reducible rfl)
          simp only [rs.a, rs.b, rs.c]
          refine wpAnyH_ready (rs := [7]) (by kernel_rfl) (by simp) ?_
          refine AllReadyH.cons rfl (fun K1 hK => ?_) AllReadyH.nil
          go_simp
          replace HM := Lib.hid (HM.out.putK)
          clear a1 f1
          generalize w6.setCell ⟨b, 1, none⟩ (.slice A9 (j + 1) c9) = W7 at HM ⊢
          refine hK.out _ _ trivial (fun hHeld => ?_)
          clear hK K1 hHeld
          refine wpAnyH_done (by kernel_rfl) ?_ _
          clear hKd
          go_wp2
          first
            | exact ⟨⟨j + 1, _, by omega, by go_num, HM.out⟩, by simp [intOf]; omega⟩
            | (go_roundw
               case rel => exact ⟨j + 1, _, by omega, by go_num, HM.out⟩
               case measure => simp [intOf]; omega)
    · obtain rfl : j = 4 := by omega
      have M1 := Lib.hid (show RvS w wr b (b + 1) K K no (starts 4) [] from HM.out)
      clear HM
      go_upto_region 6 with (fail)
      go_wp2
      go_loopw [3] (fun i wr => ∃ (p : Nat) (L : Value) (m : List Bool), p ≤ 3 ∧ i = .int .i64 p ∧ Hid (m = List.replicate p true) ∧ Hid (RvS w wr b (b + 1) K K L (starts 4) m)) (fun i _ => 4 - (intOf i).toNat)
      case atStart => exact ⟨0, _, _, by omega, rfl, rfl, M1.out⟩
      case round =>
        clear M1
        obtain ⟨p, L, m, hp, rfl, Hm, HM⟩ := hrel
        by_cases hpl : p < 3
        · have hlt : (p : Int) + 1 < 4 := by omega
          obtain ⟨Al, cl, rfl, _⟩ := HM.out.bos.sees
          obtain ⟨_, _, a2, _⟩ := six6 HM.out.box
          have hA := (Below.refl wr.heap.size wr).alloc (Nat.le_refl _) (.cells #[.bool true] 4)
          have M2 := HM.out.later hA
          have R5 := M2.bos
          have hb2 := HM.out.box.lt
          have hml : m.length ≤ 3 := by rw [Hm.out, List.length_replicate]; omega
          have PA : PartR boS (wr.alloc (.cells #[.bool true] 4)) (some ⟨wr.heap.size, 0, none⟩) 1 [true] := .inr ⟨wr.heap.size, 0, rfl, fun q u hu => by
            have hb := (Blk.new wr 4 #[.bool true]).cell q
            rw [Nat.zero_add, hb]
            have hu' : (boF true)[q]? = some u := by simpa [boS] using hu
            simpa [boF] using hu'⟩
          go_wp2_with (at_builtin; refine wpList_append_recs boS (by decide) rfl _ _ 23 rfl (b + 1) 4 j0 _ 1 Try.underlying23 hj hy0 hy1 hy2 rfl _ m.length (m.flatMap boS.f) rfl R5 _ _ _ [true] rfl rfl PA ?e3 ?e4 ?e5 ?_)
          case e3 => show m.length + 1 ≤ maxLen; unfold maxLen; omega
          case e4 => show (m.length + 1) * 1 ≤ _; omega
          case e5 => simp; omega
          intro v' w6 hown hgrow
          have hown' : OwnAt boS 4 (b + 1) w6 v' (m ++ [true]) := by
            unfold OwnAt
            rw [List.length_append, List.flatMap_append]
            exact hown
          obtain ⟨A9, c9, e9, _⟩ := hown'.sees
          have hm6 : m ++ [true] = List.replicate (p + 1) true := by rw [Hm.out, ← List.replicate_succ']
          rw [hm6, List.length_replicate] at e9
          subst e9
          have HM6 := Lib.hid (M2.appL hown' hgrow)
          have Hm6 := Lib.hid hm6
          have kb := M2.boxL hgrow
          obtain ⟨_, _, b2, _⟩ := six6 kb
          have f2 := kb.frozen 2
          clear a2 hA M2 R5 hb2 hml PA hown hown' hgrow hm6 kb HM Hm
          go_wp2
          exact ⟨⟨.int .i64 ((p + 1 : Nat) : Int), _, _, _, _, _, _, _, _, _, _, ⟨p + 1, _, _, by omega, rfl, Hm6.out, HM6.out⟩, rfl⟩, by simp [intOf]; omega⟩
        · obtain rfl : p = 3 := by omega
          have HM' := Lib.hid (show RvS w wr b (b + 1) K K L (starts 4) [true, true, true] from by have h := HM.out; rw [Hm.out] at h; exact h)
          clear HM
          have HM := HM'
          clear HM'
          obtain ⟨r0, r1, r2, r3, r4, r5⟩ := six6 HM.out.res
          obtain ⟨a0, a1, a2, a3, a4, a5⟩ := six6 HM.out.box
          have g0 := HM.out.res.frozen 0
          have g1 := HM.out.res.frozen 1
          have g2 := HM.out.res.frozen 2
          have g3 := HM.out.res.frozen 3
          have g4 := HM.out.res.frozen 4
          have g5 := HM.out.res.frozen 5
          obtain ⟨Ak, ck, rfl, _⟩ := HM.out.row.sees
          obtain ⟨Al, cl, rfl, _⟩ := HM.out.bos.sees
          have HC := Lib.hid (put6r_blk (a' := .int .i64 0) (b' := .slice Ak (starts 4).length ck) (c' := .slice Al 3 cl) (d' := .slice none 0 0) (e' := .slice none 0 0) (f' := .slice none 0 0) HM.out.res)
          have HE := Lib.hid (put6r_below (B := w.heap.size) (R := w.heap.size) (Nat.le_refl _) HM.out.bel (.int .i64 0) (.slice Ak (starts 4).length ck) (.slice Al 3 cl) (.slice none 0 0) (.slice none 0 0) (.slice none 0 0))
          have HA := Lib.hid (put6r_own HM.out.row (R := w.heap.size) (by have := HM.out.ltb; omega) (.int .i64 0) (.slice Ak (starts 4).length ck) (.slice Al 3 cl) (.slice none 0 0) (.slice none 0 0) (.slice none 0 0))
          have HL := Lib.hid (put6r_own HM.out.bos (R := w.heap.size) HM.out.leL (.int .i64 0) (.slice Ak (starts 4).length ck) (.slice Al 3 cl) (.slice none 0 0) (.slice none 0 0) (.slice none 0 0))
          go_wp2
          obtain ⟨x0, x1, x2, x3, x4, x5⟩ := six6 HC.out
          exact bodyPost_ret (v := rvV (.slice Ak (starts 4).length ck) (.slice Al 3 cl)) (by simp [results, Try.results4, go_sem, x0, x1, x2, x3, x4, x5]) rfl ⟨_, _, rfl, HA.out.down (by have := HM.out.ltb; omega), HL.out.down (Nat.le_of_lt HM.out.leL), kr_bo HM.out.row HM.out.bos, HE.out⟩

set_option maxRecDepth 100000 in
set_option maxHeartbeats 3200000 in
theorem irv_start (w : World) : Calls Try.prog 5 #[] w (RvP w) := by
  obtain ⟨i0, hi, hz0, hz1, hz2⟩ := info_parts infoKr
  have r0 := Lib.hid ((Blk.new w 27 (rvC no no)).alloc (.cells #[.bool true] 4))
  have b0 := Blk.new (w.alloc (.cells (rvC no no) 27)) 4 #[.bool true]
  have B0 := Lib.hid (((Below.refl w.heap.size w).alloc (Nat.le_refl _) (.cells (rvC no no) 27)).alloc (by simp) (.cells #[.bool true] 4))
  have HRp := Lib.hid (rep3 _ _ b0)
  simp only [World.size_alloc] at HRp
  unfold RepP at HRp
  go_enter Try.func5, Try.ntmps5
  go_wp2_with fail
  generalize (w.alloc (.cells (rvC no no) 27)).alloc (.cells #[.bool true] 4) = V at r0 B0 HRp ⊢
  refine HRp.out.mono ?_
  rintro e w1 ⟨L, rfl, o⟩
  obtain ⟨Al, cl, rfl, _⟩ := o.sees
  have hA := (Below.refl w1.heap.size w1).alloc (Nat.le_refl _) (.cells (rvC no (.slice Al 3 cl)) 27)
  have M0 := Lib.hid (show RvS w (w1.alloc (.cells (rvC no (.slice Al 3 cl)) 27)) w1.heap.size V.heap.size no no (.slice Al 3 cl) (starts 0) [true, true, true] from
    ⟨Nat.lt_of_lt_of_le r0.out.lt o.2.size, r0.out.lt, ((r0.out.below o.2 r0.out.lt).below hA (r0.out.below o.2 r0.out.lt).lt), Blk.new w1 _ _, B0.out.trans ((o.2.trans (hA.mono o.2.size)).mono B0.out.size), World.ownsRow_nil _ _ _ _, OwnAt.later (B := V.heap.size) o.1 hA, fun e => by have := (o.lt e).2; omega⟩)
  clear o hA r0 B0 HRp b0
  go_upto_region 2 with (fail)
  generalize w1.alloc (.cells (rvC no (.slice Al 3 cl)) 27) = V1 at M0 ⊢
  generalize w1.heap.size = b at M0 ⊢
  generalize V.heap.size = BL at M0
  go_wp2
  go_loopw [6] (fun i wr => ∃ (j : Nat) (K : Value), j ≤ 4 ∧ i = .int .i64 j ∧ Hid (RvS w wr b BL K K (.slice Al 3 cl) (starts j) [true, true, true])) (fun i _ => 5 - (intOf i).toNat)
  case atStart => exact ⟨0, _, by omega, rfl, M0.out⟩
  case round =>
    clear M0
    obtain ⟨j, K, hj4, rfl, HM⟩ := hrel
    by_cases hjl : j < 4
    · go_upto_region 5 with (fail)
      obtain ⟨_, a1, _⟩ := six6 HM.out.box
      have h0 := (Below.refl wr.heap.size wr).drew
      refine wp_region_held_drew (S := (fun _ : World => True)) (by kernel_rfl) trivial (fun hHeld => ?_)
      clear hHeld
      replace HM := Lib.hid (HM.out.later h0)
      clear h0 a1
      generalize wr.drew = Z at HM ⊢
      obtain ⟨_, a1, _⟩ := six6 HM.out.box
      have hKd : True := trivial
      refine rs.w 0 9 ?_ rfl ?_ ?_
      rotate_left 1
      · (intro w' _; go_simp; try with_reducible rfl)
      simp only [rs.a, rs.b, rs.c]
      refine rs.w 2 11 ?_ rfl ?_ ?_
      rotate_left 1
      · (intro w' _; go_simp; try with_reducible rfl)
      simp only [rs.a, rs.b, rs.c]
      refine wpAnyH_ready (rs := [1, 3]) (by kernel_rfl) (by simp) ?_
      refine AllReadyH.cons rfl (fun K1 hK => ?_) (AllReadyH.cons rfl (fun K1 hK => ?_) AllReadyH.nil)
      · go_simp
        refine hK.out _ _ trivial (fun hHeld => ?_)
        clear hK K1 hHeld
        refine wpAnyH_ready (rs := [3]) (by kernel_rfl) (by simp) ?_
        refine AllReadyH.cons rfl (fun K1 hK => ?_) AllReadyH.nil
        go_simp
        refine (ikr_start (j : Int) _).mono ?_
        rintro e w2 ⟨rfl, B2⟩
        replace HM := Lib.hid (HM.out.later B2)
        clear B2 a1
        obtain ⟨_, a1, _⟩ := six6 HM.out.box
        refine hK.out _ _ trivial (fun hHeld => ?_)
        clear hK K1 hHeld
        refine wpAnyH_ready (rs := [4]) (by kernel_rfl) (by simp) ?_
        refine AllReadyH.cons rfl (fun K1 hK => ?_) AllReadyH.nil
        have hA := (Below.refl w2.heap.size w2).alloc (Nat.le_refl _) (.cells #[.int .i64 (stId j), .bool (inB j 0 3), .string ⟨#[]⟩, .int .i64 0, .slice none 0 0] 36)
        have KX := Lib.hid (Blk.new w2 36 #[.int .i64 (stId j), .bool (inB j 0 3), .string ⟨#[]⟩, .int .i64 0, .slice none 0 0])
        replace HM := Lib.hid (HM.out.later hA)
        clear hA a1
        go_simp
        generalize w2.alloc (.cells #[.int .i64 (stId j), .bool (inB j 0 3), .string ⟨#[]⟩, .int .i64 0, .slice none 0 0] 36) = W at KX HM ⊢
        generalize w2.heap.size = g9 at KX ⊢
        obtain ⟨_, a1, _⟩ := six6 HM.out.box
        refine hK.out _ _ trivial (fun hHeld => ?_)
        clear hK K1 hHeld
        refine wpAnyH_ready (rs := [5]) (by kernel_rfl) (by simp) ?_
        refine AllReadyH.cons rfl (fun K1 hK => ?_) AllReadyH.nil
        have PA : PartR nkS W (some ⟨g9, 0, none⟩) 1 [startN j] := .inr ⟨g9, 0, rfl, fun q u hu => by
          have hb := KX.out.cell q
          rw [Nat.zero_add, hb]
          have hu' : (nkF (startN j))[q]? = some u := by simpa [nkS] using hu
          simpa [nkF, startN] using hu'⟩
        have R5 := HM.out.row
        have hres := HM.out.box.lt
        have hsl := starts_len j
        refine wp_append_recs nkS (by decide) (.tmp 10) (.tmp 13) 22 rfl (b + 1) 36 i0 _ 64 Try.underlying22 hi hz0 hz1 hz2 rfl K (starts j).length ((starts j).flatMap nkS.f) (by simp [Act.eval]) R5 (some ⟨g9, 0, none⟩) 1 1 [startN j] (by simp [Act.eval]) rfl PA (by rw [hsl]; show j + 1 ≤ maxLen; unfold maxLen; omega) (by rw [hsl]; show (j + 1) * 64 ≤ _; omega) (by omega) ?_
        intro v' w6 hown hgrow
        have hown' : OwnAt nkS 36 (b + 1) w6 v' (starts (j + 1)) := by
          rw [starts_on]
          unfold OwnAt
          rw [List.length_append, List.flatMap_append]
          exact hown
        obtain ⟨A9, c9, e9, _⟩ := hown'.sees
        rw [starts_len] at e9
        subst e9
        replace HM := Lib.hid (HM.out.appK hown' hgrow)
        clear PA R5 hres hsl hown hown' hgrow KX a1
        obtain ⟨_, a1, _⟩ := six6 HM.out.box
        have f1 := HM.out.box.frozen 1
        go_simp
        refine hK.out _ _ trivial (fun hHeld => ?_)
        clear hK K1 hHeld
        refine rs.w 6 15 ?_ rfl ?_ ?_
        rotate_left 1
        · (intro w' _; go_simp; try with_reducible rfl)
        simp only [rs.a, rs.b, rs.c]
        refine wpAnyH_ready (rs := [7]) (by kernel_rfl) (by simp) ?_
        refine AllReadyH.cons rfl (fun K1 hK => ?_) AllReadyH.nil
        go_simp
        replace HM := Lib.hid (HM.out.putK)
        clear a1 f1
        generalize w6.setCell ⟨b, 1, none⟩ (.slice A9 (j + 1) c9) = W7 at HM ⊢
        refine hK.out _ _ trivial (fun hHeld => ?_)
        clear hK K1 hHeld
        refine wpAnyH_done (by kernel_rfl) ?_ _
        clear hKd
        go_wp2
        first
          | exact ⟨⟨j + 1, _, by omega, by go_num, HM.out⟩, by simp [intOf]; omega⟩
          | (go_roundw
             case rel => exact ⟨j + 1, _, by omega, by go_num, HM.out⟩
             case measure => simp [intOf]; omega)
      · go_simp
        refine (ikr_start (j : Int) _).mono ?_
        rintro e w2 ⟨rfl, B2⟩
        replace HM := Lib.hid (HM.out.later B2)
        clear B2 a1
        obtain ⟨_, a1, _⟩ := six6 HM.out.box
        refine hK.out _ _ trivial (fun hHeld => ?_)
        clear hK K1 hHeld
        refine wpAnyH_ready (rs := [1, 4]) (by kernel_rfl) (by simp) ?_
        refine AllReadyH.cons rfl (fun K1 hK => ?_) (AllReadyH.cons rfl (fun K1 hK => ?_) AllReadyH.nil)
        · go_simp
          refine hK.out _ _ trivial (fun hHeld => ?_)
          clear hK K1 hHeld
          refine wpAnyH_ready (rs := [4]) (by kernel_rfl) (by simp) ?_
          refine AllReadyH.cons rfl (fun K1 hK => ?_) AllReadyH.nil
          have hA := (Below.refl w2.heap.size w2).alloc (Nat.le_refl _) (.cells #[.int .i64 (stId j), .bool (inB j 0 3), .string ⟨#[]⟩, .int .i64 0, .slice none 0 0] 36)
          have KX := Lib.hid (Blk.new w2 36 #[.int .i64 (stId j), .bool (inB j 0 3), .string ⟨#[]⟩, .int .i64 0, .slice none 0 0])
          replace HM := Lib.hid (HM.out.later hA)
          clear hA a1
          go_simp
          generalize w2.alloc (.cells #[.int .i64 (stId j), .bool (inB j 0 3), .string ⟨#[]⟩, .int .i64 0, .slice none 0 0] 36) = W at KX HM ⊢
          generalize w2.heap.size = g9 at KX ⊢
          obtain ⟨_, a1, _⟩ := six6 HM.out.box
          refine hK.out _ _ trivial (fun hHeld => ?_)
          clear hK K1 hHeld
          refine wpAnyH_ready (rs := [5]) (by kernel_rfl) (by simp) ?_
          refine AllReadyH.cons rfl (fun K1 hK => ?_) AllReadyH.nil
          have PA : PartR nkS W (some ⟨g9, 0, none⟩) 1 [startN j] := .inr ⟨g9, 0, rfl, fun q u hu => by
            have hb := KX.out.cell q
            rw [Nat.zero_add, hb]
            have hu' : (nkF (startN j))[q]? = some u := by simpa [nkS] using hu
            simpa [nkF, startN] using hu'⟩
          have R5 := HM.out.row
          have hres := HM.out.box.lt
          have hsl := starts_len j
          refine wp_append_recs nkS (by decide) (.tmp 10) (.tmp 13) 22 rfl (b + 1) 36 i0 _ 64 Try.underlying22 hi hz0 hz1 hz2 rfl K (starts j).length ((starts j).flatMap nkS.f) (by simp [Act.eval]) R5 (some ⟨g9, 0, none⟩) 1 1 [startN j] (by simp [Act.eval]) rfl PA (by rw [hsl]; show j + 1 ≤ maxLen; unfold maxLen; omega) (by rw [hsl]; show (j + 1) * 64 ≤ _; omega) (by omega) ?_
          intro v' w6 hown hgrow
          have hown' : OwnAt nkS 36 (b + 1) w6 v' (starts (j + 1)) := by
            rw [starts_on]
            unfold OwnAt
            rw [List.length_append, List.flatMap_append]
            exact hown
          obtain ⟨A9, c9, e9, _⟩ := hown'.sees
          rw [starts_len] at e9
          subst e9
          replace HM := Lib.hid (HM.out.appK hown' hgrow)
          clear PA R5 hres hsl hown hown' hgrow KX a1
          obtain ⟨_, a1, _⟩ := six6 HM.out.box
          have f1 := HM.out.box.frozen 1
          go_simp
          refine hK.out _ _ trivial (fun hHeld => ?_)
          clear hK K1 hHeld
          refine rs.w 6 15 ?_ rfl ?_ ?_
          rotate_left 1
          · (intro w' _; go_simp; try with_reducible rfl)
          simp only [rs.a, rs.b, rs.c]
          refine wpAnyH_ready (rs := [7]) (by kernel_rfl) (by simp) ?_
          refine AllReadyH.cons rfl (fun K1 hK => ?_) AllReadyH.nil
          go_simp
          replace HM := Lib.hid (HM.out.putK)
          clear a1 f1
          generalize w6.setCell ⟨b, 1, none⟩ (.slice A9 (j + 1) c9) = W7 at HM ⊢
          refine hK.out _ _ trivial (fun hHeld => ?_)
          clear hK K1 hHeld
          refine wpAnyH_done (by kernel_rfl) ?_ _
          clear hKd
          go_wp2
          first
            | exact ⟨⟨j + 1, _, by omega, by go_num, HM.out⟩, by simp [intOf]; omega⟩
            | (go_roundw
               case rel => exact ⟨j + 1, _, by omega, by go_num, HM.out⟩
               case measure => simp [intOf]; omega)
        · have hA := (Below.refl w2.heap.size w2).alloc (Nat.le_refl _) (.cells #[.int .i64 (stId j), .bool (inB j 0 3), .string ⟨#[]⟩, .int .i64 0, .slice none 0 0] 36)
          have KX := Lib.hid (Blk.new w2 36 #[.int .i64 (stId j), .bool (inB j 0 3), .string ⟨#[]⟩, .int .i64 0, .slice none 0 0])
          replace HM := Lib.hid (HM.out.later hA)
          clear hA a1
          go_simp
          generalize w2.alloc (.cells #[.int .i64 (stId j), .bool (inB j 0 3), .string ⟨#[]⟩, .int .i64 0, .slice none 0 0] 36) = W at KX HM ⊢
          generalize w2.heap.size = g9 at KX ⊢
          obtain ⟨_, a1, _⟩ := six6 HM.out.box
          refine hK.out _ _ trivial (fun hHeld => ?_)
          clear hK K1 hHeld
          refine wpAnyH_ready (rs := [1]) (by kernel_rfl) (by simp) ?_
          refine AllReadyH.cons rfl (fun K1 hK => ?_) AllReadyH.nil
          go_simp
          refine hK.out _ _ trivial (fun hHeld => ?_)
          clear hK K1 hHeld
          refine wpAnyH_ready (rs := [5]) (by kernel_rfl) (by simp) ?_
          refine AllReadyH.cons rfl (fun K1 hK => ?_) AllReadyH.nil
          have PA : PartR nkS W (some ⟨g9, 0, none⟩) 1 [startN j] := .inr ⟨g9, 0, rfl, fun q u hu => by
            have hb := KX.out.cell q
            rw [Nat.zero_add, hb]
            have hu' : (nkF (startN j))[q]? = some u := by simpa [nkS] using hu
            simpa [nkF, startN] using hu'⟩
          have R5 := HM.out.row
          have hres := HM.out.box.lt
          have hsl := starts_len j
          refine wp_append_recs nkS (by decide) (.tmp 10) (.tmp 13) 22 rfl (b + 1) 36 i0 _ 64 Try.underlying22 hi hz0 hz1 hz2 rfl K (starts j).length ((starts j).flatMap nkS.f) (by simp [Act.eval]) R5 (some ⟨g9, 0, none⟩) 1 1 [startN j] (by simp [Act.eval]) rfl PA (by rw [hsl]; show j + 1 ≤ maxLen; unfold maxLen; omega) (by rw [hsl]; show (j + 1) * 64 ≤ _; omega) (by omega) ?_
          intro v' w6 hown hgrow
          have hown' : OwnAt nkS 36 (b + 1) w6 v' (starts (j + 1)) := by
            rw [starts_on]
            unfold OwnAt
            rw [List.length_append, List.flatMap_append]
            exact hown
          obtain ⟨A9, c9, e9, _⟩ := hown'.sees
          rw [starts_len] at e9
          subst e9
          replace HM := Lib.hid (HM.out.appK hown' hgrow)
          clear PA R5 hres hsl hown hown' hgrow KX a1
          obtain ⟨_, a1, _⟩ := six6 HM.out.box
          have f1 := HM.out.box.frozen 1
          go_simp
          refine hK.out _ _ trivial (fun hHeld => ?_)
          clear hK K1 hHeld
          refine rs.w 6 15 ?_ rfl ?_ ?_
          rotate_left 1
          · (intro w' _; go_simp; try with_reducible rfl)
          simp only [rs.a, rs.b, rs.c]
          refine wpAnyH_ready (rs := [7]) (by kernel_rfl) (by simp) ?_
          refine AllReadyH.cons rfl (fun K1 hK => ?_) AllReadyH.nil
          go_simp
          replace HM := Lib.hid (HM.out.putK)
          clear a1 f1
          generalize w6.setCell ⟨b, 1, none⟩ (.slice A9 (j + 1) c9) = W7 at HM ⊢
          refine hK.out _ _ trivial (fun hHeld => ?_)
          clear hK K1 hHeld
          refine wpAnyH_done (by kernel_rfl) ?_ _
          clear hKd
          go_wp2
          first
            | exact ⟨⟨j + 1, _, by omega, by go_num, HM.out⟩, by simp [intOf]; omega⟩
            | (go_roundw
               case rel => exact ⟨j + 1, _, by omega, by go_num, HM.out⟩
               case measure => simp [intOf]; omega)
    · obtain rfl : j = 4 := by omega
      obtain ⟨r0, r1, r2, r3, r4, r5⟩ := six6 HM.out.res
      obtain ⟨a0, a1, a2, a3, a4, a5⟩ := six6 HM.out.box
      have g0 := HM.out.res.frozen 0
      have g1 := HM.out.res.frozen 1
      have g2 := HM.out.res.frozen 2
      have g3 := HM.out.res.frozen 3
      have g4 := HM.out.res.frozen 4
      have g5 := HM.out.res.frozen 5
      obtain ⟨Ak, ck, rfl, _⟩ := HM.out.row.sees
      have HC := Lib.hid (put6r_blk (a' := .int .i64 0) (b' := .slice Ak (starts 4).length ck) (c' := .slice Al 3 cl) (d' := .slice none 0 0) (e' := .slice none 0 0) (f' := .slice none 0 0) HM.out.res)
      have HE := Lib.hid (put6r_below (B := w.heap.size) (R := w.heap.size) (Nat.le_refl _) HM.out.bel (.int .i64 0) (.slice Ak (starts 4).length ck) (.slice Al 3 cl) (.slice none 0 0) (.slice none 0 0) (.slice none 0 0))
      have HA := Lib.hid (put6r_own HM.out.row (R := w.heap.size) (by have := HM.out.ltb; omega) (.int .i64 0) (.slice Ak (starts 4).length ck) (.slice Al 3 cl) (.slice none 0 0) (.slice none 0 0) (.slice none 0 0))
      have HL := Lib.hid (put6r_own HM.out.bos (R := w.heap.size) HM.out.leL (.int .i64 0) (.slice Ak (starts 4).length ck) (.slice Al 3 cl) (.slice none 0 0) (.slice none 0 0) (.slice none 0 0))
      go_wp2
      obtain ⟨x0, x1, x2, x3, x4, x5⟩ := six6 HC.out
      exact bodyPost_ret (v := rvV (.slice Ak (starts 4).length ck) (.slice Al 3 cl)) (by simp [results, Try.results5, go_sem, x0, x1, x2, x3, x4, x5]) rfl ⟨_, _, rfl, HA.out.down (by have := HM.out.ltb; omega), HL.out.down (Nat.le_of_lt HM.out.leL), kr_bo HM.out.row HM.out.bos, HE.out⟩
end Go.Proofs.Ytckicpnnclbkpaa.kr
