/-
  Merged texts: IChg3, IChg4.
-/
import Derived.Test.YtckicpnnclbkpaaGreatDoorE21
namespace Go.Proofs.YtckicpnnclbkpaaGreatDoor.kp
open Go.ChangeShapes Go.WideShapes Go.ChangeAt Go.RowKit
open wd ow rl ok nb nx
set_option maxRecDepth 100000 in
set_option maxHeartbeats 4000000 in
theorem chg_mark (B : Nat) (W : World) (g r : Nat) (k : Kp) (a b c : Value) (m : Mk) (h : MK B W g k a b c) (hz : Sz 14 k) (hr : r < W.heap.size) (hng : r ≠ g) (hro : Off r a b c) :
  Calls Tryz.prog 140 #[.pointer (some ⟨g, 0, none⟩), .iface 249 (mkV m)] W (ChPost B W g r (applyS k (.mark m))) := by
 have hB0 := (Below.refl W.heap.size W).alloc (Nat.le_refl _) (.cells #[.int .i64 m.f, .int .i64 m.n, .int .i64 m.u] 249)
 have HR := Lib.hid (Blk.new W 249 #[.int .i64 m.f, .int .i64 m.n, .int .i64 m.u])
 have HM := Lib.hid (h.later hB0)
 have HOf := Lib.hid (h.own.off_new (Nat.le_refl W.heap.size))
 have HNg := Lib.hid (show W.heap.size ≠ g from by have := h.box.lt; omega)
 have HB := Lib.hid ((FP.new h hr hng hro).later hB0)
 have HL := Lib.hid (hz.few (show 14 ≤ 1048576 by omega))
 have HH := Lib.hid (fun V' (hM : MK B V' g k a b c) => hasM_any V' b k.marks hM.sees.marks HL.out.2.1 m.f m.n m.u)
 unfold BoolK mark at HH
 by_cases hq : hasM k.marks m.f m.n = true
 case pos =>
  have HE := Lib.hid (show applyS k (.mark m) = none by rw [applyS, if_pos hq])
  rw [hq] at HH
  clear hq
  clear h hB0 hr hng hro
  unfold mkV mark
  have hta0 := ta_mark_time
  have hta1 := ta_mark_next
  have hta2 := ta_mark_own
  have hta3 := ta_mark_take
  have hta4 := ta_mark_lets
  have hta5 := ta_mark_eat
  have hta6 := ta_mark_mark
  go_enter Tryz.func140, Tryz.ntmps140
  go_upto_region 29 with (fail)
  clear hta0 hta1 hta2 hta3 hta4 hta5 hta6
  generalize W.alloc (.cells #[.int .i64 m.f, .int .i64 m.n, .int .i64 m.u] 249) = V at HR HM HB ⊢
  have HRb := Lib.hid (show W.heap.size = W.heap.size from rfl)
  generalize W.heap.size = rb at HR HOf HNg HRb ⊢
  clear HRb
  obtain ⟨d0, d1, d2, d3, d4, d5⟩ := qa.six HM.out.box
  obtain ⟨n0, n1, n2⟩ := qa.three HR.out
  refine wp_region_held_drew (S := (fun w' : World => ∃ p : qa.After V, w' = p.W)) (by kernel_rfl) ⟨⟨_, (Below.refl _ V).drew⟩, rfl⟩ (fun hHeld => ?_)
  have q0 : Below V.heap.size V V.drew := (Below.refl _ V).drew
  refine rs.w 0 154 ?_ rfl ?_ ?_
  rotate_left 1
  ·(rintro w ⟨pw, rfl⟩; go_simp; try with_reducible rfl)
  simp only [rs.a, rs.b, rs.c]
  refine rs.w 1 155 ?_ rfl ?_ ?_
  rotate_left 1
  ·(rintro w ⟨pw, rfl⟩; go_simp; try with_reducible rfl)
  simp only [rs.a, rs.b, rs.c]
  refine rs.w 2 156 ?_ rfl ?_ ?_
  rotate_left 1
  ·(rintro w ⟨pw, rfl⟩; go_simp; try with_reducible rfl)
  simp only [rs.a, rs.b, rs.c]
  refine rs.w 3 157 ?_ rfl ?_ ?_
  rotate_left 1
  ·(rintro w ⟨pw, rfl⟩; go_simp; try with_reducible rfl)
  simp only [rs.a, rs.b, rs.c]
  refine rs.w 4 158 ?_ rfl ?_ ?_
  rotate_left 1
  ·(rintro w ⟨pw, rfl⟩; go_simp; try with_reducible rfl)
  simp only [rs.a, rs.b, rs.c]
  refine rs.w 5 159 ?_ rfl ?_ ?_
  rotate_left 1
  ·(rintro w ⟨pw, rfl⟩; go_simp; try with_reducible rfl)
  simp only [rs.a, rs.b, rs.c]
  refine wpAnyH_ready (rs := [6]) (by kernel_rfl) (by simp) ?_
  refine AllReadyH.cons rfl (fun K hK => ?_) AllReadyH.nil
  go_simp
  refine (HH.out _ (HM.out.later q0)).mono ?_
  rintro e u1 ⟨rfl, hu1⟩
  have q1 := q0.trans (hu1.mono q0.size)
  refine hK.out _ _ ⟨⟨_, q1⟩, rfl⟩ (fun hHeld => ?_)
  clear hK K
  refine rs.w 7 161 ?_ rfl ?_ ?_
  rotate_left 1
  ·(rintro w ⟨pw, rfl⟩; go_simp; try with_reducible rfl)
  simp only [rs.a, rs.b, rs.c]
  refine wpAnyH_ready (rs := [8]) (by kernel_rfl) (by simp) ?_
  refine AllReadyH.cons rfl (fun K hK => ?_) AllReadyH.nil
  go_simp
  refine (require_f _).mono ?_
  rintro e w3 ⟨rfl, rfl⟩
  exact ⟨rfl, .inr ⟨HE.out, rfl, (HB.out.later q1).fm⟩⟩
 have HE := Lib.hid (show applyS k (.mark m) = some { k with marks := putM k.marks m } by rw [applyS, if_neg hq])
 rw [Bool.eq_false_iff.2 hq] at HH
 clear hq
 clear h hB0 hr hng hro
 unfold mkV mark
 have hta0 := ta_mark_time
 have hta1 := ta_mark_next
 have hta2 := ta_mark_own
 have hta3 := ta_mark_take
 have hta4 := ta_mark_lets
 have hta5 := ta_mark_eat
 have hta6 := ta_mark_mark
 go_enter Tryz.func140, Tryz.ntmps140
 go_upto_region 29 with (fail)
 clear hta0 hta1 hta2 hta3 hta4 hta5 hta6
 generalize W.alloc (.cells #[.int .i64 m.f, .int .i64 m.n, .int .i64 m.u] 249) = V at HR HM HB ⊢
 have HRb := Lib.hid (show W.heap.size = W.heap.size from rfl)
 generalize W.heap.size = rb at HR HOf HNg HRb ⊢
 clear HRb
 obtain ⟨d0, d1, d2, d3, d4, d5⟩ := qa.six HM.out.box
 obtain ⟨n0, n1, n2⟩ := qa.three HR.out
 refine qa.region (by kernel_rfl) (by kernel_rfl) ?_
 repeat (go_big_quiet_step (first | (go_at_call 142; exact qa.of_same (require_t _)) | (go_at_call 169; with_reducible exact qa.of_below (HH.out _ (HM.out.later (qa.After.h _))))))
 refine wpQuiet_nil ?_
 rintro _ ⟨p1, rfl⟩
 clear d0 d1 d2 d3 d4 d5 n0 n1 n2
 have hM1 := Lib.hid (HM.out.later p1.h)
 have hR1 := Lib.hid (HR.out.below p1.h HR.out.lt)
 have hB1 := Lib.hid (HB.out.later p1.h)
 clear HM HR HB
 have HM := hM1
 have HR := hR1
 have HB := hB1
 clear hM1 hR1 hB1
 generalize p1.W = V1 at HM HR HB ⊢
 clear p1 V
 clear HH
 go_upto_region 30 with (fail)
 have hb0 := (Below.refl V1.heap.size V1).drew
 refine wp_region_held_drew (S := (fun w' : World => Blk w' rb 249 #[.int .i64 m.f, .int .i64 m.n, .int .i64 m.u])) (by kernel_rfl) (HR.out.below hb0 HR.out.lt) (fun hHeld => ?_)
 clear hHeld
 have HMd := Lib.hid (HM.out.later hb0)
 have HRd := Lib.hid (HR.out.below hb0 HR.out.lt)
 have HBd := Lib.hid (HB.out.later hb0)
 clear hb0
 generalize V1.drew = Z at HMd HRd HBd ⊢
 have hRd := HRd.out
 obtain ⟨k0, k1, k2, k3, k4, k5⟩ := KBox.cells HMd.out.box
 refine rs.w 0 163 ?_ rfl ?_ ?_
 rotate_left 1
 ·(intro w hSw; obtain ⟨n0, n1, n2⟩ := cb_m hSw; go_simp; try with_reducible rfl)
 simp only [rs.a, rs.b, rs.c]
 refine rs.w 1 164 ?_ rfl ?_ ?_
 rotate_left 1
 ·(intro w hSw; obtain ⟨n0, n1, n2⟩ := cb_m hSw; go_simp; try with_reducible rfl)
 simp only [rs.a, rs.b, rs.c]
 refine rs.w 2 165 ?_ rfl ?_ ?_
 rotate_left 1
 ·(intro w hSw; obtain ⟨n0, n1, n2⟩ := cb_m hSw; go_simp; try with_reducible rfl)
 simp only [rs.a, rs.b, rs.c]
 refine rs.w 3 166 ?_ rfl ?_ ?_
 rotate_left 1
 ·(intro w hSw; obtain ⟨n0, n1, n2⟩ := cb_m hSw; go_simp; try with_reducible rfl)
 simp only [rs.a, rs.b, rs.c]
 refine rs.w 5 168 ?_ rfl ?_ ?_
 rotate_left 1
 ·(intro w hSw; obtain ⟨n0, n1, n2⟩ := cb_m hSw; go_simp; try with_reducible rfl)
 simp only [rs.a, rs.b, rs.c]
 refine rs.w 6 169 ?_ rfl ?_ ?_
 rotate_left 1
 ·(intro w hSw; obtain ⟨n0, n1, n2⟩ := cb_m hSw; go_simp; try with_reducible rfl)
 simp only [rs.a, rs.b, rs.c]
 refine wpAnyH_ready (rs := [4]) (by kernel_rfl) (by simp) ?_
 refine AllReadyH.cons rfl (fun K hK => ?_) AllReadyH.nil
 go_simp
 refine hK.out _ _ HRd.out (fun hHeld => ?_)
 clear hK K hHeld
 refine wpAnyH_ready (rs := [7]) (by kernel_rfl) (by simp) ?_
 refine AllReadyH.cons rfl (fun K hK => ?_) AllReadyH.nil
 go_simp
 refine (insertM_any Z B _ k.marks m HMd.out.own.marks HMd.out.bW HL.out.2.1).mono ?_
 rintro e w2 ⟨v', rfl, hO2, hG2, hF2⟩
 obtain ⟨A2, c2, rfl⟩ := OwnAt.form hO2
 obtain ⟨hM3, hB3⟩ := MK.mut4 HMd.out hO2 hG2 hF2
 have box2 := blk_row HMd.out.box hG2 HMd.out.off.2.1
 have s0 := box2.cell 4
 have f0 := box2.frozen 4
 simp only [List.getElem?_toArray, List.getElem?_cons_zero, List.getElem?_cons_succ] at s0
 have HR2 := Lib.hid (blk_row HRd.out hG2 HOf.out.2.1)
 have HM3 := Lib.hid hM3
 have HB3 := Lib.hid (HBd.out.mut4 hG2 hF2 hB3)
 have HOf3 := Lib.hid (from_off34 HRd.out.lt HOf.out hF2)
 clear hO2 hG2 hF2 hM3 hB3 box2
 refine hK.out _ _ HR2.out (fun hHeld => ?_)
 clear hK K hHeld k0 k1 k2 k3 k4 k5 hRd
 have hR2 := HR2.out
 refine rs.w 8 171 ?_ rfl ?_ ?_
 rotate_left 1
 ·(intro w hSw; obtain ⟨n0, n1, n2⟩ := cb_m hSw; go_simp; try with_reducible rfl)
 simp only [rs.a, rs.b, rs.c]
 refine rs.w 9 172 ?_ rfl ?_ ?_
 rotate_left 1
 ·(intro w hSw; obtain ⟨n0, n1, n2⟩ := cb_m hSw; go_simp; try with_reducible rfl)
 simp only [rs.a, rs.b, rs.c]
 refine wpAnyH_ready (rs := [10]) (by kernel_rfl) (by simp) ?_
 refine AllReadyH.cons rfl (fun K hK => ?_) AllReadyH.nil
 go_simp
 refine hK.out _ _ (HR2.out.far (p := ⟨g, 4, none⟩) HNg.out _) (fun hHeld => ?_)
 clear hK K hHeld s0 f0 hR2
 refine wpAnyH_done (by kernel_rfl) ?_ _
 have HR3 := Lib.hid (HR2.out.far (p := ⟨g, 4, none⟩) HNg.out (.slice A2 (putM k.marks m).length c2))
 clear HM HR HB HMd HRd HBd HR2 HOf
 have HM := HM3
 have HR := HR3
 have HB := HB3
 have HOf := HOf3
 clear HM3 HR3 HB3 HOf3
 generalize w2.setCell ⟨g, 4, none⟩ (.slice A2 (putM k.marks m).length c2) = V2 at HM HR HB ⊢
 clear V1 Z w2
 generalize Value.slice A2 (putM k.marks m).length c2 = x4 at HM HOf HB ⊢
 have HZ := Lib.hid (And.intro HM.out HB.out)
 clear HM HR HB HOf
 go_wp2
 go_end0
 exact .inl ⟨_, _, _, _, HE.out, rfl, HZ.out.1, HZ.out.2.fm, HZ.out.2.off⟩
set_option maxRecDepth 100000 in
set_option maxHeartbeats 4000000 in
theorem chg_held (B : Nat) (W : World) (g r : Nat) (k : Kp) (a b c : Value) (x : Nt) (h : MK B W g k a b c) (hz : Sz 14 k) (hr : r < W.heap.size) (hng : r ≠ g) (hro : Off r a b c) :
  Calls Tryz.prog 140 #[.pointer (some ⟨g, 0, none⟩), .iface 250 (ntV x)] W (ChPost B W g r (applyS k (.held x))) := by
 have hB0 := (Below.refl W.heap.size W).alloc (Nat.le_refl _) (.cells #[.int .i64 x.f, .int .i64 x.n, .int .i64 x.t, .int .i64 x.u, .string x.s] 250)
 have HR := Lib.hid (Blk.new W 250 #[.int .i64 x.f, .int .i64 x.n, .int .i64 x.t, .int .i64 x.u, .string x.s])
 have HM := Lib.hid (h.later hB0)
 have HOf := Lib.hid (h.own.off_new (Nat.le_refl W.heap.size))
 have HNg := Lib.hid (show W.heap.size ≠ g from by have := h.box.lt; omega)
 have HB := Lib.hid ((FP.new h hr hng hro).later hB0)
 have HL := Lib.hid (hz.few (show 14 ≤ 1048576 by omega))
 have HN := Lib.hid (fun V' (hM : MK B V' g k a b c) => hasNote_any V' g k a b c x hM.box hM.sees HL.out)
 unfold BoolK ntV note at HN
 by_cases hq : hasN k.held x.f x.n = true ∨ hasN k.inbox x.f x.n = true
 case pos =>
  have HE := Lib.hid (show applyS k (.held x) = none by rw [applyS, if_pos hq])
  rw [show (hasN k.held x.f x.n || hasN k.inbox x.f x.n) = true by rw [Bool.or_eq_true]; exact hq] at HN
  clear hq
  clear h hB0 hr hng hro
  unfold ntV note
  have hta0 := ta_held_time
  have hta1 := ta_held_next
  have hta2 := ta_held_own
  have hta3 := ta_held_take
  have hta4 := ta_held_lets
  have hta5 := ta_held_eat
  have hta6 := ta_held_mark
  have hta7 := ta_held_held
  go_enter Tryz.func140, Tryz.ntmps140
  go_upto_region 33 with (fail)
  clear hta0 hta1 hta2 hta3 hta4 hta5 hta6 hta7
  generalize W.alloc (.cells #[.int .i64 x.f, .int .i64 x.n, .int .i64 x.t, .int .i64 x.u, .string x.s] 250) = V at HR HM HB ⊢
  have HRb := Lib.hid (show W.heap.size = W.heap.size from rfl)
  generalize W.heap.size = rb at HR HOf HNg HRb ⊢
  clear HRb
  obtain ⟨n0, n1, n2, n3, n4⟩ := cb_x HR.out
  go_wp2_with fail
  refine (HN.out _ HM.out).mono ?_
  rintro e u1 ⟨rfl, hu1⟩
  go_wp2_with fail
  refine (require_f _).mono ?_
  rintro e w3 ⟨rfl, rfl⟩
  go_wp2
  exact ⟨rfl, .inr ⟨HE.out, rfl, (HB.out.later hu1).fm⟩⟩
 have HE := Lib.hid (show applyS k (.held x) = some { k with held := putN k.held x } by rw [applyS, if_neg hq])
 rw [show (hasN k.held x.f x.n || hasN k.inbox x.f x.n) = false by rw [Bool.eq_false_iff]; intro e; rw [Bool.or_eq_true] at e; exact hq e] at HN
 clear hq
 clear h hB0 hr hng hro
 unfold ntV note
 have hta0 := ta_held_time
 have hta1 := ta_held_next
 have hta2 := ta_held_own
 have hta3 := ta_held_take
 have hta4 := ta_held_lets
 have hta5 := ta_held_eat
 have hta6 := ta_held_mark
 have hta7 := ta_held_held
 go_enter Tryz.func140, Tryz.ntmps140
 go_upto_region 33 with (fail)
 clear hta0 hta1 hta2 hta3 hta4 hta5 hta6 hta7
 generalize W.alloc (.cells #[.int .i64 x.f, .int .i64 x.n, .int .i64 x.t, .int .i64 x.u, .string x.s] 250) = V at HR HM HB ⊢
 have HRb := Lib.hid (show W.heap.size = W.heap.size from rfl)
 generalize W.heap.size = rb at HR HOf HNg HRb ⊢
 clear HRb
 obtain ⟨n0, n1, n2, n3, n4⟩ := cb_x HR.out
 go_wp2_with fail
 refine (HN.out _ HM.out).mono ?_
 rintro e u1 ⟨rfl, hu1⟩
 have hM1 := Lib.hid (HM.out.later hu1)
 have hR1 := Lib.hid (HR.out.below hu1 HR.out.lt)
 have hB1 := Lib.hid (HB.out.later hu1)
 clear n0 n1 n2 n3 n4 HM HR HB HN hu1
 have HM := hM1
 have HR := hR1
 have HB := hB1
 clear hM1 hR1 hB1
 go_wp2_with fail
 refine (require_t _).mono ?_
 rintro e w3 ⟨rfl, rfl⟩
 go_upto_region 34 with (fail)
 have hb0 := (Below.refl u1.heap.size u1).drew
 refine wp_region_held_drew (S := (fun w' : World => Blk w' rb 250 #[.int .i64 x.f, .int .i64 x.n, .int .i64 x.t, .int .i64 x.u, .string x.s])) (by kernel_rfl) (HR.out.below hb0 HR.out.lt) (fun hHeld => ?_)
 clear hHeld
 have HMd := Lib.hid (HM.out.later hb0)
 have HRd := Lib.hid (HR.out.below hb0 HR.out.lt)
 have HBd := Lib.hid (HB.out.later hb0)
 clear hb0
 generalize u1.drew = Z at HMd HRd HBd ⊢
 have hRd := HRd.out
 obtain ⟨k0, k1, k2, k3, k4, k5⟩ := KBox.cells HMd.out.box
 refine rs.w 0 182 ?_ rfl ?_ ?_
 rotate_left 1
 ·(intro w hSw; obtain ⟨n0, n1, n2, n3, n4⟩ := cb_x hSw; go_simp; try with_reducible rfl)
 simp only [rs.a, rs.b, rs.c]
 refine rs.w 1 183 ?_ rfl ?_ ?_
 rotate_left 1
 ·(intro w hSw; obtain ⟨n0, n1, n2, n3, n4⟩ := cb_x hSw; go_simp; try with_reducible rfl)
 simp only [rs.a, rs.b, rs.c]
 refine rs.w 2 184 ?_ rfl ?_ ?_
 rotate_left 1
 ·(intro w hSw; obtain ⟨n0, n1, n2, n3, n4⟩ := cb_x hSw; go_simp; try with_reducible rfl)
 simp only [rs.a, rs.b, rs.c]
 refine rs.w 3 185 ?_ rfl ?_ ?_
 rotate_left 1
 ·(intro w hSw; obtain ⟨n0, n1, n2, n3, n4⟩ := cb_x hSw; go_simp; try with_reducible rfl)
 simp only [rs.a, rs.b, rs.c]
 refine rs.w 5 187 ?_ rfl ?_ ?_
 rotate_left 1
 ·(intro w hSw; obtain ⟨n0, n1, n2, n3, n4⟩ := cb_x hSw; go_simp; try with_reducible rfl)
 simp only [rs.a, rs.b, rs.c]
 refine rs.w 6 188 ?_ rfl ?_ ?_
 rotate_left 1
 ·(intro w hSw; obtain ⟨n0, n1, n2, n3, n4⟩ := cb_x hSw; go_simp; try with_reducible rfl)
 simp only [rs.a, rs.b, rs.c]
 refine wpAnyH_ready (rs := [4]) (by kernel_rfl) (by simp) ?_
 refine AllReadyH.cons rfl (fun K hK => ?_) AllReadyH.nil
 go_simp
 refine hK.out _ _ HRd.out (fun hHeld => ?_)
 clear hK K hHeld
 refine wpAnyH_ready (rs := [7]) (by kernel_rfl) (by simp) ?_
 refine AllReadyH.cons rfl (fun K hK => ?_) AllReadyH.nil
 go_simp
 refine (insertN_any Z B _ k.held x HMd.out.own.held HMd.out.bW HL.out.1).mono ?_
 rintro e w2 ⟨v', rfl, hO2, hG2, hF2⟩
 obtain ⟨A2, c2, rfl⟩ := OwnAt.form hO2
 obtain ⟨hM3, hB3⟩ := MK.mut3 HMd.out hO2 hG2 hF2
 have box2 := blk_row HMd.out.box hG2 HMd.out.off.1
 have s0 := box2.cell 3
 have f0 := box2.frozen 3
 simp only [List.getElem?_toArray, List.getElem?_cons_zero, List.getElem?_cons_succ] at s0
 have HR2 := Lib.hid (blk_row HRd.out hG2 HOf.out.1)
 have HM3 := Lib.hid hM3
 have HB3 := Lib.hid (HBd.out.mut3 hG2 hF2 hB3)
 have HOf3 := Lib.hid (from_off33 HRd.out.lt HOf.out hF2)
 clear hO2 hG2 hF2 hM3 hB3 box2
 refine hK.out _ _ HR2.out (fun hHeld => ?_)
 clear hK K hHeld k0 k1 k2 k3 k4 k5 hRd
 have hR2 := HR2.out
 refine rs.w 8 190 ?_ rfl ?_ ?_
 rotate_left 1
 ·(intro w hSw; obtain ⟨n0, n1, n2, n3, n4⟩ := cb_x hSw; go_simp; try with_reducible rfl)
 simp only [rs.a, rs.b, rs.c]
 refine rs.w 9 191 ?_ rfl ?_ ?_
 rotate_left 1
 ·(intro w hSw; obtain ⟨n0, n1, n2, n3, n4⟩ := cb_x hSw; go_simp; try with_reducible rfl)
 simp only [rs.a, rs.b, rs.c]
 refine wpAnyH_ready (rs := [10]) (by kernel_rfl) (by simp) ?_
 refine AllReadyH.cons rfl (fun K hK => ?_) AllReadyH.nil
 go_simp
 refine hK.out _ _ (HR2.out.far (p := ⟨g, 3, none⟩) HNg.out _) (fun hHeld => ?_)
 clear hK K hHeld s0 f0 hR2
 refine wpAnyH_done (by kernel_rfl) ?_ _
 have HR3 := Lib.hid (HR2.out.far (p := ⟨g, 3, none⟩) HNg.out (.slice A2 (putN k.held x).length c2))
 clear HM HR HB HMd HRd HBd HR2 HOf
 have HM := HM3
 have HR := HR3
 have HB := HB3
 have HOf := HOf3
 clear HM3 HR3 HB3 HOf3
 generalize w2.setCell ⟨g, 3, none⟩ (.slice A2 (putN k.held x).length c2) = V2 at HM HR HB ⊢
 clear u1 Z w2
 generalize Value.slice A2 (putN k.held x).length c2 = x3 at HM HOf HB ⊢
 have HZ := Lib.hid (And.intro HM.out HB.out)
 clear HM HR HB HOf
 go_wp2
 go_end0
 exact .inl ⟨_, _, _, _, HE.out, rfl, HZ.out.1, HZ.out.2.fm, HZ.out.2.off⟩
set_option maxRecDepth 100000 in
set_option maxHeartbeats 4000000 in
theorem chg_inbox (B : Nat) (W : World) (g r : Nat) (k : Kp) (a b c : Value) (x : Nt) (h : MK B W g k a b c) (hz : Sz 14 k) (hr : r < W.heap.size) (hng : r ≠ g) (hro : Off r a b c) :
  Calls Tryz.prog 140 #[.pointer (some ⟨g, 0, none⟩), .iface 251 (ntV x)] W (ChPost B W g r (applyS k (.inbox x))) := by
 have hB0 := (Below.refl W.heap.size W).alloc (Nat.le_refl _) (.cells #[.int .i64 x.f, .int .i64 x.n, .int .i64 x.t, .int .i64 x.u, .string x.s] 251)
 have HR := Lib.hid (Blk.new W 251 #[.int .i64 x.f, .int .i64 x.n, .int .i64 x.t, .int .i64 x.u, .string x.s])
 have HM := Lib.hid (h.later hB0)
 have HOf := Lib.hid (h.own.off_new (Nat.le_refl W.heap.size))
 have HNg := Lib.hid (show W.heap.size ≠ g from by have := h.box.lt; omega)
 have HB := Lib.hid ((FP.new h hr hng hro).later hB0)
 have HL := Lib.hid (hz.few (show 14 ≤ 1048576 by omega))
 have HN := Lib.hid (fun V' (hM : MK B V' g k a b c) => hasNote_any V' g k a b c x hM.box hM.sees HL.out)
 unfold BoolK ntV note at HN
 by_cases hq : hasN k.held x.f x.n = true ∨ hasN k.inbox x.f x.n = true
 case pos =>
  have HE := Lib.hid (show applyS k (.inbox x) = none by rw [applyS, if_pos hq])
  rw [show (hasN k.held x.f x.n || hasN k.inbox x.f x.n) = true by rw [Bool.or_eq_true]; exact hq] at HN
  clear hq
  clear h hB0 hr hng hro
  unfold ntV note
  have hta0 := ta_inbox_time
  have hta1 := ta_inbox_next
  have hta2 := ta_inbox_own
  have hta3 := ta_inbox_take
  have hta4 := ta_inbox_lets
  have hta5 := ta_inbox_eat
  have hta6 := ta_inbox_mark
  have hta7 := ta_inbox_held
  have hta8 := ta_inbox_inbox
  go_enter Tryz.func140, Tryz.ntmps140
  go_upto_region 37 with (fail)
  clear hta0 hta1 hta2 hta3 hta4 hta5 hta6 hta7 hta8
  generalize W.alloc (.cells #[.int .i64 x.f, .int .i64 x.n, .int .i64 x.t, .int .i64 x.u, .string x.s] 251) = V at HR HM HB ⊢
  have HRb := Lib.hid (show W.heap.size = W.heap.size from rfl)
  generalize W.heap.size = rb at HR HOf HNg HRb ⊢
  clear HRb
  obtain ⟨n0, n1, n2, n3, n4⟩ := cb_x HR.out
  go_wp2_with fail
  refine (HN.out _ HM.out).mono ?_
  rintro e u1 ⟨rfl, hu1⟩
  go_wp2_with fail
  refine (require_f _).mono ?_
  rintro e w3 ⟨rfl, rfl⟩
  go_wp2
  exact ⟨rfl, .inr ⟨HE.out, rfl, (HB.out.later hu1).fm⟩⟩
 have HE := Lib.hid (show applyS k (.inbox x) = some { k with inbox := putN k.inbox x } by rw [applyS, if_neg hq])
 rw [show (hasN k.held x.f x.n || hasN k.inbox x.f x.n) = false by rw [Bool.eq_false_iff]; intro e; rw [Bool.or_eq_true] at e; exact hq e] at HN
 clear hq
 clear h hB0 hr hng hro
 unfold ntV note
 have hta0 := ta_inbox_time
 have hta1 := ta_inbox_next
 have hta2 := ta_inbox_own
 have hta3 := ta_inbox_take
 have hta4 := ta_inbox_lets
 have hta5 := ta_inbox_eat
 have hta6 := ta_inbox_mark
 have hta7 := ta_inbox_held
 have hta8 := ta_inbox_inbox
 go_enter Tryz.func140, Tryz.ntmps140
 go_upto_region 37 with (fail)
 clear hta0 hta1 hta2 hta3 hta4 hta5 hta6 hta7 hta8
 generalize W.alloc (.cells #[.int .i64 x.f, .int .i64 x.n, .int .i64 x.t, .int .i64 x.u, .string x.s] 251) = V at HR HM HB ⊢
 have HRb := Lib.hid (show W.heap.size = W.heap.size from rfl)
 generalize W.heap.size = rb at HR HOf HNg HRb ⊢
 clear HRb
 obtain ⟨n0, n1, n2, n3, n4⟩ := cb_x HR.out
 go_wp2_with fail
 refine (HN.out _ HM.out).mono ?_
 rintro e u1 ⟨rfl, hu1⟩
 have hM1 := Lib.hid (HM.out.later hu1)
 have hR1 := Lib.hid (HR.out.below hu1 HR.out.lt)
 have hB1 := Lib.hid (HB.out.later hu1)
 clear n0 n1 n2 n3 n4 HM HR HB HN hu1
 have HM := hM1
 have HR := hR1
 have HB := hB1
 clear hM1 hR1 hB1
 go_wp2_with fail
 refine (require_t _).mono ?_
 rintro e w3 ⟨rfl, rfl⟩
 go_upto_region 38 with (fail)
 have hb0 := (Below.refl u1.heap.size u1).drew
 refine wp_region_held_drew (S := (fun w' : World => Blk w' rb 251 #[.int .i64 x.f, .int .i64 x.n, .int .i64 x.t, .int .i64 x.u, .string x.s])) (by kernel_rfl) (HR.out.below hb0 HR.out.lt) (fun hHeld => ?_)
 clear hHeld
 have HMd := Lib.hid (HM.out.later hb0)
 have HRd := Lib.hid (HR.out.below hb0 HR.out.lt)
 have HBd := Lib.hid (HB.out.later hb0)
 clear hb0
 generalize u1.drew = Z at HMd HRd HBd ⊢
 have hRd := HRd.out
 obtain ⟨k0, k1, k2, k3, k4, k5⟩ := KBox.cells HMd.out.box
 refine rs.w 0 201 ?_ rfl ?_ ?_
 rotate_left 1
 ·(intro w hSw; obtain ⟨n0, n1, n2, n3, n4⟩ := cb_x hSw; go_simp; try with_reducible rfl)
 simp only [rs.a, rs.b, rs.c]
 refine rs.w 1 202 ?_ rfl ?_ ?_
 rotate_left 1
 ·(intro w hSw; obtain ⟨n0, n1, n2, n3, n4⟩ := cb_x hSw; go_simp; try with_reducible rfl)
 simp only [rs.a, rs.b, rs.c]
 refine rs.w 2 203 ?_ rfl ?_ ?_
 rotate_left 1
 ·(intro w hSw; obtain ⟨n0, n1, n2, n3, n4⟩ := cb_x hSw; go_simp; try with_reducible rfl)
 simp only [rs.a, rs.b, rs.c]
 refine rs.w 3 204 ?_ rfl ?_ ?_
 rotate_left 1
 ·(intro w hSw; obtain ⟨n0, n1, n2, n3, n4⟩ := cb_x hSw; go_simp; try with_reducible rfl)
 simp only [rs.a, rs.b, rs.c]
 refine rs.w 5 206 ?_ rfl ?_ ?_
 rotate_left 1
 ·(intro w hSw; obtain ⟨n0, n1, n2, n3, n4⟩ := cb_x hSw; go_simp; try with_reducible rfl)
 simp only [rs.a, rs.b, rs.c]
 refine rs.w 6 207 ?_ rfl ?_ ?_
 rotate_left 1
 ·(intro w hSw; obtain ⟨n0, n1, n2, n3, n4⟩ := cb_x hSw; go_simp; try with_reducible rfl)
 simp only [rs.a, rs.b, rs.c]
 refine wpAnyH_ready (rs := [4]) (by kernel_rfl) (by simp) ?_
 refine AllReadyH.cons rfl (fun K hK => ?_) AllReadyH.nil
 go_simp
 refine hK.out _ _ HRd.out (fun hHeld => ?_)
 clear hK K hHeld
 refine wpAnyH_ready (rs := [7]) (by kernel_rfl) (by simp) ?_
 refine AllReadyH.cons rfl (fun K hK => ?_) AllReadyH.nil
 go_simp
 refine (insertN_any Z B _ k.inbox x HMd.out.own.inbox HMd.out.bW HL.out.2.2).mono ?_
 rintro e w2 ⟨v', rfl, hO2, hG2, hF2⟩
 obtain ⟨A2, c2, rfl⟩ := OwnAt.form hO2
 obtain ⟨hM3, hB3⟩ := MK.mut5 HMd.out hO2 hG2 hF2
 have box2 := blk_row HMd.out.box hG2 HMd.out.off.2.2
 have s0 := box2.cell 5
 have f0 := box2.frozen 5
 simp only [List.getElem?_toArray, List.getElem?_cons_zero, List.getElem?_cons_succ] at s0
 have HR2 := Lib.hid (blk_row HRd.out hG2 HOf.out.2.2)
 have HM3 := Lib.hid hM3
 have HB3 := Lib.hid (HBd.out.mut5 hG2 hF2 hB3)
 have HOf3 := Lib.hid (from_off35 HRd.out.lt HOf.out hF2)
 clear hO2 hG2 hF2 hM3 hB3 box2
 refine hK.out _ _ HR2.out (fun hHeld => ?_)
 clear hK K hHeld k0 k1 k2 k3 k4 k5 hRd
 have hR2 := HR2.out
 refine rs.w 8 209 ?_ rfl ?_ ?_
 rotate_left 1
 ·(intro w hSw; obtain ⟨n0, n1, n2, n3, n4⟩ := cb_x hSw; go_simp; try with_reducible rfl)
 simp only [rs.a, rs.b, rs.c]
 refine rs.w 9 210 ?_ rfl ?_ ?_
 rotate_left 1
 ·(intro w hSw; obtain ⟨n0, n1, n2, n3, n4⟩ := cb_x hSw; go_simp; try with_reducible rfl)
 simp only [rs.a, rs.b, rs.c]
 refine wpAnyH_ready (rs := [10]) (by kernel_rfl) (by simp) ?_
 refine AllReadyH.cons rfl (fun K hK => ?_) AllReadyH.nil
 go_simp
 refine hK.out _ _ (HR2.out.far (p := ⟨g, 5, none⟩) HNg.out _) (fun hHeld => ?_)
 clear hK K hHeld s0 f0 hR2
 refine wpAnyH_done (by kernel_rfl) ?_ _
 have HR3 := Lib.hid (HR2.out.far (p := ⟨g, 5, none⟩) HNg.out (.slice A2 (putN k.inbox x).length c2))
 clear HM HR HB HMd HRd HBd HR2 HOf
 have HM := HM3
 have HR := HR3
 have HB := HB3
 have HOf := HOf3
 clear HM3 HR3 HB3 HOf3
 generalize w2.setCell ⟨g, 5, none⟩ (.slice A2 (putN k.inbox x).length c2) = V2 at HM HR HB ⊢
 clear u1 Z w2
 generalize Value.slice A2 (putN k.inbox x).length c2 = x5 at HM HOf HB ⊢
 have HZ := Lib.hid (And.intro HM.out HB.out)
 clear HM HR HB HOf
 go_wp2
 go_end0
 exact .inl ⟨_, _, _, _, HE.out, rfl, HZ.out.1, HZ.out.2.fm, HZ.out.2.off⟩
end Go.Proofs.YtckicpnnclbkpaaGreatDoor.kp

namespace Go.Proofs.YtckicpnnclbkpaaGreatDoor.kp
open Go.ChangeShapes Go.WideShapes Go.ChangeAt Go.RowKit
open wd ow rl ok nb nx
theorem ChPost.on {B : Nat} {W U : World} {g r : Nat} {a0 b0 c0 : Value} {o : Option Kp} {e : Ending} {w' : World} (h : ChPost B U g r o e w') (hB : FP B W U r g a0 b0 c0) : ChPost B W g r o e w' := by
 rcases h with ⟨k', a, b, c, h1, h2, h3, h4⟩ | ⟨h1, h2, h3⟩
 ·exact .inl ⟨k', a, b, c, h1, h2, h3, ⟨hB.bel.trans h4.1.1, h4.1.2.trans hB.eq⟩, h4.2⟩
 ·exact .inr ⟨h1, h2, hB.bel.trans h3.1, h3.2.trans hB.eq⟩
set_option maxRecDepth 100000 in
set_option maxHeartbeats 4000000 in
theorem chg_own (B : Nat) (W : World) (g r : Nat) (k : Kp) (a b c : Value) (x : Nt) (h : MK B W g k a b c) (hz : Sz 14 k) (hr : r < W.heap.size) (hng : r ≠ g) (hro : Off r a b c) (hk : okK k = true) (hx : okNt x = true) :
  Calls Tryz.prog 140 #[.pointer (some ⟨g, 0, none⟩), .iface 242 (ntV x)] W (ChPost B W g r (applyS k (.own x))) := by
 have hB0 := (Below.refl W.heap.size W).alloc (Nat.le_refl _) (.cells #[.int .i64 x.f, .int .i64 x.n, .int .i64 x.t, .int .i64 x.u, .string x.s] 242)
 have HR := Lib.hid (Blk.new W 242 #[.int .i64 x.f, .int .i64 x.n, .int .i64 x.t, .int .i64 x.u, .string x.s])
 have HM := Lib.hid (h.later hB0)
 have HOf := Lib.hid (h.own.off_new (Nat.le_refl W.heap.size))
 have HNg := Lib.hid (show W.heap.size ≠ g from by have := h.box.lt; omega)
 have HB := Lib.hid ((FP.new h hr hng hro).later hB0)
 have HL := Lib.hid (hz.few (show 14 ≤ 1048576 by omega))
 have HA := Lib.hid (fun U (hM : MK B U g { k with next := k.next + 1 } a b c) (hF : FP B W U r g a b c) => accept_any B U g r { k with next := k.next + 1 } a b c x hM hx (sz_next hz (k.next + 1)) hF.lt hF.ng hF.off)
 unfold ntV note at HA
 have hn := inB_iff.1 (okK_parts hk).2.2.1
 have hw : IntKind.i64.wrap (k.next + 1) = k.next + 1 := by rw [IntKind.wrap_i64]; omega
 clear hk hn hx
 by_cases h1 : x.f = k.id
 case neg =>
  have HE := Lib.hid (show applyS k (.own x) = none by rw [applyS, if_neg (fun e => h1 e.1)])
  have hq : (x.f == k.id) = false := beq_eq_false_iff_ne.2 h1
  clear h1 HA
  clear h hB0 hr hng hro
  unfold ntV note
  have hta0 := ta_own_time
  have hta1 := ta_own_next
  have hta2 := ta_own_own
  go_enter Tryz.func140, Tryz.ntmps140
  go_upto_region 13 with (fail)
  clear hta0 hta1 hta2
  generalize W.alloc (.cells #[.int .i64 x.f, .int .i64 x.n, .int .i64 x.t, .int .i64 x.u, .string x.s] 242) = V at HR HM HB ⊢
  have HRb := Lib.hid (show W.heap.size = W.heap.size from rfl)
  generalize W.heap.size = rb at HR HOf HNg HRb ⊢
  clear HRb
  obtain ⟨d0, d1, d2, d3, d4, d5⟩ := qa.six HM.out.box
  obtain ⟨n0, n1, n2, n3, n4⟩ := qa.five HR.out
  refine wp_region_held_drew (S := (fun w' : World => ∃ p : qa.After V, w' = p.W)) (by kernel_rfl) ⟨⟨_, (Below.refl _ V).drew⟩, rfl⟩ (fun hHeld => ?_)
  have q0 : Below V.heap.size V V.drew := (Below.refl _ V).drew
  refine rs.w 0 69 ?_ rfl ?_ ?_
  rotate_left 1
  ·(rintro w ⟨pw, rfl⟩; go_simp; try with_reducible rfl)
  simp only [rs.a, rs.b, rs.c]
  refine rs.w 1 70 ?_ rfl ?_ ?_
  rotate_left 1
  ·(rintro w ⟨pw, rfl⟩; go_simp; try with_reducible rfl)
  simp only [rs.a, rs.b, rs.c]
  refine rs.w 2 71 ?_ rfl ?_ ?_
  rotate_left 1
  ·(rintro w ⟨pw, rfl⟩; go_simp; try with_reducible rfl)
  simp only [rs.a, rs.b, rs.c]
  refine rs.w 3 72 ?_ rfl ?_ ?_
  rotate_left 1
  ·(rintro w ⟨pw, rfl⟩; go_simp; try with_reducible rfl)
  simp only [rs.a, rs.b, rs.c]
  refine rs.w 4 73 ?_ rfl ?_ ?_
  rotate_left 1
  ·(rintro w ⟨pw, rfl⟩; go_simp; try with_reducible rfl)
  simp only [rs.a, rs.b, rs.c]
  refine rs.w 5 74 ?_ rfl ?_ ?_
  rotate_left 1
  ·(rintro w ⟨pw, rfl⟩; go_simp; try with_reducible rfl)
  simp only [rs.a, rs.b, rs.c]
  refine rs.w 6 75 ?_ rfl ?_ ?_
  rotate_left 1
  ·(rintro w ⟨pw, rfl⟩; go_simp; try with_reducible rfl)
  simp only [rs.a, rs.b, rs.c]
  refine rs.w 7 76 ?_ rfl ?_ ?_
  rotate_left 1
  ·(rintro w ⟨pw, rfl⟩; go_simp; try with_reducible rfl)
  simp only [rs.a, rs.b, rs.c]
  refine rs.w 8 77 ?_ rfl ?_ ?_
  rotate_left 1
  ·(rintro w ⟨pw, rfl⟩; go_simp; try with_reducible rfl)
  simp only [rs.a, rs.b, rs.c]
  refine rs.skip_take (i := 9) 78 rfl (by kernel_rfl) (by kernel_rfl) (by kernel_rfl) (fun _ _ _ _ h => h) rfl (by assumption) ?_
  simp only [rs.a, rs.b, rs.c]
  refine rs.skip_take (i := 10) 79 rfl (by kernel_rfl) (by kernel_rfl) (by kernel_rfl) (fun _ _ _ _ h => h) rfl (by assumption) ?_
  simp only [rs.a, rs.b, rs.c]
  refine rs.skip_take (i := 11) 80 rfl (by kernel_rfl) (by kernel_rfl) (by kernel_rfl) (fun _ _ _ _ h => h) rfl (by assumption) ?_
  simp only [rs.a, rs.b, rs.c]
  refine rs.skip_take (i := 12) 81 rfl (by kernel_rfl) (by kernel_rfl) (by kernel_rfl) (fun _ _ _ _ h => h) rfl (by assumption) ?_
  simp only [rs.a, rs.b, rs.c]
  refine rs.skip_take (i := 13) 82 rfl (by kernel_rfl) (by kernel_rfl) (by kernel_rfl) (fun _ _ _ _ h => h) rfl (by assumption) ?_
  simp only [rs.a, rs.b, rs.c]
  refine rs.skip_take (i := 14) 83 rfl (by kernel_rfl) (by kernel_rfl) (by kernel_rfl) (fun _ _ _ _ h => h) rfl (by assumption) ?_
  simp only [rs.a, rs.b, rs.c]
  refine rs.skip_take (i := 15) 84 rfl (by kernel_rfl) (by kernel_rfl) (by kernel_rfl) (fun _ _ _ _ h => h) rfl (by assumption) ?_
  simp only [rs.a, rs.b, rs.c]
  refine rs.skip_take (i := 16) 85 rfl (by kernel_rfl) (by kernel_rfl) (by kernel_rfl) (fun _ _ _ _ h => h) rfl (by assumption) ?_
  simp only [rs.a, rs.b, rs.c]
  refine rs.w 17 86 ?_ rfl ?_ ?_
  rotate_left 1
  ·(rintro w ⟨pw, rfl⟩; go_simp; try with_reducible rfl)
  simp only [rs.a, rs.b, rs.c]
  refine wpAnyH_ready (rs := [18]) (by kernel_rfl) (by simp) ?_
  refine AllReadyH.cons rfl (fun K hK => ?_) AllReadyH.nil
  go_simp
  refine (require_f _).mono ?_
  rintro e w3 ⟨rfl, rfl⟩
  exact ⟨rfl, .inr ⟨HE.out, rfl, (HB.out.later q0).fm⟩⟩
 have hq : (x.f == k.id) = true := beq_iff_eq.2 h1
 by_cases h2 : x.n = k.next
 case neg =>
  have HE := Lib.hid (show applyS k (.own x) = none by rw [applyS, if_neg (fun e => h2 e.2)])
  have hq2 : (x.n == k.next) = false := beq_eq_false_iff_ne.2 h2
  clear h1 h2 HA
  clear h hB0 hr hng hro
  unfold ntV note
  have hta0 := ta_own_time
  have hta1 := ta_own_next
  have hta2 := ta_own_own
  go_enter Tryz.func140, Tryz.ntmps140
  go_upto_region 13 with (fail)
  clear hta0 hta1 hta2
  generalize W.alloc (.cells #[.int .i64 x.f, .int .i64 x.n, .int .i64 x.t, .int .i64 x.u, .string x.s] 242) = V at HR HM HB ⊢
  have HRb := Lib.hid (show W.heap.size = W.heap.size from rfl)
  generalize W.heap.size = rb at HR HOf HNg HRb ⊢
  clear HRb
  obtain ⟨d0, d1, d2, d3, d4, d5⟩ := qa.six HM.out.box
  obtain ⟨n0, n1, n2, n3, n4⟩ := qa.five HR.out
  refine wp_region_held_drew (S := (fun w' : World => ∃ p : qa.After V, w' = p.W)) (by kernel_rfl) ⟨⟨_, (Below.refl _ V).drew⟩, rfl⟩ (fun hHeld => ?_)
  have q0 : Below V.heap.size V V.drew := (Below.refl _ V).drew
  refine rs.w 0 69 ?_ rfl ?_ ?_
  rotate_left 1
  ·(rintro w ⟨pw, rfl⟩; go_simp; try with_reducible rfl)
  simp only [rs.a, rs.b, rs.c]
  refine rs.w 1 70 ?_ rfl ?_ ?_
  rotate_left 1
  ·(rintro w ⟨pw, rfl⟩; go_simp; try with_reducible rfl)
  simp only [rs.a, rs.b, rs.c]
  refine rs.w 2 71 ?_ rfl ?_ ?_
  rotate_left 1
  ·(rintro w ⟨pw, rfl⟩; go_simp; try with_reducible rfl)
  simp only [rs.a, rs.b, rs.c]
  refine rs.w 3 72 ?_ rfl ?_ ?_
  rotate_left 1
  ·(rintro w ⟨pw, rfl⟩; go_simp; try with_reducible rfl)
  simp only [rs.a, rs.b, rs.c]
  refine rs.w 4 73 ?_ rfl ?_ ?_
  rotate_left 1
  ·(rintro w ⟨pw, rfl⟩; go_simp; try with_reducible rfl)
  simp only [rs.a, rs.b, rs.c]
  refine rs.w 5 74 ?_ rfl ?_ ?_
  rotate_left 1
  ·(rintro w ⟨pw, rfl⟩; go_simp; try with_reducible rfl)
  simp only [rs.a, rs.b, rs.c]
  refine rs.w 6 75 ?_ rfl ?_ ?_
  rotate_left 1
  ·(rintro w ⟨pw, rfl⟩; go_simp; try with_reducible rfl)
  simp only [rs.a, rs.b, rs.c]
  refine rs.w 7 76 ?_ rfl ?_ ?_
  rotate_left 1
  ·(rintro w ⟨pw, rfl⟩; go_simp; try with_reducible rfl)
  simp only [rs.a, rs.b, rs.c]
  refine rs.w 8 77 ?_ rfl ?_ ?_
  rotate_left 1
  ·(rintro w ⟨pw, rfl⟩; go_simp; try with_reducible rfl)
  simp only [rs.a, rs.b, rs.c]
  refine rs.w 9 78 ?_ rfl ?_ ?_
  rotate_left 1
  ·(rintro w ⟨pw, rfl⟩; go_simp; try with_reducible rfl)
  simp only [rs.a, rs.b, rs.c]
  refine rs.w 10 79 ?_ rfl ?_ ?_
  rotate_left 1
  ·(rintro w ⟨pw, rfl⟩; go_simp; try with_reducible rfl)
  simp only [rs.a, rs.b, rs.c]
  refine rs.w 11 80 ?_ rfl ?_ ?_
  rotate_left 1
  ·(rintro w ⟨pw, rfl⟩; go_simp; try with_reducible rfl)
  simp only [rs.a, rs.b, rs.c]
  refine rs.w 12 81 ?_ rfl ?_ ?_
  rotate_left 1
  ·(rintro w ⟨pw, rfl⟩; go_simp; try with_reducible rfl)
  simp only [rs.a, rs.b, rs.c]
  refine rs.w 13 82 ?_ rfl ?_ ?_
  rotate_left 1
  ·(rintro w ⟨pw, rfl⟩; go_simp; try with_reducible rfl)
  simp only [rs.a, rs.b, rs.c]
  refine rs.w 14 83 ?_ rfl ?_ ?_
  rotate_left 1
  ·(rintro w ⟨pw, rfl⟩; go_simp; try with_reducible rfl)
  simp only [rs.a, rs.b, rs.c]
  refine rs.w 15 84 ?_ rfl ?_ ?_
  rotate_left 1
  ·(rintro w ⟨pw, rfl⟩; go_simp; try with_reducible rfl)
  simp only [rs.a, rs.b, rs.c]
  refine rs.w 16 85 ?_ rfl ?_ ?_
  rotate_left 1
  ·(rintro w ⟨pw, rfl⟩; go_simp; try with_reducible rfl)
  simp only [rs.a, rs.b, rs.c]
  refine rs.w 17 86 ?_ rfl ?_ ?_
  rotate_left 1
  ·(rintro w ⟨pw, rfl⟩; go_simp; try with_reducible rfl)
  simp only [rs.a, rs.b, rs.c]
  refine wpAnyH_ready (rs := [18]) (by kernel_rfl) (by simp) ?_
  refine AllReadyH.cons rfl (fun K hK => ?_) AllReadyH.nil
  go_simp
  refine (require_f _).mono ?_
  rintro e w3 ⟨rfl, rfl⟩
  exact ⟨rfl, .inr ⟨HE.out, rfl, (HB.out.later q0).fm⟩⟩
 have HE := Lib.hid (show applyS k (.own x) = takeO { k with next := k.next + 1 } x by rw [applyS, if_pos ⟨h1, h2⟩])
 have hq2 : (x.n == k.next) = true := beq_iff_eq.2 h2
 clear h1 h2
 clear h hB0 hr hng hro
 unfold ntV note
 have hta0 := ta_own_time
 have hta1 := ta_own_next
 have hta2 := ta_own_own
 go_enter Tryz.func140, Tryz.ntmps140
 go_upto_region 13 with (fail)
 clear hta0 hta1 hta2
 generalize W.alloc (.cells #[.int .i64 x.f, .int .i64 x.n, .int .i64 x.t, .int .i64 x.u, .string x.s] 242) = V at HR HM HB ⊢
 have HRb := Lib.hid (show W.heap.size = W.heap.size from rfl)
 generalize W.heap.size = rb at HR HOf HNg HRb ⊢
 clear HRb
 obtain ⟨d0, d1, d2, d3, d4, d5⟩ := qa.six HM.out.box
 obtain ⟨n0, n1, n2, n3, n4⟩ := qa.five HR.out
 refine qa.region (by kernel_rfl) (by kernel_rfl) ?_
 repeat (go_big_quiet_step (first | (go_at_call 142; exact qa.of_same (require_t _))))
 refine wpQuiet_nil ?_
 rintro _ ⟨p1, rfl⟩
 clear d0 d1 d2 d3 d4 d5 n0 n1 n2 n3 n4
 have hM1 := Lib.hid (HM.out.later p1.h)
 have hR1 := Lib.hid (HR.out.below p1.h HR.out.lt)
 have hB1 := Lib.hid (HB.out.later p1.h)
 clear HM HR HB
 have HM := hM1
 have HR := hR1
 have HB := hB1
 clear hM1 hR1 hB1
 generalize p1.W = V1 at HM HR HB ⊢
 clear p1 V
 clear hq hq2
 go_upto_region 14 with (fail)
 have box := HM.out.box
 have d2 := box.cell 2
 have f2 := box.frozen 2
 simp only [List.getElem?_toArray, List.getElem?_cons_zero, List.getElem?_cons_succ] at d2
 obtain ⟨hM2, hB2⟩ := HM.out.set2 (k.next + 1)
 have HM2 := Lib.hid hM2
 have HB2 := Lib.hid (HB.out.set 2 _ hB2)
 have HR2 := Lib.hid (HR.out.far (p := ⟨g, 2, none⟩) HNg.out (.int .i64 (k.next + 1)))
 clear box hM2 hB2 HM HB HR
 have HM := HM2
 have HB := HB2
 have HR := HR2
 clear HM2 HB2 HR2
 go_upto_region 15 with (fail)
 clear d2 f2 hw
 generalize V1.setCell ⟨g, 2, none⟩ (.int .i64 (k.next + 1)) = V2 at HM HB HR ⊢
 obtain ⟨n0, n1, n2, n3, n4⟩ := cb_x HR.out
 go_wp2_with fail
 refine (HA.out _ HM.out HB.out).mono ?_
 rintro e w2 hq2
 have HX := Lib.hid (hq2.on HB.out)
 clear hq2 HA n0 n1 n2 n3 n4
 rcases HX.out with ⟨k', a', b', c', ho, rfl, hM, hB'⟩ | ⟨ho, rfl, hB'⟩
 ·have HY := Lib.hid (And.intro ho (And.intro hM hB'))
  clear ho hM hB' HX HM HR HB
  go_wp2
  go_end0
  exact .inl ⟨_, _, _, _, HE.out.trans HY.out.1, rfl, HY.out.2.1, HY.out.2.2⟩
 ·have HY := Lib.hid (And.intro ho hB')
  clear ho hB' HX HM HR HB
  go_wp2
  exact ⟨rfl, .inr ⟨HE.out.trans HY.out.1, rfl, HY.out.2⟩⟩
set_option maxRecDepth 100000 in
set_option maxHeartbeats 4000000 in
theorem chg_take (B : Nat) (W : World) (g r : Nat) (k : Kp) (a b c : Value) (x : Nt) (h : MK B W g k a b c) (hz : Sz 14 k) (hr : r < W.heap.size) (hng : r ≠ g) (hro : Off r a b c) (hx : okNt x = true) :
  Calls Tryz.prog 140 #[.pointer (some ⟨g, 0, none⟩), .iface 244 (ntV x)] W (ChPost B W g r (applyS k (.take x))) := by
 have hB0 := (Below.refl W.heap.size W).alloc (Nat.le_refl _) (.cells #[.int .i64 x.f, .int .i64 x.n, .int .i64 x.t, .int .i64 x.u, .string x.s] 244)
 have HR := Lib.hid (Blk.new W 244 #[.int .i64 x.f, .int .i64 x.n, .int .i64 x.t, .int .i64 x.u, .string x.s])
 have HM := Lib.hid (h.later hB0)
 have HOf := Lib.hid (h.own.off_new (Nat.le_refl W.heap.size))
 have HNg := Lib.hid (show W.heap.size ≠ g from by have := h.box.lt; omega)
 have HB := Lib.hid ((FP.new h hr hng hro).later hB0)
 have HL := Lib.hid (hz.few (show 14 ≤ 1048576 by omega))
 have HA := Lib.hid (fun U (hM : MK B U g k a b c) (hF : FP B W U r g a b c) => accept_any B U g r k a b c x hM hx hz hF.lt hF.ng hF.off)
 unfold ntV note at HA
 clear hx
 by_cases h1 : x.f = k.id
 case pos =>
  have HE := Lib.hid (show applyS k (.take x) = none by rw [applyS, if_pos h1])
  have hq : (x.f != k.id) = false := by rw [bne_eq_false_iff_eq]; exact h1
  clear h1 HA
  clear h hB0 hr hng hro
  unfold ntV note
  have hta0 := ta_take_time
  have hta1 := ta_take_next
  have hta2 := ta_take_own
  have hta3 := ta_take_take
  go_enter Tryz.func140, Tryz.ntmps140
  go_upto_region 18 with (fail)
  clear hta0 hta1 hta2 hta3
  generalize W.alloc (.cells #[.int .i64 x.f, .int .i64 x.n, .int .i64 x.t, .int .i64 x.u, .string x.s] 244) = V at HR HM HB ⊢
  have HRb := Lib.hid (show W.heap.size = W.heap.size from rfl)
  generalize W.heap.size = rb at HR HOf HNg HRb ⊢
  clear HRb
  obtain ⟨d0, d1, d2, d3, d4, d5⟩ := qa.six HM.out.box
  obtain ⟨n0, n1, n2, n3, n4⟩ := qa.five HR.out
  refine wp_region_held_drew (S := (fun w' : World => ∃ p : qa.After V, w' = p.W)) (by kernel_rfl) ⟨⟨_, (Below.refl _ V).drew⟩, rfl⟩ (fun hHeld => ?_)
  have q0 : Below V.heap.size V V.drew := (Below.refl _ V).drew
  refine rs.w 0 102 ?_ rfl ?_ ?_
  rotate_left 1
  ·(rintro w ⟨pw, rfl⟩; go_simp; try with_reducible rfl)
  simp only [rs.a, rs.b, rs.c]
  refine rs.w 1 103 ?_ rfl ?_ ?_
  rotate_left 1
  ·(rintro w ⟨pw, rfl⟩; go_simp; try with_reducible rfl)
  simp only [rs.a, rs.b, rs.c]
  refine rs.w 2 104 ?_ rfl ?_ ?_
  rotate_left 1
  ·(rintro w ⟨pw, rfl⟩; go_simp; try with_reducible rfl)
  simp only [rs.a, rs.b, rs.c]
  refine rs.w 3 105 ?_ rfl ?_ ?_
  rotate_left 1
  ·(rintro w ⟨pw, rfl⟩; go_simp; try with_reducible rfl)
  simp only [rs.a, rs.b, rs.c]
  refine rs.w 4 106 ?_ rfl ?_ ?_
  rotate_left 1
  ·(rintro w ⟨pw, rfl⟩; go_simp; try with_reducible rfl)
  simp only [rs.a, rs.b, rs.c]
  refine rs.w 5 107 ?_ rfl ?_ ?_
  rotate_left 1
  ·(rintro w ⟨pw, rfl⟩; go_simp; try with_reducible rfl)
  simp only [rs.a, rs.b, rs.c]
  refine rs.w 6 108 ?_ rfl ?_ ?_
  rotate_left 1
  ·(rintro w ⟨pw, rfl⟩; go_simp; try with_reducible rfl)
  simp only [rs.a, rs.b, rs.c]
  refine rs.w 7 109 ?_ rfl ?_ ?_
  rotate_left 1
  ·(rintro w ⟨pw, rfl⟩; go_simp; try with_reducible rfl)
  simp only [rs.a, rs.b, rs.c]
  refine wpAnyH_ready (rs := [8]) (by kernel_rfl) (by simp) ?_
  refine AllReadyH.cons rfl (fun K hK => ?_) AllReadyH.nil
  go_simp
  refine (require_f _).mono ?_
  rintro e w3 ⟨rfl, rfl⟩
  exact ⟨rfl, .inr ⟨HE.out, rfl, (HB.out.later q0).fm⟩⟩
 have HE := Lib.hid (show applyS k (.take x) = takeO k x by rw [applyS, if_neg h1])
 have hq : (x.f != k.id) = true := bne_iff_ne.2 h1
 clear h1
 clear h hB0 hr hng hro
 unfold ntV note
 have hta0 := ta_take_time
 have hta1 := ta_take_next
 have hta2 := ta_take_own
 have hta3 := ta_take_take
 go_enter Tryz.func140, Tryz.ntmps140
 go_upto_region 18 with (fail)
 clear hta0 hta1 hta2 hta3
 generalize W.alloc (.cells #[.int .i64 x.f, .int .i64 x.n, .int .i64 x.t, .int .i64 x.u, .string x.s] 244) = V at HR HM HB ⊢
 have HRb := Lib.hid (show W.heap.size = W.heap.size from rfl)
 generalize W.heap.size = rb at HR HOf HNg HRb ⊢
 clear HRb
 obtain ⟨d0, d1, d2, d3, d4, d5⟩ := qa.six HM.out.box
 obtain ⟨n0, n1, n2, n3, n4⟩ := qa.five HR.out
 refine qa.region (by kernel_rfl) (by kernel_rfl) ?_
 repeat (go_big_quiet_step (first | (go_at_call 142; exact qa.of_same (require_t _))))
 refine wpQuiet_nil ?_
 rintro _ ⟨p1, rfl⟩
 clear d0 d1 d2 d3 d4 d5 n0 n1 n2 n3 n4
 have hM1 := Lib.hid (HM.out.later p1.h)
 have hR1 := Lib.hid (HR.out.below p1.h HR.out.lt)
 have hB1 := Lib.hid (HB.out.later p1.h)
 clear HM HR HB
 have HM := hM1
 have HR := hR1
 have HB := hB1
 clear hM1 hR1 hB1
 generalize p1.W = V1 at HM HR HB ⊢
 clear p1 V
 clear hq
 go_upto_region 19 with (fail)
 obtain ⟨n0, n1, n2, n3, n4⟩ := cb_x HR.out
 go_wp2_with fail
 refine (HA.out _ HM.out HB.out).mono ?_
 rintro e w2 hq2
 have HX := Lib.hid (hq2.on HB.out)
 clear hq2 HA n0 n1 n2 n3 n4
 rcases HX.out with ⟨k', a', b', c', ho, rfl, hM, hB'⟩ | ⟨ho, rfl, hB'⟩
 ·have HY := Lib.hid (And.intro ho (And.intro hM hB'))
  clear ho hM hB' HX HM HR HB
  go_wp2
  go_end0
  exact .inl ⟨_, _, _, _, HE.out.trans HY.out.1, rfl, HY.out.2.1, HY.out.2.2⟩
 ·have HY := Lib.hid (And.intro ho hB')
  clear ho hB' HX HM HR HB
  go_wp2
  exact ⟨rfl, .inr ⟨HE.out.trans HY.out.1, rfl, HY.out.2⟩⟩
end Go.Proofs.YtckicpnnclbkpaaGreatDoor.kp

