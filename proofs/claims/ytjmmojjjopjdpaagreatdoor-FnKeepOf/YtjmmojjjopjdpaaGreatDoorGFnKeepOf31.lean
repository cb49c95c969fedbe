/-
  Merged texts: IChg2.
-/
import Derived.Test.YtjmmojjjopjdpaaGreatDoorGFnKeepOf30
/-
  Contract of (*impl.Keep).change: records that let go of a message and that take one out.
-/
namespace Go.Proofs.YtjmmojjjopjdpaaGreatDoor.kp
open Go.ChangeShapes Go.WideShapes Go.ChangeAt Go.RowKit
open Go.Proofs.YtjmmojjjopjdpaaGreatDoor.wd Go.Proofs.YtjmmojjjopjdpaaGreatDoor.ow Go.Proofs.YtjmmojjjopjdpaaGreatDoor.rl Go.Proofs.YtjmmojjjopjdpaaGreatDoor.ok Go.Proofs.YtjmmojjjopjdpaaGreatDoor.nb Go.Proofs.YtjmmojjjopjdpaaGreatDoor.nx

section
variable {k : Kp} {m : Mk}
theorem apply_let {i : Nat} (h : k.held.findIdx? (isM m) = some i) : applyS k (.lets m) = some (letS k i m) := by rw [applyS]; simp only [h]
theorem apply_let_no (h : k.held.findIdx? (isM m) = none) : applyS k (.lets m) = none := by rw [applyS]; simp only [h]
theorem apply_eat {i : Nat} (h : k.inbox.findIdx? (isM m) = some i) : applyS k (.eat m) = some (eatS k i) := by rw [applyS]; simp only [h]
theorem apply_eat_no (h : k.inbox.findIdx? (isM m) = none) : applyS k (.eat m) = none := by rw [applyS]; simp only [h]
end

set_option maxRecDepth 100000 in
set_option maxHeartbeats 4000000 in
theorem chg_lets (B : Nat) (W : World) (g r : Nat) (k : Kp) (a b c : Value) (m : Mk) (h : MK B W g k a b c) (hz : Sz 14 k) (hr : r < W.heap.size) (hng : r ≠ g) (hro : Off r a b c) :
    Calls Tryz.prog 119 #[.pointer (some ⟨g, 0, none⟩), .iface 248 (mkV m)] W (ChPost B W g r (applyS k (.lets m))) := by
  have hB0 := (Below.refl W.heap.size W).alloc (Nat.le_refl _) (.cells #[.int .i64 m.f, .int .i64 m.n, .int .i64 m.u] 248)
  have HR := Lib.hid (Blk.new W 248 #[.int .i64 m.f, .int .i64 m.n, .int .i64 m.u])
  have HM := Lib.hid (h.later hB0)
  have HOf := Lib.hid (h.own.off_new (Nat.le_refl W.heap.size))
  have HNg := Lib.hid (show W.heap.size ≠ g from by have := h.box.lt; omega)
  have HB := Lib.hid ((FP.new h hr hng hro).later hB0)
  have HL := Lib.hid (hz.few (show 14 ≤ 1048576 by omega))
  have HS := Lib.hid (fun i (hi : k.held.findIdx? (isM m) = some i) => apply_let hi)
  have HN := Lib.hid (fun (hi : k.held.findIdx? (isM m) = none) => apply_let_no hi)
  clear h hB0 hr hng hro
  unfold mkV mark
  have hta0 := ta_lets_time
  have hta1 := ta_lets_next
  have hta2 := ta_lets_own
  have hta3 := ta_lets_take
  have hta4 := ta_lets_lets
  go_enter Tryz.func119, Tryz.ntmps119
  go_upto_region 22 with (fail)
  clear hta0 hta1 hta2 hta3 hta4
  generalize W.alloc (.cells #[.int .i64 m.f, .int .i64 m.n, .int .i64 m.u] 248) = V at HR HM HB ⊢
  have HRb := Lib.hid (show W.heap.size = W.heap.size from rfl)
  generalize W.heap.size = rb at HR HOf HNg HRb ⊢
  clear HRb
  have hb0 := (Below.refl V.heap.size V).drew
  refine wp_region_held_drew (S := (fun w' : World => Blk w' rb 248 #[.int .i64 m.f, .int .i64 m.n, .int .i64 m.u])) (by kernel_rfl) (HR.out.below hb0 HR.out.lt) (fun hHeld => ?_)
  clear hHeld
  have HMd := Lib.hid (HM.out.later hb0)
  have HRd := Lib.hid (HR.out.below hb0 HR.out.lt)
  have HBd := Lib.hid (HB.out.later hb0)
  clear hb0
  generalize V.drew = Z at HMd HRd HBd ⊢
  have hRd := HRd.out
  obtain ⟨k0, k1, k2, k3, k4, k5⟩ := KBox.cells HMd.out.box
  refine rs.want_take (i := 0) 118 (v := ?_) rfl rfl (by kernel_rfl) (by kernel_rfl) (by kernel_rfl) (fun _ _ _ _ h => h) rfl ?_ (by assumption) ?_
  rotate_left 1
  · (intro w hSw; obtain ⟨n0, n1, n2⟩ := cb_m hSw; go_simp; try with_reducible rfl)
  simp only [List.setIfInBounds_toArray, List.set_cons_zero, List.set_cons_succ]
  refine rs.want_take (i := 1) 119 (v := ?_) rfl rfl (by kernel_rfl) (by kernel_rfl) (by kernel_rfl) (fun _ _ _ _ h => h) rfl ?_ (by assumption) ?_
  rotate_left 1
  · (intro w hSw; obtain ⟨n0, n1, n2⟩ := cb_m hSw; go_simp; try with_reducible rfl)
  simp only [List.setIfInBounds_toArray, List.set_cons_zero, List.set_cons_succ]
  refine rs.want_take (i := 2) 120 (v := ?_) rfl rfl (by kernel_rfl) (by kernel_rfl) (by kernel_rfl) (fun _ _ _ _ h => h) rfl ?_ (by assumption) ?_
  rotate_left 1
  · (intro w hSw; obtain ⟨n0, n1, n2⟩ := cb_m hSw; go_simp; try with_reducible rfl)
  simp only [List.setIfInBounds_toArray, List.set_cons_zero, List.set_cons_succ]
  refine rs.want_take (i := 3) 121 (v := ?_) rfl rfl (by kernel_rfl) (by kernel_rfl) (by kernel_rfl) (fun _ _ _ _ h => h) rfl ?_ (by assumption) ?_
  rotate_left 1
  · (intro w hSw; obtain ⟨n0, n1, n2⟩ := cb_m hSw; go_simp; try with_reducible rfl)
  simp only [List.setIfInBounds_toArray, List.set_cons_zero, List.set_cons_succ]
  refine rs.want_take (i := 5) 123 (v := ?_) rfl rfl (by kernel_rfl) (by kernel_rfl) (by kernel_rfl) (fun _ _ _ _ h => h) rfl ?_ (by assumption) ?_
  rotate_left 1
  · (intro w hSw; obtain ⟨n0, n1, n2⟩ := cb_m hSw; go_simp; try with_reducible rfl)
  simp only [List.setIfInBounds_toArray, List.set_cons_zero, List.set_cons_succ]
  refine rs.want_take (i := 6) 124 (v := ?_) rfl rfl (by kernel_rfl) (by kernel_rfl) (by kernel_rfl) (fun _ _ _ _ h => h) rfl ?_ (by assumption) ?_
  rotate_left 1
  · (intro w hSw; obtain ⟨n0, n1, n2⟩ := cb_m hSw; go_simp; try with_reducible rfl)
  simp only [List.setIfInBounds_toArray, List.set_cons_zero, List.set_cons_succ]
  refine wpAnyH_ready (rs := [4]) (by kernel_rfl) (by simp) ?_
  refine AllReadyH.cons rfl (fun K hK => ?_) AllReadyH.nil
  go_simp
  refine hK.out _ _ HRd.out (fun hHeld => ?_)
  clear hK K hHeld
  refine wpAnyH_ready (rs := [7]) (by kernel_rfl) (by simp) ?_
  refine AllReadyH.cons rfl (fun K hK => ?_) AllReadyH.nil
  go_simp
  refine (removeN_any Z B _ k.held m HMd.out.own.held HL.out.1).mono ?_
  rintro e w2 hq2
  rcases hq2 with ⟨i, hi, v', rfl, hO2, hG2, hF2⟩ | ⟨hn2, rfl, hb2⟩
  rotate_left 1
  · exact ⟨rfl, .inr ⟨HN.out hn2, rfl, (HBd.out.later hb2).fm⟩⟩
  have HE := Lib.hid (HS.out i hi)
  clear hi
  obtain ⟨A2, c2, rfl⟩ := OwnAt.form hO2
  obtain ⟨hM3, hB3⟩ := MK.mut3 HMd.out hO2 hG2 hF2
  have box2 := blk_row HMd.out.box hG2 HMd.out.off.1
  have s0 := box2.cell 3
  have f0 := box2.frozen 3
  simp only [List.getElem?_toArray, List.getElem?_cons_zero, List.getElem?_cons_succ] at s0
  have HR2 := Lib.hid (blk_row HRd.out hG2 HOf.out.1)
  have HM3 := Lib.hid hM3
  have HB3 := Lib.hid (HBd.out.mut3 hG2 hF2 hB3)
  have HOf3 := Lib.hid (from_off33 HRd.out.lt HOf.out hF2)
  clear hO2 hG2 hF2 hM3 hB3 box2
  refine hK.out _ _ HR2.out (fun hHeld => ?_)
  clear hK K hHeld k0 k1 k2 k3 k4 k5 hRd
  have hR2 := HR2.out
  refine rs.want_take (i := 8) 126 (v := ?_) rfl rfl (by kernel_rfl) (by kernel_rfl) (by kernel_rfl) (fun _ _ _ _ h => h) rfl ?_ (by assumption) ?_
  rotate_left 1
  · (intro w hSw; obtain ⟨n0, n1, n2⟩ := cb_m hSw; go_simp; try with_reducible rfl)
  simp only [List.setIfInBounds_toArray, List.set_cons_zero, List.set_cons_succ]
  refine rs.want_take (i := 9) 127 (v := ?_) rfl rfl (by kernel_rfl) (by kernel_rfl) (by kernel_rfl) (fun _ _ _ _ h => h) rfl ?_ (by assumption) ?_
  rotate_left 1
  · (intro w hSw; obtain ⟨n0, n1, n2⟩ := cb_m hSw; go_simp; try with_reducible rfl)
  simp only [List.setIfInBounds_toArray, List.set_cons_zero, List.set_cons_succ]
  refine wpAnyH_ready (rs := [10]) (by kernel_rfl) (by simp) ?_
  refine AllReadyH.cons rfl (fun K hK => ?_) AllReadyH.nil
  go_simp
  refine hK.out _ _ (HR2.out.far (p := ⟨g, 3, none⟩) HNg.out _) (fun hHeld => ?_)
  clear hK K hHeld s0 f0 hR2
  refine wpAnyH_done (by kernel_rfl) ?_ _
  have HR3 := Lib.hid (HR2.out.far (p := ⟨g, 3, none⟩) HNg.out (.slice A2 (cutL k.held i).length c2))
  clear HM HR HB HMd HRd HBd HR2 HOf
  have HM := HM3
  have HR := HR3
  have HB := HB3
  have HOf := HOf3
  clear HM3 HR3 HB3 HOf3
  generalize w2.setCell ⟨g, 3, none⟩ (.slice A2 (cutL k.held i).length c2) = V2 at HM HR HB ⊢
  clear V Z w2
  generalize Value.slice A2 (cutL k.held i).length c2 = x3 at HM HOf HB ⊢
  go_upto_region 23 with (fail)
  have hb0 := (Below.refl V2.heap.size V2).drew
  refine wp_region_held_drew (S := (fun w' : World => Blk w' rb 248 #[.int .i64 m.f, .int .i64 m.n, .int .i64 m.u])) (by kernel_rfl) (HR.out.below hb0 HR.out.lt) (fun hHeld => ?_)
  clear hHeld
  have HMd := Lib.hid (HM.out.later hb0)
  have HRd := Lib.hid (HR.out.below hb0 HR.out.lt)
  have HBd := Lib.hid (HB.out.later hb0)
  clear hb0
  generalize V2.drew = Z at HMd HRd HBd ⊢
  have hRd := HRd.out
  obtain ⟨k0, k1, k2, k3, k4, k5⟩ := KBox.cells HMd.out.box
  refine rs.want_take (i := 0) 128 (v := ?_) rfl rfl (by kernel_rfl) (by kernel_rfl) (by kernel_rfl) (fun _ _ _ _ h => h) rfl ?_ (by assumption) ?_
  rotate_left 1
  · (intro w hSw; obtain ⟨n0, n1, n2⟩ := cb_m hSw; go_simp; try with_reducible rfl)
  simp only [List.setIfInBounds_toArray, List.set_cons_zero, List.set_cons_succ]
  refine rs.want_take (i := 1) 129 (v := ?_) rfl rfl (by kernel_rfl) (by kernel_rfl) (by kernel_rfl) (fun _ _ _ _ h => h) rfl ?_ (by assumption) ?_
  rotate_left 1
  · (intro w hSw; obtain ⟨n0, n1, n2⟩ := cb_m hSw; go_simp; try with_reducible rfl)
  simp only [List.setIfInBounds_toArray, List.set_cons_zero, List.set_cons_succ]
  refine rs.want_take (i := 2) 130 (v := ?_) rfl rfl (by kernel_rfl) (by kernel_rfl) (by kernel_rfl) (fun _ _ _ _ h => h) rfl ?_ (by assumption) ?_
  rotate_left 1
  · (intro w hSw; obtain ⟨n0, n1, n2⟩ := cb_m hSw; go_simp; try with_reducible rfl)
  simp only [List.setIfInBounds_toArray, List.set_cons_zero, List.set_cons_succ]
  refine rs.want_take (i := 3) 131 (v := ?_) rfl rfl (by kernel_rfl) (by kernel_rfl) (by kernel_rfl) (fun _ _ _ _ h => h) rfl ?_ (by assumption) ?_
  rotate_left 1
  · (intro w hSw; obtain ⟨n0, n1, n2⟩ := cb_m hSw; go_simp; try with_reducible rfl)
  simp only [List.setIfInBounds_toArray, List.set_cons_zero, List.set_cons_succ]
  refine rs.want_take (i := 5) 133 (v := ?_) rfl rfl (by kernel_rfl) (by kernel_rfl) (by kernel_rfl) (fun _ _ _ _ h => h) rfl ?_ (by assumption) ?_
  rotate_left 1
  · (intro w hSw; obtain ⟨n0, n1, n2⟩ := cb_m hSw; go_simp; try with_reducible rfl)
  simp only [List.setIfInBounds_toArray, List.set_cons_zero, List.set_cons_succ]
  refine rs.want_take (i := 6) 134 (v := ?_) rfl rfl (by kernel_rfl) (by kernel_rfl) (by kernel_rfl) (fun _ _ _ _ h => h) rfl ?_ (by assumption) ?_
  rotate_left 1
  · (intro w hSw; obtain ⟨n0, n1, n2⟩ := cb_m hSw; go_simp; try with_reducible rfl)
  simp only [List.setIfInBounds_toArray, List.set_cons_zero, List.set_cons_succ]
  refine wpAnyH_ready (rs := [4]) (by kernel_rfl) (by simp) ?_
  refine AllReadyH.cons rfl (fun K hK => ?_) AllReadyH.nil
  go_simp
  refine hK.out _ _ HRd.out (fun hHeld => ?_)
  clear hK K hHeld
  refine wpAnyH_ready (rs := [7]) (by kernel_rfl) (by simp) ?_
  refine AllReadyH.cons rfl (fun K hK => ?_) AllReadyH.nil
  go_simp
  refine (insertM_any Z B _ k.marks m HMd.out.own.marks HMd.out.bW HL.out.2.1).mono ?_
  rintro e w2 ⟨v', rfl, hO2, hG2, hF2⟩
  obtain ⟨A2, c2, rfl⟩ := OwnAt.form hO2
  obtain ⟨hM3, hB3⟩ := MK.mut4 HMd.out hO2 hG2 hF2
  have box2 := blk_row HMd.out.box hG2 HMd.out.off.2.1
  have s0 := box2.cell 4
  have f0 := box2.frozen 4
  simp only [List.getElem?_toArray, List.getElem?_cons_zero, List.getElem?_cons_succ] at s0
  have HR2 := Lib.hid (blk_row HRd.out hG2 HOf.out.2.1)
  have HM3 := Lib.hid hM3
  have HB3 := Lib.hid (HBd.out.mut4 hG2 hF2 hB3)
  have HOf3 := Lib.hid (from_off34 HRd.out.lt HOf.out hF2)
  clear hO2 hG2 hF2 hM3 hB3 box2
  refine hK.out _ _ HR2.out (fun hHeld => ?_)
  clear hK K hHeld k0 k1 k2 k3 k4 k5 hRd
  have hR2 := HR2.out
  refine rs.want_take (i := 8) 136 (v := ?_) rfl rfl (by kernel_rfl) (by kernel_rfl) (by kernel_rfl) (fun _ _ _ _ h => h) rfl ?_ (by assumption) ?_
  rotate_left 1
  · (intro w hSw; obtain ⟨n0, n1, n2⟩ := cb_m hSw; go_simp; try with_reducible rfl)
  simp only [List.setIfInBounds_toArray, List.set_cons_zero, List.set_cons_succ]
  refine rs.want_take (i := 9) 137 (v := ?_) rfl rfl (by kernel_rfl) (by kernel_rfl) (by kernel_rfl) (fun _ _ _ _ h => h) rfl ?_ (by assumption) ?_
  rotate_left 1
  · (intro w hSw; obtain ⟨n0, n1, n2⟩ := cb_m hSw; go_simp; try with_reducible rfl)
  simp only [List.setIfInBounds_toArray, List.set_cons_zero, List.set_cons_succ]
  refine wpAnyH_ready (rs := [10]) (by kernel_rfl) (by simp) ?_
  refine AllReadyH.cons rfl (fun K hK => ?_) AllReadyH.nil
  go_simp
  refine hK.out _ _ (HR2.out.far (p := ⟨g, 4, none⟩) HNg.out _) (fun hHeld => ?_)
  clear hK K hHeld s0 f0 hR2
  refine wpAnyH_done (by kernel_rfl) ?_ _
  have HR3 := Lib.hid (HR2.out.far (p := ⟨g, 4, none⟩) HNg.out (.slice A2 (putM k.marks m).length c2))
  clear HM HR HB HMd HRd HBd HR2 HOf
  have HM := HM3
  have HR := HR3
  have HB := HB3
  have HOf := HOf3
  clear HM3 HR3 HB3 HOf3
  generalize w2.setCell ⟨g, 4, none⟩ (.slice A2 (putM k.marks m).length c2) = V3 at HM HR HB ⊢
  clear V2 Z w2
  generalize Value.slice A2 (putM k.marks m).length c2 = x4 at HM HOf HB ⊢
  have HZ := Lib.hid (And.intro HM.out HB.out)
  clear HM HR HB HOf
  go_wp2
  go_end0
  exact .inl ⟨_, _, _, _, HE.out, rfl, HZ.out.1, HZ.out.2.fm, HZ.out.2.off⟩

set_option maxRecDepth 100000 in
set_option maxHeartbeats 4000000 in
theorem chg_eat (B : Nat) (W : World) (g r : Nat) (k : Kp) (a b c : Value) (m : Mk) (h : MK B W g k a b c) (hz : Sz 14 k) (hr : r < W.heap.size) (hng : r ≠ g) (hro : Off r a b c) :
    Calls Tryz.prog 119 #[.pointer (some ⟨g, 0, none⟩), .iface 250 (mkV m)] W (ChPost B W g r (applyS k (.eat m))) := by
  have hB0 := (Below.refl W.heap.size W).alloc (Nat.le_refl _) (.cells #[.int .i64 m.f, .int .i64 m.n, .int .i64 m.u] 250)
  have HR := Lib.hid (Blk.new W 250 #[.int .i64 m.f, .int .i64 m.n, .int .i64 m.u])
  have HM := Lib.hid (h.later hB0)
  have HOf := Lib.hid (h.own.off_new (Nat.le_refl W.heap.size))
  have HNg := Lib.hid (show W.heap.size ≠ g from by have := h.box.lt; omega)
  have HB := Lib.hid ((FP.new h hr hng hro).later hB0)
  have HL := Lib.hid (hz.few (show 14 ≤ 1048576 by omega))
  have HS := Lib.hid (fun i (hi : k.inbox.findIdx? (isM m) = some i) => apply_eat hi)
  have HN := Lib.hid (fun (hi : k.inbox.findIdx? (isM m) = none) => apply_eat_no hi)
  clear h hB0 hr hng hro
  unfold mkV mark
  have hta0 := ta_eat_time
  have hta1 := ta_eat_next
  have hta2 := ta_eat_own
  have hta3 := ta_eat_take
  have hta4 := ta_eat_lets
  have hta5 := ta_eat_eat
  go_enter Tryz.func119, Tryz.ntmps119
  go_upto_region 26 with (fail)
  clear hta0 hta1 hta2 hta3 hta4 hta5
  generalize W.alloc (.cells #[.int .i64 m.f, .int .i64 m.n, .int .i64 m.u] 250) = V at HR HM HB ⊢
  have HRb := Lib.hid (show W.heap.size = W.heap.size from rfl)
  generalize W.heap.size = rb at HR HOf HNg HRb ⊢
  clear HRb
  have hb0 := (Below.refl V.heap.size V).drew
  refine wp_region_held_drew (S := (fun w' : World => Blk w' rb 250 #[.int .i64 m.f, .int .i64 m.n, .int .i64 m.u])) (by kernel_rfl) (HR.out.below hb0 HR.out.lt) (fun hHeld => ?_)
  clear hHeld
  have HMd := Lib.hid (HM.out.later hb0)
  have HRd := Lib.hid (HR.out.below hb0 HR.out.lt)
  have HBd := Lib.hid (HB.out.later hb0)
  clear hb0
  generalize V.drew = Z at HMd HRd HBd ⊢
  have hRd := HRd.out
  obtain ⟨k0, k1, k2, k3, k4, k5⟩ := KBox.cells HMd.out.box
  refine rs.want_take (i := 0) 141 (v := ?_) rfl rfl (by kernel_rfl) (by kernel_rfl) (by kernel_rfl) (fun _ _ _ _ h => h) rfl ?_ (by assumption) ?_
  rotate_left 1
  · (intro w hSw; obtain ⟨n0, n1, n2⟩ := cb_m hSw; go_simp; try with_reducible rfl)
  simp only [List.setIfInBounds_toArray, List.set_cons_zero, List.set_cons_succ]
  refine rs.want_take (i := 1) 142 (v := ?_) rfl rfl (by kernel_rfl) (by kernel_rfl) (by kernel_rfl) (fun _ _ _ _ h => h) rfl ?_ (by assumption) ?_
  rotate_left 1
  · (intro w hSw; obtain ⟨n0, n1, n2⟩ := cb_m hSw; go_simp; try with_reducible rfl)
  simp only [List.setIfInBounds_toArray, List.set_cons_zero, List.set_cons_succ]
  refine rs.want_take (i := 2) 143 (v := ?_) rfl rfl (by kernel_rfl) (by kernel_rfl) (by kernel_rfl) (fun _ _ _ _ h => h) rfl ?_ (by assumption) ?_
  rotate_left 1
  · (intro w hSw; obtain ⟨n0, n1, n2⟩ := cb_m hSw; go_simp; try with_reducible rfl)
  simp only [List.setIfInBounds_toArray, List.set_cons_zero, List.set_cons_succ]
  refine rs.want_take (i := 3) 144 (v := ?_) rfl rfl (by kernel_rfl) (by kernel_rfl) (by kernel_rfl) (fun _ _ _ _ h => h) rfl ?_ (by assumption) ?_
  rotate_left 1
  · (intro w hSw; obtain ⟨n0, n1, n2⟩ := cb_m hSw; go_simp; try with_reducible rfl)
  simp only [List.setIfInBounds_toArray, List.set_cons_zero, List.set_cons_succ]
  refine rs.want_take (i := 5) 146 (v := ?_) rfl rfl (by kernel_rfl) (by kernel_rfl) (by kernel_rfl) (fun _ _ _ _ h => h) rfl ?_ (by assumption) ?_
  rotate_left 1
  · (intro w hSw; obtain ⟨n0, n1, n2⟩ := cb_m hSw; go_simp; try with_reducible rfl)
  simp only [List.setIfInBounds_toArray, List.set_cons_zero, List.set_cons_succ]
  refine rs.want_take (i := 6) 147 (v := ?_) rfl rfl (by kernel_rfl) (by kernel_rfl) (by kernel_rfl) (fun _ _ _ _ h => h) rfl ?_ (by assumption) ?_
  rotate_left 1
  · (intro w hSw; obtain ⟨n0, n1, n2⟩ := cb_m hSw; go_simp; try with_reducible rfl)
  simp only [List.setIfInBounds_toArray, List.set_cons_zero, List.set_cons_succ]
  refine wpAnyH_ready (rs := [4]) (by kernel_rfl) (by simp) ?_
  refine AllReadyH.cons rfl (fun K hK => ?_) AllReadyH.nil
  go_simp
  refine hK.out _ _ HRd.out (fun hHeld => ?_)
  clear hK K hHeld
  refine wpAnyH_ready (rs := [7]) (by kernel_rfl) (by simp) ?_
  refine AllReadyH.cons rfl (fun K hK => ?_) AllReadyH.nil
  go_simp
  refine (removeN_any Z B _ k.inbox m HMd.out.own.inbox HL.out.2.2).mono ?_
  rintro e w2 hq2
  rcases hq2 with ⟨i, hi, v', rfl, hO2, hG2, hF2⟩ | ⟨hn2, rfl, hb2⟩
  rotate_left 1
  · exact ⟨rfl, .inr ⟨HN.out hn2, rfl, (HBd.out.later hb2).fm⟩⟩
  have HE := Lib.hid (HS.out i hi)
  clear hi
  obtain ⟨A2, c2, rfl⟩ := OwnAt.form hO2
  obtain ⟨hM3, hB3⟩ := MK.mut5 HMd.out hO2 hG2 hF2
  have box2 := blk_row HMd.out.box hG2 HMd.out.off.2.2
  have s0 := box2.cell 5
  have f0 := box2.frozen 5
  simp only [List.getElem?_toArray, List.getElem?_cons_zero, List.getElem?_cons_succ] at s0
  have HR2 := Lib.hid (blk_row HRd.out hG2 HOf.out.2.2)
  have HM3 := Lib.hid hM3
  have HB3 := Lib.hid (HBd.out.mut5 hG2 hF2 hB3)
  have HOf3 := Lib.hid (from_off35 HRd.out.lt HOf.out hF2)
  clear hO2 hG2 hF2 hM3 hB3 box2
  refine hK.out _ _ HR2.out (fun hHeld => ?_)
  clear hK K hHeld k0 k1 k2 k3 k4 k5 hRd
  have hR2 := HR2.out
  refine rs.want_take (i := 8) 149 (v := ?_) rfl rfl (by kernel_rfl) (by kernel_rfl) (by kernel_rfl) (fun _ _ _ _ h => h) rfl ?_ (by assumption) ?_
  rotate_left 1
  · (intro w hSw; obtain ⟨n0, n1, n2⟩ := cb_m hSw; go_simp; try with_reducible rfl)
  simp only [List.setIfInBounds_toArray, List.set_cons_zero, List.set_cons_succ]
  refine rs.want_take (i := 9) 150 (v := ?_) rfl rfl (by kernel_rfl) (by kernel_rfl) (by kernel_rfl) (fun _ _ _ _ h => h) rfl ?_ (by assumption) ?_
  rotate_left 1
  · (intro w hSw; obtain ⟨n0, n1, n2⟩ := cb_m hSw; go_simp; try with_reducible rfl)
  simp only [List.setIfInBounds_toArray, List.set_cons_zero, List.set_cons_succ]
  refine wpAnyH_ready (rs := [10]) (by kernel_rfl) (by simp) ?_
  refine AllReadyH.cons rfl (fun K hK => ?_) AllReadyH.nil
  go_simp
  refine hK.out _ _ (HR2.out.far (p := ⟨g, 5, none⟩) HNg.out _) (fun hHeld => ?_)
  clear hK K hHeld s0 f0 hR2
  refine wpAnyH_done (by kernel_rfl) ?_ _
  have HR3 := Lib.hid (HR2.out.far (p := ⟨g, 5, none⟩) HNg.out (.slice A2 (cutL k.inbox i).length c2))
  clear HM HR HB HMd HRd HBd HR2 HOf
  have HM := HM3
  have HR := HR3
  have HB := HB3
  have HOf := HOf3
  clear HM3 HR3 HB3 HOf3
  generalize w2.setCell ⟨g, 5, none⟩ (.slice A2 (cutL k.inbox i).length c2) = V2 at HM HR HB ⊢
  clear V Z w2
  generalize Value.slice A2 (cutL k.inbox i).length c2 = x5 at HM HOf HB ⊢
  have HZ := Lib.hid (And.intro HM.out HB.out)
  clear HM HR HB HOf
  go_wp2
  go_end0
  exact .inl ⟨_, _, _, _, HE.out, rfl, HZ.out.1, HZ.out.2.fm, HZ.out.2.off⟩
end Go.Proofs.YtjmmojjjopjdpaaGreatDoor.kp

