/-
  Merged texts: IChg4, INum, IOk0, IOk.
-/
import Derived.Test.YtjmmojjjopjdpaaGreatDoorGFnKeepOf30
import Derived.Test.YtjmmojjjopjdpaaGreatDoorGFnKeepOf1
import Derived.Test.YtjmmojjjopjdpaaGreatDoorGFnKeepOf23
import Derived.Test.YtjmmojjjopjdpaaGreatDoorGFnKeepOf4
import Derived.Below
import Derived.Deep.RegionHeld3
import Derived.Lib.AtoiErrMem
/-
  Contract of (*impl.Keep).change: records of a message of its own and of one taken in.
-/
namespace Go.Proofs.YtjmmojjjopjdpaaGreatDoor.kp
open Go.ChangeShapes Go.WideShapes Go.ChangeAt Go.RowKit
open Go.Proofs.YtjmmojjjopjdpaaGreatDoor.wd Go.Proofs.YtjmmojjjopjdpaaGreatDoor.ow Go.Proofs.YtjmmojjjopjdpaaGreatDoor.rl Go.Proofs.YtjmmojjjopjdpaaGreatDoor.ok Go.Proofs.YtjmmojjjopjdpaaGreatDoor.nb Go.Proofs.YtjmmojjjopjdpaaGreatDoor.nx

theorem ChPost.on {B : Nat} {W U : World} {g r : Nat} {a0 b0 c0 : Value} {o : Option Kp} {e : Ending} {w' : World} (h : ChPost B U g r o e w') (hB : FP B W U r g a0 b0 c0) : ChPost B W g r o e w' := by
  rcases h with ⟨k', a, b, c, h1, h2, h3, h4⟩ | ⟨h1, h2, h3⟩
  · exact .inl ⟨k', a, b, c, h1, h2, h3, ⟨hB.bel.trans h4.1.1, h4.1.2.trans hB.eq⟩, h4.2⟩
  · exact .inr ⟨h1, h2, hB.bel.trans h3.1, h3.2.trans hB.eq⟩

set_option maxRecDepth 100000 in
set_option maxHeartbeats 4000000 in
theorem chg_own (B : Nat) (W : World) (g r : Nat) (k : Kp) (a b c : Value) (x : Nt) (h : MK B W g k a b c) (hz : Sz 14 k) (hr : r < W.heap.size) (hng : r ≠ g) (hro : Off r a b c) (hk : okK k = true) (hx : okNt x = true) :
    Calls Tryz.prog 119 #[.pointer (some ⟨g, 0, none⟩), .iface 244 (ntV x)] W (ChPost B W g r (applyS k (.own x))) := by
  have hB0 := (Below.refl W.heap.size W).alloc (Nat.le_refl _) (.cells #[.int .i64 x.f, .int .i64 x.n, .int .i64 x.t, .int .i64 x.u, .string x.s] 244)
  have HR := Lib.hid (Blk.new W 244 #[.int .i64 x.f, .int .i64 x.n, .int .i64 x.t, .int .i64 x.u, .string x.s])
  have HM := Lib.hid (h.later hB0)
  have HOf := Lib.hid (h.own.off_new (Nat.le_refl W.heap.size))
  have HNg := Lib.hid (show W.heap.size ≠ g from by have := h.box.lt; omega)
  have HB := Lib.hid ((FP.new h hr hng hro).later hB0)
  have HL := Lib.hid (hz.few (show 14 ≤ 1048576 by omega))
  have HA := Lib.hid (fun U (hM : MK B U g { k with next := k.next + 1 } a b c) (hF : FP B W U r g a b c) => accept_any B U g r { k with next := k.next + 1 } a b c x hM hx (sz_next hz (k.next + 1)) hF.lt hF.ng hF.off)
  unfold ntV note at HA
  have hn := inB_iff.1 (okK_parts hk).2.2.1
  have hw : IntKind.i64.wrap (k.next + 1) = k.next + 1 := by rw [IntKind.wrap_i64]; omega
  clear hk hn hx
  by_cases h1 : x.f = k.id
  case neg =>
    have HE := Lib.hid (show applyS k (.own x) = none by rw [applyS, if_neg (fun e => h1 e.1)])
    have hq : (x.f == k.id) = false := beq_eq_false_iff_ne.2 h1
    clear h1 HA
    clear h hB0 hr hng hro
    unfold ntV note
    have hta0 := ta_own_time
    have hta1 := ta_own_next
    have hta2 := ta_own_own
    go_enter Tryz.func119, Tryz.ntmps119
    go_upto_region 13 with (fail)
    clear hta0 hta1 hta2
    generalize W.alloc (.cells #[.int .i64 x.f, .int .i64 x.n, .int .i64 x.t, .int .i64 x.u, .string x.s] 244) = V at HR HM HB ⊢
    have HRb := Lib.hid (show W.heap.size = W.heap.size from rfl)
    generalize W.heap.size = rb at HR HOf HNg HRb ⊢
    clear HRb
    obtain ⟨d0, d1, d2, d3, d4, d5⟩ := qa.six HM.out.box
    obtain ⟨n0, n1, n2, n3, n4⟩ := qa.five HR.out
    refine wp_region_held_drew (S := (fun w' : World => ∃ p : qa.After V, w' = p.W)) (by kernel_rfl) ⟨⟨_, (Below.refl _ V).drew⟩, rfl⟩ (fun hHeld => ?_)
    have q0 : Below V.heap.size V V.drew := (Below.refl _ V).drew
    refine rs.want_take (i := 0) 69 (v := ?_) rfl rfl (by kernel_rfl) (by kernel_rfl) (by kernel_rfl) (fun _ _ _ _ h => h) rfl ?_ (by assumption) ?_
    rotate_left 1
    · (rintro w ⟨pw, rfl⟩; go_simp; try with_reducible rfl)
    simp only [List.setIfInBounds_toArray, List.set_cons_zero, List.set_cons_succ]
    refine rs.want_take (i := 1) 70 (v := ?_) rfl rfl (by kernel_rfl) (by kernel_rfl) (by kernel_rfl) (fun _ _ _ _ h => h) rfl ?_ (by assumption) ?_
    rotate_left 1
    · (rintro w ⟨pw, rfl⟩; go_simp; try with_reducible rfl)
    simp only [List.setIfInBounds_toArray, List.set_cons_zero, List.set_cons_succ]
    refine rs.want_take (i := 2) 71 (v := ?_) rfl rfl (by kernel_rfl) (by kernel_rfl) (by kernel_rfl) (fun _ _ _ _ h => h) rfl ?_ (by assumption) ?_
    rotate_left 1
    · (rintro w ⟨pw, rfl⟩; go_simp; try with_reducible rfl)
    simp only [List.setIfInBounds_toArray, List.set_cons_zero, List.set_cons_succ]
    refine rs.want_take (i := 3) 72 (v := ?_) rfl rfl (by kernel_rfl) (by kernel_rfl) (by kernel_rfl) (fun _ _ _ _ h => h) rfl ?_ (by assumption) ?_
    rotate_left 1
    · (rintro w ⟨pw, rfl⟩; go_simp; try with_reducible rfl)
    simp only [List.setIfInBounds_toArray, List.set_cons_zero, List.set_cons_succ]
    refine rs.want_take (i := 4) 73 (v := ?_) rfl rfl (by kernel_rfl) (by kernel_rfl) (by kernel_rfl) (fun _ _ _ _ h => h) rfl ?_ (by assumption) ?_
    rotate_left 1
    · (rintro w ⟨pw, rfl⟩; go_simp; try with_reducible rfl)
    simp only [List.setIfInBounds_toArray, List.set_cons_zero, List.set_cons_succ]
    refine rs.want_take (i := 5) 74 (v := ?_) rfl rfl (by kernel_rfl) (by kernel_rfl) (by kernel_rfl) (fun _ _ _ _ h => h) rfl ?_ (by assumption) ?_
    rotate_left 1
    · (rintro w ⟨pw, rfl⟩; go_simp; try with_reducible rfl)
    simp only [List.setIfInBounds_toArray, List.set_cons_zero, List.set_cons_succ]
    refine rs.want_take (i := 6) 75 (v := ?_) rfl rfl (by kernel_rfl) (by kernel_rfl) (by kernel_rfl) (fun _ _ _ _ h => h) rfl ?_ (by assumption) ?_
    rotate_left 1
    · (rintro w ⟨pw, rfl⟩; go_simp; try with_reducible rfl)
    simp only [List.setIfInBounds_toArray, List.set_cons_zero, List.set_cons_succ]
    refine rs.want_take (i := 7) 76 (v := ?_) rfl rfl (by kernel_rfl) (by kernel_rfl) (by kernel_rfl) (fun _ _ _ _ h => h) rfl ?_ (by assumption) ?_
    rotate_left 1
    · (rintro w ⟨pw, rfl⟩; go_simp; try with_reducible rfl)
    simp only [List.setIfInBounds_toArray, List.set_cons_zero, List.set_cons_succ]
    refine rs.want_take (i := 8) 77 (v := ?_) rfl rfl (by kernel_rfl) (by kernel_rfl) (by kernel_rfl) (fun _ _ _ _ h => h) rfl ?_ (by assumption) ?_
    rotate_left 1
    · (rintro w ⟨pw, rfl⟩; go_simp; try with_reducible rfl)
    simp only [List.setIfInBounds_toArray, List.set_cons_zero, List.set_cons_succ]
    refine rs.skip_take (i := 9) 78 rfl (by kernel_rfl) (by kernel_rfl) (by kernel_rfl) (fun _ _ _ _ h => h) rfl (by assumption) ?_
    simp only [List.setIfInBounds_toArray, List.set_cons_zero, List.set_cons_succ]
    refine rs.skip_take (i := 10) 79 rfl (by kernel_rfl) (by kernel_rfl) (by kernel_rfl) (fun _ _ _ _ h => h) rfl (by assumption) ?_
    simp only [List.setIfInBounds_toArray, List.set_cons_zero, List.set_cons_succ]
    refine rs.skip_take (i := 11) 80 rfl (by kernel_rfl) (by kernel_rfl) (by kernel_rfl) (fun _ _ _ _ h => h) rfl (by assumption) ?_
    simp only [List.setIfInBounds_toArray, List.set_cons_zero, List.set_cons_succ]
    refine rs.skip_take (i := 12) 81 rfl (by kernel_rfl) (by kernel_rfl) (by kernel_rfl) (fun _ _ _ _ h => h) rfl (by assumption) ?_
    simp only [List.setIfInBounds_toArray, List.set_cons_zero, List.set_cons_succ]
    refine rs.skip_take (i := 13) 82 rfl (by kernel_rfl) (by kernel_rfl) (by kernel_rfl) (fun _ _ _ _ h => h) rfl (by assumption) ?_
    simp only [List.setIfInBounds_toArray, List.set_cons_zero, List.set_cons_succ]
    refine rs.skip_take (i := 14) 83 rfl (by kernel_rfl) (by kernel_rfl) (by kernel_rfl) (fun _ _ _ _ h => h) rfl (by assumption) ?_
    simp only [List.setIfInBounds_toArray, List.set_cons_zero, List.set_cons_succ]
    refine rs.skip_take (i := 15) 84 rfl (by kernel_rfl) (by kernel_rfl) (by kernel_rfl) (fun _ _ _ _ h => h) rfl (by assumption) ?_
    simp only [List.setIfInBounds_toArray, List.set_cons_zero, List.set_cons_succ]
    refine rs.skip_take (i := 16) 85 rfl (by kernel_rfl) (by kernel_rfl) (by kernel_rfl) (fun _ _ _ _ h => h) rfl (by assumption) ?_
    simp only [List.setIfInBounds_toArray, List.set_cons_zero, List.set_cons_succ]
    refine rs.want_take (i := 17) 86 (v := ?_) rfl rfl (by kernel_rfl) (by kernel_rfl) (by kernel_rfl) (fun _ _ _ _ h => h) rfl ?_ (by assumption) ?_
    rotate_left 1
    · (rintro w ⟨pw, rfl⟩; go_simp; try with_reducible rfl)
    simp only [List.setIfInBounds_toArray, List.set_cons_zero, List.set_cons_succ]
    refine wpAnyH_ready (rs := [18]) (by kernel_rfl) (by simp) ?_
    refine AllReadyH.cons rfl (fun K hK => ?_) AllReadyH.nil
    go_simp
    refine (require_f _).mono ?_
    rintro e w3 ⟨rfl, rfl⟩
    exact ⟨rfl, .inr ⟨HE.out, rfl, (HB.out.later q0).fm⟩⟩
  have hq : (x.f == k.id) = true := beq_iff_eq.2 h1
  by_cases h2 : x.n = k.next
  case neg =>
    have HE := Lib.hid (show applyS k (.own x) = none by rw [applyS, if_neg (fun e => h2 e.2)])
    have hq2 : (x.n == k.next) = false := beq_eq_false_iff_ne.2 h2
    clear h1 h2 HA
    clear h hB0 hr hng hro
    unfold ntV note
    have hta0 := ta_own_time
    have hta1 := ta_own_next
    have hta2 := ta_own_own
    go_enter Tryz.func119, Tryz.ntmps119
    go_upto_region 13 with (fail)
    clear hta0 hta1 hta2
    generalize W.alloc (.cells #[.int .i64 x.f, .int .i64 x.n, .int .i64 x.t, .int .i64 x.u, .string x.s] 244) = V at HR HM HB ⊢
    have HRb := Lib.hid (show W.heap.size = W.heap.size from rfl)
    generalize W.heap.size = rb at HR HOf HNg HRb ⊢
    clear HRb
    obtain ⟨d0, d1, d2, d3, d4, d5⟩ := qa.six HM.out.box
    obtain ⟨n0, n1, n2, n3, n4⟩ := qa.five HR.out
    refine wp_region_held_drew (S := (fun w' : World => ∃ p : qa.After V, w' = p.W)) (by kernel_rfl) ⟨⟨_, (Below.refl _ V).drew⟩, rfl⟩ (fun hHeld => ?_)
    have q0 : Below V.heap.size V V.drew := (Below.refl _ V).drew
    refine rs.want_take (i := 0) 69 (v := ?_) rfl rfl (by kernel_rfl) (by kernel_rfl) (by kernel_rfl) (fun _ _ _ _ h => h) rfl ?_ (by assumption) ?_
    rotate_left 1
    · (rintro w ⟨pw, rfl⟩; go_simp; try with_reducible rfl)
    simp only [List.setIfInBounds_toArray, List.set_cons_zero, List.set_cons_succ]
    refine rs.want_take (i := 1) 70 (v := ?_) rfl rfl (by kernel_rfl) (by kernel_rfl) (by kernel_rfl) (fun _ _ _ _ h => h) rfl ?_ (by assumption) ?_
    rotate_left 1
    · (rintro w ⟨pw, rfl⟩; go_simp; try with_reducible rfl)
    simp only [List.setIfInBounds_toArray, List.set_cons_zero, List.set_cons_succ]
    refine rs.want_take (i := 2) 71 (v := ?_) rfl rfl (by kernel_rfl) (by kernel_rfl) (by kernel_rfl) (fun _ _ _ _ h => h) rfl ?_ (by assumption) ?_
    rotate_left 1
    · (rintro w ⟨pw, rfl⟩; go_simp; try with_reducible rfl)
    simp only [List.setIfInBounds_toArray, List.set_cons_zero, List.set_cons_succ]
    refine rs.want_take (i := 3) 72 (v := ?_) rfl rfl (by kernel_rfl) (by kernel_rfl) (by kernel_rfl) (fun _ _ _ _ h => h) rfl ?_ (by assumption) ?_
    rotate_left 1
    · (rintro w ⟨pw, rfl⟩; go_simp; try with_reducible rfl)
    simp only [List.setIfInBounds_toArray, List.set_cons_zero, List.set_cons_succ]
    refine rs.want_take (i := 4) 73 (v := ?_) rfl rfl (by kernel_rfl) (by kernel_rfl) (by kernel_rfl) (fun _ _ _ _ h => h) rfl ?_ (by assumption) ?_
    rotate_left 1
    · (rintro w ⟨pw, rfl⟩; go_simp; try with_reducible rfl)
    simp only [List.setIfInBounds_toArray, List.set_cons_zero, List.set_cons_succ]
    refine rs.want_take (i := 5) 74 (v := ?_) rfl rfl (by kernel_rfl) (by kernel_rfl) (by kernel_rfl) (fun _ _ _ _ h => h) rfl ?_ (by assumption) ?_
    rotate_left 1
    · (rintro w ⟨pw, rfl⟩; go_simp; try with_reducible rfl)
    simp only [List.setIfInBounds_toArray, List.set_cons_zero, List.set_cons_succ]
    refine rs.want_take (i := 6) 75 (v := ?_) rfl rfl (by kernel_rfl) (by kernel_rfl) (by kernel_rfl) (fun _ _ _ _ h => h) rfl ?_ (by assumption) ?_
    rotate_left 1
    · (rintro w ⟨pw, rfl⟩; go_simp; try with_reducible rfl)
    simp only [List.setIfInBounds_toArray, List.set_cons_zero, List.set_cons_succ]
    refine rs.want_take (i := 7) 76 (v := ?_) rfl rfl (by kernel_rfl) (by kernel_rfl) (by kernel_rfl) (fun _ _ _ _ h => h) rfl ?_ (by assumption) ?_
    rotate_left 1
    · (rintro w ⟨pw, rfl⟩; go_simp; try with_reducible rfl)
    simp only [List.setIfInBounds_toArray, List.set_cons_zero, List.set_cons_succ]
    refine rs.want_take (i := 8) 77 (v := ?_) rfl rfl (by kernel_rfl) (by kernel_rfl) (by kernel_rfl) (fun _ _ _ _ h => h) rfl ?_ (by assumption) ?_
    rotate_left 1
    · (rintro w ⟨pw, rfl⟩; go_simp; try with_reducible rfl)
    simp only [List.setIfInBounds_toArray, List.set_cons_zero, List.set_cons_succ]
    refine rs.want_take (i := 9) 78 (v := ?_) rfl rfl (by kernel_rfl) (by kernel_rfl) (by kernel_rfl) (fun _ _ _ _ h => h) rfl ?_ (by assumption) ?_
    rotate_left 1
    · (rintro w ⟨pw, rfl⟩; go_simp; try with_reducible rfl)
    simp only [List.setIfInBounds_toArray, List.set_cons_zero, List.set_cons_succ]
    refine rs.want_take (i := 10) 79 (v := ?_) rfl rfl (by kernel_rfl) (by kernel_rfl) (by kernel_rfl) (fun _ _ _ _ h => h) rfl ?_ (by assumption) ?_
    rotate_left 1
    · (rintro w ⟨pw, rfl⟩; go_simp; try with_reducible rfl)
    simp only [List.setIfInBounds_toArray, List.set_cons_zero, List.set_cons_succ]
    refine rs.want_take (i := 11) 80 (v := ?_) rfl rfl (by kernel_rfl) (by kernel_rfl) (by kernel_rfl) (fun _ _ _ _ h => h) rfl ?_ (by assumption) ?_
    rotate_left 1
    · (rintro w ⟨pw, rfl⟩; go_simp; try with_reducible rfl)
    simp only [List.setIfInBounds_toArray, List.set_cons_zero, List.set_cons_succ]
    refine rs.want_take (i := 12) 81 (v := ?_) rfl rfl (by kernel_rfl) (by kernel_rfl) (by kernel_rfl) (fun _ _ _ _ h => h) rfl ?_ (by assumption) ?_
    rotate_left 1
    · (rintro w ⟨pw, rfl⟩; go_simp; try with_reducible rfl)
    simp only [List.setIfInBounds_toArray, List.set_cons_zero, List.set_cons_succ]
    refine rs.want_take (i := 13) 82 (v := ?_) rfl rfl (by kernel_rfl) (by kernel_rfl) (by kernel_rfl) (fun _ _ _ _ h => h) rfl ?_ (by assumption) ?_
    rotate_left 1
    · (rintro w ⟨pw, rfl⟩; go_simp; try with_reducible rfl)
    simp only [List.setIfInBounds_toArray, List.set_cons_zero, List.set_cons_succ]
    refine rs.want_take (i := 14) 83 (v := ?_) rfl rfl (by kernel_rfl) (by kernel_rfl) (by kernel_rfl) (fun _ _ _ _ h => h) rfl ?_ (by assumption) ?_
    rotate_left 1
    · (rintro w ⟨pw, rfl⟩; go_simp; try with_reducible rfl)
    simp only [List.setIfInBounds_toArray, List.set_cons_zero, List.set_cons_succ]
    refine rs.want_take (i := 15) 84 (v := ?_) rfl rfl (by kernel_rfl) (by kernel_rfl) (by kernel_rfl) (fun _ _ _ _ h => h) rfl ?_ (by assumption) ?_
    rotate_left 1
    · (rintro w ⟨pw, rfl⟩; go_simp; try with_reducible rfl)
    simp only [List.setIfInBounds_toArray, List.set_cons_zero, List.set_cons_succ]
    refine rs.want_take (i := 16) 85 (v := ?_) rfl rfl (by kernel_rfl) (by kernel_rfl) (by kernel_rfl) (fun _ _ _ _ h => h) rfl ?_ (by assumption) ?_
    rotate_left 1
    · (rintro w ⟨pw, rfl⟩; go_simp; try with_reducible rfl)
    simp only [List.setIfInBounds_toArray, List.set_cons_zero, List.set_cons_succ]
    refine rs.want_take (i := 17) 86 (v := ?_) rfl rfl (by kernel_rfl) (by kernel_rfl) (by kernel_rfl) (fun _ _ _ _ h => h) rfl ?_ (by assumption) ?_
    rotate_left 1
    · (rintro w ⟨pw, rfl⟩; go_simp; try with_reducible rfl)
    simp only [List.setIfInBounds_toArray, List.set_cons_zero, List.set_cons_succ]
    refine wpAnyH_ready (rs := [18]) (by kernel_rfl) (by simp) ?_
    refine AllReadyH.cons rfl (fun K hK => ?_) AllReadyH.nil
    go_simp
    refine (require_f _).mono ?_
    rintro e w3 ⟨rfl, rfl⟩
    exact ⟨rfl, .inr ⟨HE.out, rfl, (HB.out.later q0).fm⟩⟩
  have HE := Lib.hid (show applyS k (.own x) = takeO { k with next := k.next + 1 } x by rw [applyS, if_pos ⟨h1, h2⟩])
  have hq2 : (x.n == k.next) = true := beq_iff_eq.2 h2
  clear h1 h2
  clear h hB0 hr hng hro
  unfold ntV note
  have hta0 := ta_own_time
  have hta1 := ta_own_next
  have hta2 := ta_own_own
  go_enter Tryz.func119, Tryz.ntmps119
  go_upto_region 13 with (fail)
  clear hta0 hta1 hta2
  generalize W.alloc (.cells #[.int .i64 x.f, .int .i64 x.n, .int .i64 x.t, .int .i64 x.u, .string x.s] 244) = V at HR HM HB ⊢
  have HRb := Lib.hid (show W.heap.size = W.heap.size from rfl)
  generalize W.heap.size = rb at HR HOf HNg HRb ⊢
  clear HRb
  obtain ⟨d0, d1, d2, d3, d4, d5⟩ := qa.six HM.out.box
  obtain ⟨n0, n1, n2, n3, n4⟩ := qa.five HR.out
  refine qa.region (by kernel_rfl) (by kernel_rfl) ?_
  repeat (go_big_quiet_step (first | (go_at_call 121; exact qa.of_same (require_t _))))
  refine wpQuiet_nil ?_
  rintro _ ⟨p1, rfl⟩
  clear d0 d1 d2 d3 d4 d5 n0 n1 n2 n3 n4
  have hM1 := Lib.hid (HM.out.later p1.h)
  have hR1 := Lib.hid (HR.out.below p1.h HR.out.lt)
  have hB1 := Lib.hid (HB.out.later p1.h)
  clear HM HR HB
  have HM := hM1
  have HR := hR1
  have HB := hB1
  clear hM1 hR1 hB1
  generalize p1.W = V1 at HM HR HB ⊢
  clear p1 V
  clear hq hq2
  go_upto_region 14 with (fail)
  have box := HM.out.box
  have d2 := box.cell 2
  have f2 := box.frozen 2
  simp only [List.getElem?_toArray, List.getElem?_cons_zero, List.getElem?_cons_succ] at d2
  obtain ⟨hM2, hB2⟩ := HM.out.set2 (k.next + 1)
  have HM2 := Lib.hid hM2
  have HB2 := Lib.hid (HB.out.set 2 _ hB2)
  have HR2 := Lib.hid (HR.out.far (p := ⟨g, 2, none⟩) HNg.out (.int .i64 (k.next + 1)))
  clear box hM2 hB2 HM HB HR
  have HM := HM2
  have HB := HB2
  have HR := HR2
  clear HM2 HB2 HR2
  go_upto_region 15 with (fail)
  clear d2 f2 hw
  generalize V1.setCell ⟨g, 2, none⟩ (.int .i64 (k.next + 1)) = V2 at HM HB HR ⊢
  obtain ⟨n0, n1, n2, n3, n4⟩ := cb_x HR.out
  go_wp2_with fail
  refine (HA.out _ HM.out HB.out).mono ?_
  rintro e w2 hq2
  have HX := Lib.hid (hq2.on HB.out)
  clear hq2 HA n0 n1 n2 n3 n4
  rcases HX.out with ⟨k', a', b', c', ho, rfl, hM, hB'⟩ | ⟨ho, rfl, hB'⟩
  · have HY := Lib.hid (And.intro ho (And.intro hM hB'))
    clear ho hM hB' HX HM HR HB
    go_wp2
    go_end0
    exact .inl ⟨_, _, _, _, HE.out.trans HY.out.1, rfl, HY.out.2.1, HY.out.2.2⟩
  · have HY := Lib.hid (And.intro ho hB')
    clear ho hB' HX HM HR HB
    go_wp2
    exact ⟨rfl, .inr ⟨HE.out.trans HY.out.1, rfl, HY.out.2⟩⟩

set_option maxRecDepth 100000 in
set_option maxHeartbeats 4000000 in
theorem chg_take (B : Nat) (W : World) (g r : Nat) (k : Kp) (a b c : Value) (x : Nt) (h : MK B W g k a b c) (hz : Sz 14 k) (hr : r < W.heap.size) (hng : r ≠ g) (hro : Off r a b c) (hx : okNt x = true) :
    Calls Tryz.prog 119 #[.pointer (some ⟨g, 0, none⟩), .iface 246 (ntV x)] W (ChPost B W g r (applyS k (.take x))) := by
  have hB0 := (Below.refl W.heap.size W).alloc (Nat.le_refl _) (.cells #[.int .i64 x.f, .int .i64 x.n, .int .i64 x.t, .int .i64 x.u, .string x.s] 246)
  have HR := Lib.hid (Blk.new W 246 #[.int .i64 x.f, .int .i64 x.n, .int .i64 x.t, .int .i64 x.u, .string x.s])
  have HM := Lib.hid (h.later hB0)
  have HOf := Lib.hid (h.own.off_new (Nat.le_refl W.heap.size))
  have HNg := Lib.hid (show W.heap.size ≠ g from by have := h.box.lt; omega)
  have HB := Lib.hid ((FP.new h hr hng hro).later hB0)
  have HL := Lib.hid (hz.few (show 14 ≤ 1048576 by omega))
  have HA := Lib.hid (fun U (hM : MK B U g k a b c) (hF : FP B W U r g a b c) => accept_any B U g r k a b c x hM hx hz hF.lt hF.ng hF.off)
  unfold ntV note at HA
  clear hx
  by_cases h1 : x.f = k.id
  case pos =>
    have HE := Lib.hid (show applyS k (.take x) = none by rw [applyS, if_pos h1])
    have hq : (x.f != k.id) = false := by rw [bne_eq_false_iff_eq]; exact h1
    clear h1 HA
    clear h hB0 hr hng hro
    unfold ntV note
    have hta0 := ta_take_time
    have hta1 := ta_take_next
    have hta2 := ta_take_own
    have hta3 := ta_take_take
    go_enter Tryz.func119, Tryz.ntmps119
    go_upto_region 18 with (fail)
    clear hta0 hta1 hta2 hta3
    generalize W.alloc (.cells #[.int .i64 x.f, .int .i64 x.n, .int .i64 x.t, .int .i64 x.u, .string x.s] 246) = V at HR HM HB ⊢
    have HRb := Lib.hid (show W.heap.size = W.heap.size from rfl)
    generalize W.heap.size = rb at HR HOf HNg HRb ⊢
    clear HRb
    obtain ⟨d0, d1, d2, d3, d4, d5⟩ := qa.six HM.out.box
    obtain ⟨n0, n1, n2, n3, n4⟩ := qa.five HR.out
    refine wp_region_held_drew (S := (fun w' : World => ∃ p : qa.After V, w' = p.W)) (by kernel_rfl) ⟨⟨_, (Below.refl _ V).drew⟩, rfl⟩ (fun hHeld => ?_)
    have q0 : Below V.heap.size V V.drew := (Below.refl _ V).drew
    refine rs.want_take (i := 0) 102 (v := ?_) rfl rfl (by kernel_rfl) (by kernel_rfl) (by kernel_rfl) (fun _ _ _ _ h => h) rfl ?_ (by assumption) ?_
    rotate_left 1
    · (rintro w ⟨pw, rfl⟩; go_simp; try with_reducible rfl)
    simp only [List.setIfInBounds_toArray, List.set_cons_zero, List.set_cons_succ]
    refine rs.want_take (i := 1) 103 (v := ?_) rfl rfl (by kernel_rfl) (by kernel_rfl) (by kernel_rfl) (fun _ _ _ _ h => h) rfl ?_ (by assumption) ?_
    rotate_left 1
    · (rintro w ⟨pw, rfl⟩; go_simp; try with_reducible rfl)
    simp only [List.setIfInBounds_toArray, List.set_cons_zero, List.set_cons_succ]
    refine rs.want_take (i := 2) 104 (v := ?_) rfl rfl (by kernel_rfl) (by kernel_rfl) (by kernel_rfl) (fun _ _ _ _ h => h) rfl ?_ (by assumption) ?_
    rotate_left 1
    · (rintro w ⟨pw, rfl⟩; go_simp; try with_reducible rfl)
    simp only [List.setIfInBounds_toArray, List.set_cons_zero, List.set_cons_succ]
    refine rs.want_take (i := 3) 105 (v := ?_) rfl rfl (by kernel_rfl) (by kernel_rfl) (by kernel_rfl) (fun _ _ _ _ h => h) rfl ?_ (by assumption) ?_
    rotate_left 1
    · (rintro w ⟨pw, rfl⟩; go_simp; try with_reducible rfl)
    simp only [List.setIfInBounds_toArray, List.set_cons_zero, List.set_cons_succ]
    refine rs.want_take (i := 4) 106 (v := ?_) rfl rfl (by kernel_rfl) (by kernel_rfl) (by kernel_rfl) (fun _ _ _ _ h => h) rfl ?_ (by assumption) ?_
    rotate_left 1
    · (rintro w ⟨pw, rfl⟩; go_simp; try with_reducible rfl)
    simp only [List.setIfInBounds_toArray, List.set_cons_zero, List.set_cons_succ]
    refine rs.want_take (i := 5) 107 (v := ?_) rfl rfl (by kernel_rfl) (by kernel_rfl) (by kernel_rfl) (fun _ _ _ _ h => h) rfl ?_ (by assumption) ?_
    rotate_left 1
    · (rintro w ⟨pw, rfl⟩; go_simp; try with_reducible rfl)
    simp only [List.setIfInBounds_toArray, List.set_cons_zero, List.set_cons_succ]
    refine rs.want_take (i := 6) 108 (v := ?_) rfl rfl (by kernel_rfl) (by kernel_rfl) (by kernel_rfl) (fun _ _ _ _ h => h) rfl ?_ (by assumption) ?_
    rotate_left 1
    · (rintro w ⟨pw, rfl⟩; go_simp; try with_reducible rfl)
    simp only [List.setIfInBounds_toArray, List.set_cons_zero, List.set_cons_succ]
    refine rs.want_take (i := 7) 109 (v := ?_) rfl rfl (by kernel_rfl) (by kernel_rfl) (by kernel_rfl) (fun _ _ _ _ h => h) rfl ?_ (by assumption) ?_
    rotate_left 1
    · (rintro w ⟨pw, rfl⟩; go_simp; try with_reducible rfl)
    simp only [List.setIfInBounds_toArray, List.set_cons_zero, List.set_cons_succ]
    refine wpAnyH_ready (rs := [8]) (by kernel_rfl) (by simp) ?_
    refine AllReadyH.cons rfl (fun K hK => ?_) AllReadyH.nil
    go_simp
    refine (require_f _).mono ?_
    rintro e w3 ⟨rfl, rfl⟩
    exact ⟨rfl, .inr ⟨HE.out, rfl, (HB.out.later q0).fm⟩⟩
  have HE := Lib.hid (show applyS k (.take x) = takeO k x by rw [applyS, if_neg h1])
  have hq : (x.f != k.id) = true := bne_iff_ne.2 h1
  clear h1
  clear h hB0 hr hng hro
  unfold ntV note
  have hta0 := ta_take_time
  have hta1 := ta_take_next
  have hta2 := ta_take_own
  have hta3 := ta_take_take
  go_enter Tryz.func119, Tryz.ntmps119
  go_upto_region 18 with (fail)
  clear hta0 hta1 hta2 hta3
  generalize W.alloc (.cells #[.int .i64 x.f, .int .i64 x.n, .int .i64 x.t, .int .i64 x.u, .string x.s] 246) = V at HR HM HB ⊢
  have HRb := Lib.hid (show W.heap.size = W.heap.size from rfl)
  generalize W.heap.size = rb at HR HOf HNg HRb ⊢
  clear HRb
  obtain ⟨d0, d1, d2, d3, d4, d5⟩ := qa.six HM.out.box
  obtain ⟨n0, n1, n2, n3, n4⟩ := qa.five HR.out
  refine qa.region (by kernel_rfl) (by kernel_rfl) ?_
  repeat (go_big_quiet_step (first | (go_at_call 121; exact qa.of_same (require_t _))))
  refine wpQuiet_nil ?_
  rintro _ ⟨p1, rfl⟩
  clear d0 d1 d2 d3 d4 d5 n0 n1 n2 n3 n4
  have hM1 := Lib.hid (HM.out.later p1.h)
  have hR1 := Lib.hid (HR.out.below p1.h HR.out.lt)
  have hB1 := Lib.hid (HB.out.later p1.h)
  clear HM HR HB
  have HM := hM1
  have HR := hR1
  have HB := hB1
  clear hM1 hR1 hB1
  generalize p1.W = V1 at HM HR HB ⊢
  clear p1 V
  clear hq
  go_upto_region 19 with (fail)
  obtain ⟨n0, n1, n2, n3, n4⟩ := cb_x HR.out
  go_wp2_with fail
  refine (HA.out _ HM.out HB.out).mono ?_
  rintro e w2 hq2
  have HX := Lib.hid (hq2.on HB.out)
  clear hq2 HA n0 n1 n2 n3 n4
  rcases HX.out with ⟨k', a', b', c', ho, rfl, hM, hB'⟩ | ⟨ho, rfl, hB'⟩
  · have HY := Lib.hid (And.intro ho (And.intro hM hB'))
    clear ho hM hB' HX HM HR HB
    go_wp2
    go_end0
    exact .inl ⟨_, _, _, _, HE.out.trans HY.out.1, rfl, HY.out.2.1, HY.out.2.2⟩
  · have HY := Lib.hid (And.intro ho hB')
    clear ho hB' HX HM HR HB
    go_wp2
    exact ⟨rfl, .inr ⟨HE.out.trans HY.out.1, rfl, HY.out.2⟩⟩
end Go.Proofs.YtjmmojjjopjdpaaGreatDoor.kp

/-
  Contract of (*impl.Note).numbers: a slice of its own, of pointers to the message's four numbers.
-/
namespace Go.Proofs.YtjmmojjjopjdpaaGreatDoor.dc
open Go.ChangeShapes Go.WideShapes Go.ChangeAt Go.RowKit
open Go.Proofs.YtjmmojjjopjdpaaGreatDoor.wd

def ptrA (g : Nat) : Array Value := #[.pointer (some ⟨g, 0, none⟩), .pointer (some ⟨g, 1, none⟩), .pointer (some ⟨g, 2, none⟩), .pointer (some ⟨g, 3, none⟩)]
theorem ptrA_at {k : Nat} (hk : k < 4) (g : Nat) : (ptrA g)[k]? = some (.pointer (some ⟨g, k, none⟩)) := by
  match k, hk with
  | 0, _ => rfl
  | 1, _ => rfl
  | 2, _ => rfl
  | 3, _ => rfl
def NumPost (g : Nat) (w : World) (e : Ending) (w' : World) : Prop := ∃ R, e = .returned (.slice (some ⟨R, 0, none⟩) 4 4) ∧ w.heap.size ≤ R ∧ Blk w' R 354 (ptrA g) ∧ Below w.heap.size w w'

set_option maxRecDepth 100000 in
set_option maxHeartbeats 1000000 in
theorem numbers_any (g : Nat) (w : World) :
    Calls Tryz.prog 303 #[.pointer (some ⟨g, 0, none⟩)] w (NumPost g w) := by
  go_enter Tryz.func303, Tryz.ntmps303
  go_wp2_with fail
  go_region
  all_goals
    go_wp2
    go_ret
    exact ⟨_, rfl, Nat.le_refl _, Blk.new _ _ _, ((Below.refl _ _).alloc (Nat.le_refl _) _).drew⟩
end Go.Proofs.YtjmmojjjopjdpaaGreatDoor.dc

/-
  Contracts of impl.search at limits and at bytes, and of impl.isUnprintable.
-/
namespace Go.Proofs.YtjmmojjjopjdpaaGreatDoor.ok
open Go.ChangeShapes Go.WideShapes Go.ChangeAt Go.RowKit
open Go.Proofs.YtjmmojjjopjdpaaGreatDoor.nb Go.Proofs.YtjmmojjjopjdpaaGreatDoor.li Go.Proofs.YtjmmojjjopjdpaaGreatDoor.wd

theorem unpr_any (c : UInt8) (w : World) :
    Calls Tryz.prog 218 #[.int .u8 (c.toNat : Int)] w fun e w' => e = .returned (.bool (!pr c)) ∧ w = w' := by
  by_cases p0 : (c.toNat : Int) < 32
  · rw [pr_f (.inl p0)]
    go_enter Tryz.func218, Tryz.ntmps218
    go_wp2
    go_ret
    exact ⟨rfl, rfl⟩
  · by_cases p1 : 126 < (c.toNat : Int)
    · rw [pr_f (.inr p1)]
      go_enter Tryz.func218, Tryz.ntmps218
      go_wp2
      go_ret
      exact ⟨rfl, rfl⟩
    · rw [pr_t (by omega) (by omega)]
      go_enter Tryz.func218, Tryz.ntmps218
      go_wp2
      go_ret
      exact ⟨rfl, rfl⟩

/-- a limit: its number, the least, the most -/
abbrev L3 := Int × Int × Int
def l3c (x : L3) : List Value := [.int .i64 x.1, .int .i64 x.2.1, .int .i64 x.2.2]
def fits (x : L3) : Bool := inB x.1 x.2.1 x.2.2
/-- a block that reads as limits -/
def Limits (w : World) (g : Nat) (l : List L3) : Prop :=
  g < w.heap.size ∧ ∀ i x, l[i]? = some x → w.cell? ⟨g, i * 3, none⟩ = some (.int .i64 x.1) ∧ w.cell? ⟨g, i * 3 + 1, none⟩ = some (.int .i64 x.2.1) ∧ w.cell? ⟨g, i * 3 + 2, none⟩ = some (.int .i64 x.2.2)
theorem Limits.later {w w' : World} {g : Nat} {l : List L3} (h : Limits w g l) (hB : Below w.heap.size w w') : Limits w' g l :=
  ⟨Nat.lt_of_lt_of_le h.1 hB.size, fun i x hx => ⟨(hB.cell (p := ⟨g, _, none⟩) h.1).trans (h.2 i x hx).1, (hB.cell (p := ⟨g, _, none⟩) h.1).trans (h.2 i x hx).2.1, (hB.cell (p := ⟨g, _, none⟩) h.1).trans (h.2 i x hx).2.2⟩⟩

def SearchPost (w : World) (b : Bool) (e : Ending) (w' : World) : Prop := ∃ i : Int, e = .returned (.tuple #[.int .i64 i, .bool b]) ∧ Below w.heap.size w w'

theorem searchL (w : World) (g c : Nat) (l : List L3) (h : Limits w g l) (hl : l.length ≤ 100) :
    Calls Tryz.prog 112 #[.slice (some ⟨g, 0, none⟩) l.length c, .func (.func 56) #[] #[]] w (SearchPost w (!(l.all fits))) := by
  have H := Lib.hid h
  clear h
  go_enter Tryz.func112, Tryz.ntmps112
  go_wp2
  go_loopw [10] (fun i wr => ∃ k : Nat, k ≤ l.length ∧ i = .int .i64 k ∧ Hid ((l.take k).all fits = true) ∧ Below w.heap.size w wr) (fun i _ => l.length - (intOf i).toNat)
  case atStart => exact ⟨0, by omega, rfl, rfl, Below.refl _ _⟩
  case round =>
    obtain ⟨k, hk, rfl, HA, hB⟩ := hrel
    by_cases hlt : k < l.length
    · have hx : l[k]? = some l[k] := List.getElem?_eq_getElem hlt
      obtain ⟨r0, r1, r2⟩ := (H.out.later hB).2 k _ hx
      have hg := (H.out.later hB).1
      have HT := Lib.hid (show l.take (k + 1) = l.take k ++ [l[k]] by rw [List.take_succ_eq_append_getElem hlt])
      have hm := List.getElem_mem hlt
      generalize l[k] = x at r0 r1 r2 HT hm
      obtain ⟨v, a, b⟩ := x
      clear hx
      go_wp2_with fail
      refine (outside_any v a b _).mono ?_
      rintro e w2 ⟨rfl, hB2⟩
      have hB3 := hB.trans ((((Below.refl wr.heap.size wr).alloc (Nat.le_refl _) _).trans (hB2.mono (by simp))).mono hB.size)
      cases hf : inB v a b with
      | true =>
        have R := Lib.hid (show (l.take (k + 1)).all fits = true by rw [HT.out, List.all_append, HA.out]; simp [fits, hf])
        clear hB2
        go_wp2
        go_roundw
        case rel => exact ⟨k + 1, by omega, by go_num, R, hB3⟩
        case measure => simp [intOf]; omega
      | false =>
        have R := Lib.hid (show l.all fits = false from List.all_eq_false.2 ⟨_, hm, by simp [fits, hf]⟩)
        clear hB2
        go_wp2
        go_ret2
        exact ⟨k, by rw [R.out]; rfl, hB3⟩
    · have R := Lib.hid (show l.all fits = true by have := HA.out; rwa [List.take_of_length_le (by omega)] at this)
      go_wp2
      go_ret2
      exact ⟨l.length, by rw [R.out]; rfl, hB⟩

/-- a block that reads as bytes -/
def ByteRow (w : World) (g : Nat) (s : ByteArray) : Prop :=
  g < w.heap.size ∧ ∀ i (h : i < s.size), w.cell? ⟨g, i, none⟩ = some (.int .u8 (s[i].toNat : Int))

theorem searchB (w : World) (g c : Nat) (s : ByteArray) (h : ByteRow w g s) (hl : s.size ≤ 100) :
    Calls Tryz.prog 217 #[.slice (some ⟨g, 0, none⟩) s.size c, .func (.func 218) #[] #[]] w (SearchPost w (!(allPr s))) := by
  have H := Lib.hid h.2
  clear h
  go_enter Tryz.func217, Tryz.ntmps217
  go_wp2
  go_loop [10] (fun i => ∃ k : Nat, k ≤ s.size ∧ i = .int .i64 k ∧ Hid ((s.data.toList.take k).all pr = true)) (fun i => s.size - (intOf i).toNat)
  case atStart => exact ⟨0, by omega, rfl, rfl⟩
  case round =>
    obtain ⟨k, hk, rfl, HA⟩ := hrel
    by_cases hlt : k < s.size
    · have r0 := H.out k hlt
      cases hf : pr s[k] with
      | true =>
        have R := Lib.hid (all_more hlt HA.out hf)
        go_wp2_with fail
        refine (unpr_any s[k] _).mono ?_
        rintro e w' ⟨rfl, rfl⟩
        go_wp2
        go_round
        case rel => exact ⟨k + 1, by omega, by go_num, R⟩
        case measure => simp [intOf]; omega
      | false =>
        have R := Lib.hid (all_not hlt hf)
        go_wp2_with fail
        refine (unpr_any s[k] _).mono ?_
        rintro e w' ⟨rfl, rfl⟩
        go_wp2
        go_ret2
        exact ⟨k, by rw [R.out]; rfl, Below.refl _ _⟩
    · have R := Lib.hid (all_whole (by omega) HA.out)
      go_wp2
      go_ret2
      exact ⟨s.size, by rw [R.out]; rfl, Below.refl _ _⟩
end Go.Proofs.YtjmmojjjopjdpaaGreatDoor.ok

/-
  Contract of impl.NoteOk.
-/
namespace Go.Proofs.YtjmmojjjopjdpaaGreatDoor.ok
open Go.ChangeShapes Go.WideShapes Go.ChangeAt Go.RowKit
open Go.Proofs.YtjmmojjjopjdpaaGreatDoor.nb Go.Proofs.YtjmmojjjopjdpaaGreatDoor.li Go.Proofs.YtjmmojjjopjdpaaGreatDoor.wd

def lims (f n t u : Int) (s : ByteArray) : List L3 := [(f, 0, 3), (n, 1, 99), (t, 0, 3), (u, 1, 999), (s.size, 1, 24)]

theorem lims_all (f n t u : Int) (s : ByteArray) : (lims f n t u s).all fits = (inB f 0 3 && inB n 1 99 && inB t 0 3 && inB u 1 999 && okS s) := by
  have e : inB (s.size : Int) 1 24 = okS s := by
    unfold inB okS
    congr 1
    exact propext ⟨fun h => ⟨by omega, by omega⟩, fun h => ⟨by omega, by omega⟩⟩
  simp [lims, fits, e, Bool.and_assoc]
theorem lims_f {f n t u : Int} {s : ByteArray} (h : (lims f n t u s).all fits = false) : okN f n t u s = false := by
  rw [lims_all] at h
  unfold okN
  revert h
  cases inB f 0 3 <;> cases inB n 1 99 <;> cases inB t 0 3 <;> cases inB u 1 999 <;> cases okS s <;> simp
theorem lims_t {f n t u : Int} {s : ByteArray} (h : (lims f n t u s).all fits = true) : okN f n t u s = allPr s ∧ 1 ≤ s.size ∧ s.size ≤ 24 := by
  rw [lims_all] at h
  simp only [Bool.and_eq_true] at h
  obtain ⟨⟨⟨⟨a, b⟩, c⟩, d⟩, e⟩ := h
  exact ⟨okN_t a c b d e, of_decide_eq_true e⟩
theorem searchL5 (w : World) (g : Nat) (f n t u : Int) (s : ByteArray) (h : Blk w g 89 #[.int .i64 f, .int .i64 0, .int .i64 3, .int .i64 n, .int .i64 1, .int .i64 99, .int .i64 t, .int .i64 0, .int .i64 3, .int .i64 u, .int .i64 1, .int .i64 999, .int .i64 s.size, .int .i64 1, .int .i64 24]) :
    Calls Tryz.prog 112 #[.slice (some ⟨g, 0, none⟩) 5 5, .func (.func 56) #[] #[]] w (SearchPost w (!((lims f n t u s).all fits))) := by
  refine searchL w g 5 (lims f n t u s) ⟨h.lt, fun i x hx => ?_⟩ (by simp [lims])
  have hi : i < 5 := (List.getElem?_eq_some_iff.1 hx).1
  rw [h.cell, h.cell, h.cell]
  match i, hi with
  | 0, _ => simp [lims] at hx; subst hx; exact ⟨rfl, rfl, rfl⟩
  | 1, _ => simp [lims] at hx; subst hx; exact ⟨rfl, rfl, rfl⟩
  | 2, _ => simp [lims] at hx; subst hx; exact ⟨rfl, rfl, rfl⟩
  | 3, _ => simp [lims] at hx; subst hx; exact ⟨rfl, rfl, rfl⟩
  | 4, _ => simp [lims] at hx; subst hx; exact ⟨rfl, rfl, rfl⟩
set_option maxRecDepth 100000 in
set_option maxHeartbeats 1000000 in
theorem iok_any (f n t u : Int) (s : ByteArray) (w : World) (hs : s.size ≤ maxLen) :
    Calls Tryz.prog 153 #[note f n t u s] w (BoolPost w (okN f n t u s)) := by
  unfold note
  unfold maxLen at hs
  have hb := Blk.new w 131 #[.int .i64 f, .int .i64 n, .int .i64 t, .int .i64 u, .string s]
  have hB0 : Below w.heap.size w (w.alloc (.cells #[.int .i64 f, .int .i64 n, .int .i64 t, .int .i64 u, .string s] 131)) := (Below.refl _ _).alloc (Nat.le_refl _) _
  go_enter Tryz.func153, Tryz.ntmps153
  go_wp2_with fail
  generalize w.alloc (.cells #[.int .i64 f, .int .i64 n, .int .i64 t, .int .i64 u, .string s] 131) = W at hb hB0 ⊢
  obtain ⟨c0, c1, c2, c3, c4, hz⟩ := five hb
  go_region_held3 (fun w' => w'.cell? ⟨w.heap.size, 0, none⟩ = some (.int .i64 f) ∧ w'.cell? ⟨w.heap.size, 1, none⟩ = some (.int .i64 n) ∧ w'.cell? ⟨w.heap.size, 2, none⟩ = some (.int .i64 t) ∧ w'.cell? ⟨w.heap.size, 3, none⟩ = some (.int .i64 u) ∧ w'.cell? ⟨w.heap.size, 4, none⟩ = some (.string s)) (first | exact ⟨c0, c1, c2, c3, c4⟩ | exact ⟨s0, s1, s2, s3, s4⟩ | go_keep) (((first | (go_at_call 55; refine (limited_any _ _).mono ?_) | (go_at_call 184; refine (limNum_any _ _).mono ?_) | (go_at_call 185; refine (limUntil_any _ _).mono ?_)); rintro e w2 ⟨rfl, hB2⟩; first | (have hBa := hBa.trans (hB2.mono hBa.size); have s0 := (hB2.cell (p := ⟨w.heap.size, 0, none⟩) hz2).trans s0; have s1 := (hB2.cell (p := ⟨w.heap.size, 1, none⟩) hz2).trans s1; have s2 := (hB2.cell (p := ⟨w.heap.size, 2, none⟩) hz2).trans s2; have s3 := (hB2.cell (p := ⟨w.heap.size, 3, none⟩) hz2).trans s3; have s4 := (hB2.cell (p := ⟨w.heap.size, 4, none⟩) hz2).trans s4; have hz2 := Nat.lt_of_lt_of_le hz2 hB2.size) | (have hBa := hB2; have s0 := (hB2.cell (p := ⟨w.heap.size, 0, none⟩) hz).trans c0; have s1 := (hB2.cell (p := ⟨w.heap.size, 1, none⟩) hz).trans c1; have s2 := (hB2.cell (p := ⟨w.heap.size, 2, none⟩) hz).trans c2; have s3 := (hB2.cell (p := ⟨w.heap.size, 3, none⟩) hz).trans c3; have s4 := (hB2.cell (p := ⟨w.heap.size, 4, none⟩) hz).trans c4; have hz2 := Nat.lt_of_lt_of_le hz hB2.size)))
  have HB3 := Lib.hid (show Below w.heap.size w w2 from hB0.trans ((show Below W.heap.size W w2 from ⟨hBa.os, hBa.tape, hBa.output, hBa.size, hBa.block⟩).mono hB0.size))
  clear hB0 hBa hB2 c0 c1 c2 c3 c4 s0 s1 s2 s3 hb hz
  go_wp2_with fail
  refine (searchL5 _ _ f n t u s (Blk.new _ _ _)).mono ?_
  rintro e w4 ⟨i, rfl, hB4⟩
  have c4 := (hB4.cell (p := ⟨w.heap.size, 4, none⟩) (by simp; omega)).trans ((World.cell?_alloc_lt _ _ _ hz2).trans s4)
  have HB4 := Lib.hid (HB3.out.trans (((Below.refl w2.heap.size w2).alloc (Nat.le_refl _) _).trans (hB4.mono (by simp)) |>.mono HB3.out.size))
  clear hB4 s4
  cases hf : (lims f n t u s).all fits with
  | false =>
    have R := Lib.hid (lims_f hf)
    go_wp2
    go_ret
    exact ⟨ret_bool R.out.symm, HB4.out⟩
  | true =>
    obtain ⟨R, k0, k1⟩ := lims_t hf
    have R := Lib.hid R
    have hcv := Lib.run_convert_string_bytes (P := Tryz.prog) w4 9 22 5 s (u := .string) Tryz.underlying9 Tryz.underlying22 Tryz.underlying5
    have hrow : ByteRow (Lib.bytesWorld w4 5 s) w4.heap.size s := ⟨by rw [Lib.bytesWorld_size]; omega, fun i hi => by
      rw [Lib.bytesWorld_cell w4 _ s i hi]
      simp [List.getD, hi]
      rfl⟩
    have HB5 := Lib.hid (HB4.out.trans ((Lib.bytesWorld_below w4 5 s).mono HB4.out.size))
    generalize Lib.bytesWorld w4 5 s = w5 at hcv hrow HB5
    generalize grownCap w4 s.size 0 5 = cap at hcv
    clear hf HB4
    go_wp2_with fail
    clear hcv
    refine (searchB _ _ _ s hrow (by omega)).mono ?_
    rintro e w6 ⟨j, rfl, hB6⟩
    have HB6 := Lib.hid (HB5.out.trans (hB6.mono HB5.out.size))
    clear hB6 hrow
    go_wp2
    go_ret
    exact ⟨ret_bool (by rw [R.out]), HB6.out⟩
end Go.Proofs.YtjmmojjjopjdpaaGreatDoor.ok

