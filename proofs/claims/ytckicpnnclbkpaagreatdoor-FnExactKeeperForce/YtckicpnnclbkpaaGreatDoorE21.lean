/-
  Merged texts: IAssert, IChg1, IChg2.
-/
import Derived.Test.YtckicpnnclbkpaaGreatDoorE20
namespace Go.Proofs.YtckicpnnclbkpaaGreatDoor.kp
open Go.ChangeShapes Go.WideShapes Go.ChangeAt Go.RowKit
open wd ow rl ok nb nx
theorem cb_m {W : World} {R : Nat} {T : TypeId} {a b c : Value} (h : Blk W R T #[a, b, c]) : W.cell? ⟨R, 0, none⟩ = some a ∧ W.cell? ⟨R, 1, none⟩ = some b ∧ W.cell? ⟨R, 2, none⟩ = some c := ⟨h.cell 0, h.cell 1, h.cell 2⟩
theorem cb_x {W : World} {R : Nat} {T : TypeId} {a b c d e : Value} (h : Blk W R T #[a, b, c, d, e]) : W.cell? ⟨R, 0, none⟩ = some a ∧ W.cell? ⟨R, 1, none⟩ = some b ∧ W.cell? ⟨R, 2, none⟩ = some c ∧ W.cell? ⟨R, 3, none⟩ = some d ∧ W.cell? ⟨R, 4, none⟩ = some e := ⟨h.cell 0, h.cell 1, h.cell 2, h.cell 3, h.cell 4⟩
theorem ta_time_time (v : Value) (w : World) : (Instr.typeAssert (.iface 236 v) 138 236 true).run Tryz.prog w = .ok (.tuple #[v, .bool true]) w := by kernel_rfl
theorem ta_next_time (v : Value) (w : World) : (Instr.typeAssert (.iface 240 v) 138 236 true).run Tryz.prog w = .ok (.tuple #[.agg #[.int .i64 0], .bool false]) w := by kernel_rfl
theorem ta_next_next (v : Value) (w : World) : (Instr.typeAssert (.iface 240 v) 138 240 true).run Tryz.prog w = .ok (.tuple #[v, .bool true]) w := by kernel_rfl
theorem ta_own_time (v : Value) (w : World) : (Instr.typeAssert (.iface 242 v) 138 236 true).run Tryz.prog w = .ok (.tuple #[.agg #[.int .i64 0], .bool false]) w := by kernel_rfl
theorem ta_own_next (v : Value) (w : World) : (Instr.typeAssert (.iface 242 v) 138 240 true).run Tryz.prog w = .ok (.tuple #[.agg #[.int .i64 0], .bool false]) w := by kernel_rfl
theorem ta_own_own (v : Value) (w : World) : (Instr.typeAssert (.iface 242 v) 138 242 true).run Tryz.prog w = .ok (.tuple #[v, .bool true]) w := by kernel_rfl
theorem ta_take_time (v : Value) (w : World) : (Instr.typeAssert (.iface 244 v) 138 236 true).run Tryz.prog w = .ok (.tuple #[.agg #[.int .i64 0], .bool false]) w := by kernel_rfl
theorem ta_take_next (v : Value) (w : World) : (Instr.typeAssert (.iface 244 v) 138 240 true).run Tryz.prog w = .ok (.tuple #[.agg #[.int .i64 0], .bool false]) w := by kernel_rfl
theorem ta_take_own (v : Value) (w : World) : (Instr.typeAssert (.iface 244 v) 138 242 true).run Tryz.prog w = .ok (.tuple #[.agg #[.int .i64 0, .int .i64 0, .int .i64 0, .int .i64 0, .string ⟨#[]⟩], .bool false]) w := by kernel_rfl
theorem ta_take_take (v : Value) (w : World) : (Instr.typeAssert (.iface 244 v) 138 244 true).run Tryz.prog w = .ok (.tuple #[v, .bool true]) w := by kernel_rfl
theorem ta_lets_time (v : Value) (w : World) : (Instr.typeAssert (.iface 246 v) 138 236 true).run Tryz.prog w = .ok (.tuple #[.agg #[.int .i64 0], .bool false]) w := by kernel_rfl
theorem ta_lets_next (v : Value) (w : World) : (Instr.typeAssert (.iface 246 v) 138 240 true).run Tryz.prog w = .ok (.tuple #[.agg #[.int .i64 0], .bool false]) w := by kernel_rfl
theorem ta_lets_own (v : Value) (w : World) : (Instr.typeAssert (.iface 246 v) 138 242 true).run Tryz.prog w = .ok (.tuple #[.agg #[.int .i64 0, .int .i64 0, .int .i64 0, .int .i64 0, .string ⟨#[]⟩], .bool false]) w := by kernel_rfl
theorem ta_lets_take (v : Value) (w : World) : (Instr.typeAssert (.iface 246 v) 138 244 true).run Tryz.prog w = .ok (.tuple #[.agg #[.int .i64 0, .int .i64 0, .int .i64 0, .int .i64 0, .string ⟨#[]⟩], .bool false]) w := by kernel_rfl
theorem ta_lets_lets (v : Value) (w : World) : (Instr.typeAssert (.iface 246 v) 138 246 true).run Tryz.prog w = .ok (.tuple #[v, .bool true]) w := by kernel_rfl
theorem ta_eat_time (v : Value) (w : World) : (Instr.typeAssert (.iface 248 v) 138 236 true).run Tryz.prog w = .ok (.tuple #[.agg #[.int .i64 0], .bool false]) w := by kernel_rfl
theorem ta_eat_next (v : Value) (w : World) : (Instr.typeAssert (.iface 248 v) 138 240 true).run Tryz.prog w = .ok (.tuple #[.agg #[.int .i64 0], .bool false]) w := by kernel_rfl
theorem ta_eat_own (v : Value) (w : World) : (Instr.typeAssert (.iface 248 v) 138 242 true).run Tryz.prog w = .ok (.tuple #[.agg #[.int .i64 0, .int .i64 0, .int .i64 0, .int .i64 0, .string ⟨#[]⟩], .bool false]) w := by kernel_rfl
theorem ta_eat_take (v : Value) (w : World) : (Instr.typeAssert (.iface 248 v) 138 244 true).run Tryz.prog w = .ok (.tuple #[.agg #[.int .i64 0, .int .i64 0, .int .i64 0, .int .i64 0, .string ⟨#[]⟩], .bool false]) w := by kernel_rfl
theorem ta_eat_lets (v : Value) (w : World) : (Instr.typeAssert (.iface 248 v) 138 246 true).run Tryz.prog w = .ok (.tuple #[.agg #[.int .i64 0, .int .i64 0, .int .i64 0], .bool false]) w := by kernel_rfl
theorem ta_eat_eat (v : Value) (w : World) : (Instr.typeAssert (.iface 248 v) 138 248 true).run Tryz.prog w = .ok (.tuple #[v, .bool true]) w := by kernel_rfl
theorem ta_mark_time (v : Value) (w : World) : (Instr.typeAssert (.iface 249 v) 138 236 true).run Tryz.prog w = .ok (.tuple #[.agg #[.int .i64 0], .bool false]) w := by kernel_rfl
theorem ta_mark_next (v : Value) (w : World) : (Instr.typeAssert (.iface 249 v) 138 240 true).run Tryz.prog w = .ok (.tuple #[.agg #[.int .i64 0], .bool false]) w := by kernel_rfl
theorem ta_mark_own (v : Value) (w : World) : (Instr.typeAssert (.iface 249 v) 138 242 true).run Tryz.prog w = .ok (.tuple #[.agg #[.int .i64 0, .int .i64 0, .int .i64 0, .int .i64 0, .string ⟨#[]⟩], .bool false]) w := by kernel_rfl
theorem ta_mark_take (v : Value) (w : World) : (Instr.typeAssert (.iface 249 v) 138 244 true).run Tryz.prog w = .ok (.tuple #[.agg #[.int .i64 0, .int .i64 0, .int .i64 0, .int .i64 0, .string ⟨#[]⟩], .bool false]) w := by kernel_rfl
theorem ta_mark_lets (v : Value) (w : World) : (Instr.typeAssert (.iface 249 v) 138 246 true).run Tryz.prog w = .ok (.tuple #[.agg #[.int .i64 0, .int .i64 0, .int .i64 0], .bool false]) w := by kernel_rfl
theorem ta_mark_eat (v : Value) (w : World) : (Instr.typeAssert (.iface 249 v) 138 248 true).run Tryz.prog w = .ok (.tuple #[.agg #[.int .i64 0, .int .i64 0, .int .i64 0], .bool false]) w := by kernel_rfl
theorem ta_mark_mark (v : Value) (w : World) : (Instr.typeAssert (.iface 249 v) 138 249 true).run Tryz.prog w = .ok (.tuple #[v, .bool true]) w := by kernel_rfl
theorem ta_held_time (v : Value) (w : World) : (Instr.typeAssert (.iface 250 v) 138 236 true).run Tryz.prog w = .ok (.tuple #[.agg #[.int .i64 0], .bool false]) w := by kernel_rfl
theorem ta_held_next (v : Value) (w : World) : (Instr.typeAssert (.iface 250 v) 138 240 true).run Tryz.prog w = .ok (.tuple #[.agg #[.int .i64 0], .bool false]) w := by kernel_rfl
theorem ta_held_own (v : Value) (w : World) : (Instr.typeAssert (.iface 250 v) 138 242 true).run Tryz.prog w = .ok (.tuple #[.agg #[.int .i64 0, .int .i64 0, .int .i64 0, .int .i64 0, .string ⟨#[]⟩], .bool false]) w := by kernel_rfl
theorem ta_held_take (v : Value) (w : World) : (Instr.typeAssert (.iface 250 v) 138 244 true).run Tryz.prog w = .ok (.tuple #[.agg #[.int .i64 0, .int .i64 0, .int .i64 0, .int .i64 0, .string ⟨#[]⟩], .bool false]) w := by kernel_rfl
theorem ta_held_lets (v : Value) (w : World) : (Instr.typeAssert (.iface 250 v) 138 246 true).run Tryz.prog w = .ok (.tuple #[.agg #[.int .i64 0, .int .i64 0, .int .i64 0], .bool false]) w := by kernel_rfl
theorem ta_held_eat (v : Value) (w : World) : (Instr.typeAssert (.iface 250 v) 138 248 true).run Tryz.prog w = .ok (.tuple #[.agg #[.int .i64 0, .int .i64 0, .int .i64 0], .bool false]) w := by kernel_rfl
theorem ta_held_mark (v : Value) (w : World) : (Instr.typeAssert (.iface 250 v) 138 249 true).run Tryz.prog w = .ok (.tuple #[.agg #[.int .i64 0, .int .i64 0, .int .i64 0], .bool false]) w := by kernel_rfl
theorem ta_held_held (v : Value) (w : World) : (Instr.typeAssert (.iface 250 v) 138 250 true).run Tryz.prog w = .ok (.tuple #[v, .bool true]) w := by kernel_rfl
theorem ta_inbox_time (v : Value) (w : World) : (Instr.typeAssert (.iface 251 v) 138 236 true).run Tryz.prog w = .ok (.tuple #[.agg #[.int .i64 0], .bool false]) w := by kernel_rfl
theorem ta_inbox_next (v : Value) (w : World) : (Instr.typeAssert (.iface 251 v) 138 240 true).run Tryz.prog w = .ok (.tuple #[.agg #[.int .i64 0], .bool false]) w := by kernel_rfl
theorem ta_inbox_own (v : Value) (w : World) : (Instr.typeAssert (.iface 251 v) 138 242 true).run Tryz.prog w = .ok (.tuple #[.agg #[.int .i64 0, .int .i64 0, .int .i64 0, .int .i64 0, .string ⟨#[]⟩], .bool false]) w := by kernel_rfl
theorem ta_inbox_take (v : Value) (w : World) : (Instr.typeAssert (.iface 251 v) 138 244 true).run Tryz.prog w = .ok (.tuple #[.agg #[.int .i64 0, .int .i64 0, .int .i64 0, .int .i64 0, .string ⟨#[]⟩], .bool false]) w := by kernel_rfl
theorem ta_inbox_lets (v : Value) (w : World) : (Instr.typeAssert (.iface 251 v) 138 246 true).run Tryz.prog w = .ok (.tuple #[.agg #[.int .i64 0, .int .i64 0, .int .i64 0], .bool false]) w := by kernel_rfl
theorem ta_inbox_eat (v : Value) (w : World) : (Instr.typeAssert (.iface 251 v) 138 248 true).run Tryz.prog w = .ok (.tuple #[.agg #[.int .i64 0, .int .i64 0, .int .i64 0], .bool false]) w := by kernel_rfl
theorem ta_inbox_mark (v : Value) (w : World) : (Instr.typeAssert (.iface 251 v) 138 249 true).run Tryz.prog w = .ok (.tuple #[.agg #[.int .i64 0, .int .i64 0, .int .i64 0], .bool false]) w := by kernel_rfl
theorem ta_inbox_held (v : Value) (w : World) : (Instr.typeAssert (.iface 251 v) 138 250 true).run Tryz.prog w = .ok (.tuple #[.agg #[.int .i64 0, .int .i64 0, .int .i64 0, .int .i64 0, .string ⟨#[]⟩], .bool false]) w := by kernel_rfl
theorem ta_inbox_inbox (v : Value) (w : World) : (Instr.typeAssert (.iface 251 v) 138 251 true).run Tryz.prog w = .ok (.tuple #[v, .bool true]) w := by kernel_rfl
end Go.Proofs.YtckicpnnclbkpaaGreatDoor.kp

namespace Go.Proofs.YtckicpnnclbkpaaGreatDoor.kp
open Go.ChangeShapes Go.WideShapes Go.ChangeAt Go.RowKit
open wd ow rl ok nb nx
set_option maxRecDepth 100000 in
set_option maxHeartbeats 4000000 in
theorem chg_time (B : Nat) (W : World) (g r : Nat) (k : Kp) (a b c : Value) (v : Int) (h : MK B W g k a b c) (hz : Sz 14 k) (hr : r < W.heap.size) (hng : r ≠ g) (hro : Off r a b c) :
  Calls Tryz.prog 140 #[.pointer (some ⟨g, 0, none⟩), .iface 236 (.agg #[.int .i64 v])] W (ChPost B W g r (applyS k (.time v))) := by
 have hB0 := (Below.refl W.heap.size W).alloc (Nat.le_refl _) (.cells #[.int .i64 v] 236)
 have HR := Lib.hid (Blk.new W 236 #[.int .i64 v])
 have HM := Lib.hid (h.later hB0)
 have HOf := Lib.hid (h.own.off_new (Nat.le_refl W.heap.size))
 have HNg := Lib.hid (show W.heap.size ≠ g from by have := h.box.lt; omega)
 have HB := Lib.hid ((FP.new h hr hng hro).later hB0)
 have HL := Lib.hid (hz.few (show 14 ≤ 1048576 by omega))
 by_cases hu : k.time < v
 case neg =>
  have HE := Lib.hid (show applyS k (.time v) = none by rw [applyS, if_neg hu])
  have hd : decide (k.time < v) = false := decide_eq_false hu
  clear hu
  clear h hB0 hr hng hro
  have hta0 := ta_time_time
  go_enter Tryz.func140, Tryz.ntmps140
  go_upto_region 3 with (fail)
  clear hta0
  generalize W.alloc (.cells #[.int .i64 v] 236) = V at HR HM HB ⊢
  have HRb := Lib.hid (show W.heap.size = W.heap.size from rfl)
  generalize W.heap.size = rb at HR HOf HNg HRb ⊢
  clear HRb
  obtain ⟨d0, d1, d2, d3, d4, d5⟩ := qa.six HM.out.box
  have n0 : ∀ p : qa.After V, p.W.cell? ⟨rb, 0, none⟩ = some (.int .i64 v) := fun p => (qa.blk HR.out p).cell 0
  refine wp_region_held_drew (S := (fun w' : World => ∃ p : qa.After V, w' = p.W)) (by kernel_rfl) ⟨⟨_, (Below.refl _ V).drew⟩, rfl⟩ (fun hHeld => ?_)
  have q0 : Below V.heap.size V V.drew := (Below.refl _ V).drew
  refine rs.w 0 17 ?_ rfl ?_ ?_
  rotate_left 1
  ·(rintro w ⟨pw, rfl⟩; go_simp; try with_reducible rfl)
  simp only [rs.a, rs.b, rs.c]
  refine rs.w 1 18 ?_ rfl ?_ ?_
  rotate_left 1
  ·(rintro w ⟨pw, rfl⟩; go_simp; try with_reducible rfl)
  simp only [rs.a, rs.b, rs.c]
  refine rs.w 2 19 ?_ rfl ?_ ?_
  rotate_left 1
  ·(rintro w ⟨pw, rfl⟩; go_simp; try with_reducible rfl)
  simp only [rs.a, rs.b, rs.c]
  refine rs.w 3 20 ?_ rfl ?_ ?_
  rotate_left 1
  ·(rintro w ⟨pw, rfl⟩; go_simp; try with_reducible rfl)
  simp only [rs.a, rs.b, rs.c]
  refine rs.w 4 21 ?_ rfl ?_ ?_
  rotate_left 1
  ·(rintro w ⟨pw, rfl⟩; go_simp; try with_reducible rfl)
  simp only [rs.a, rs.b, rs.c]
  refine rs.w 5 22 ?_ rfl ?_ ?_
  rotate_left 1
  ·(rintro w ⟨pw, rfl⟩; go_simp; try with_reducible rfl)
  simp only [rs.a, rs.b, rs.c]
  refine rs.w 6 23 ?_ rfl ?_ ?_
  rotate_left 1
  ·(rintro w ⟨pw, rfl⟩; go_simp; try with_reducible rfl)
  simp only [rs.a, rs.b, rs.c]
  refine wpAnyH_ready (rs := [7]) (by kernel_rfl) (by simp) ?_
  refine AllReadyH.cons rfl (fun K hK => ?_) AllReadyH.nil
  go_simp
  refine (require_f _).mono ?_
  rintro e w3 ⟨rfl, rfl⟩
  exact ⟨rfl, .inr ⟨HE.out, rfl, (HB.out.later q0).fm⟩⟩
 have HE := Lib.hid (show applyS k (.time v) = some (timeS k v) by rw [applyS, if_pos hu])
 have hd : decide (k.time < v) = true := decide_eq_true hu
 clear hu
 clear h hB0 hr hng hro
 have hta0 := ta_time_time
 go_enter Tryz.func140, Tryz.ntmps140
 go_upto_region 3 with (fail)
 clear hta0
 generalize W.alloc (.cells #[.int .i64 v] 236) = V at HR HM HB ⊢
 have HRb := Lib.hid (show W.heap.size = W.heap.size from rfl)
 generalize W.heap.size = rb at HR HOf HNg HRb ⊢
 clear HRb
 obtain ⟨d0, d1, d2, d3, d4, d5⟩ := qa.six HM.out.box
 have n0 : ∀ p : qa.After V, p.W.cell? ⟨rb, 0, none⟩ = some (.int .i64 v) := fun p => (qa.blk HR.out p).cell 0
 refine qa.region (by kernel_rfl) (by kernel_rfl) ?_
 repeat (go_big_quiet_step (first | (go_at_call 142; exact qa.of_same (require_t _))))
 refine wpQuiet_nil ?_
 rintro _ ⟨p1, rfl⟩
 clear d0 d1 d2 d3 d4 d5 n0
 have hM1 := Lib.hid (HM.out.later p1.h)
 have hR1 := Lib.hid (HR.out.below p1.h HR.out.lt)
 have hB1 := Lib.hid (HB.out.later p1.h)
 clear HM HR HB
 have HM := hM1
 have HR := hR1
 have HB := hB1
 clear hM1 hR1 hB1
 generalize p1.W = V1 at HM HR HB ⊢
 clear p1 V
 clear hd
 go_upto_region 4 with (fail)
 have box := HM.out.box
 have d1 := box.cell 1
 have f1 := box.frozen 1
 have n0 := HR.out.cell 0
 simp only [List.getElem?_toArray, List.getElem?_cons_zero, List.getElem?_cons_succ] at d1 n0
 obtain ⟨hM2, hB2⟩ := HM.out.set1 v
 have HM2 := Lib.hid hM2
 have HB2 := Lib.hid (HB.out.set 1 _ hB2)
 have HR2 := Lib.hid (HR.out.far (p := ⟨g, 1, none⟩) HNg.out (.int .i64 v))
 clear box hM2 hB2 HM HB HR
 have HM := HM2
 have HB := HB2
 have HR := HR2
 clear HM2 HB2 HR2
 go_upto_region 5 with (fail)
 clear d1 f1 n0
 generalize V1.setCell ⟨g, 1, none⟩ (.int .i64 v) = V2 at HM HB HR ⊢
 have hb0 := (Below.refl V2.heap.size V2).drew
 refine wp_region_held_drew (S := (fun w' : World => Blk w' rb 236 #[.int .i64 v])) (by kernel_rfl) (HR.out.below hb0 HR.out.lt) (fun hHeld => ?_)
 clear hHeld
 have HMd := Lib.hid (HM.out.later hb0)
 have HRd := Lib.hid (HR.out.below hb0 HR.out.lt)
 have HBd := Lib.hid (HB.out.later hb0)
 clear hb0
 generalize V2.drew = Z at HMd HRd HBd ⊢
 have hRd := HRd.out
 obtain ⟨k0, k1, k2, k3, k4, k5⟩ := KBox.cells HMd.out.box
 refine rs.w 0 30 ?_ rfl ?_ ?_
 rotate_left 1
 ·(intro w hSw; have n0 := hSw.cell 0; simp only [List.getElem?_toArray, List.getElem?_cons_zero] at n0; go_simp; try with_reducible rfl)
 simp only [rs.a, rs.b, rs.c]
 refine rs.w 1 31 ?_ rfl ?_ ?_
 rotate_left 1
 ·(intro w hSw; have n0 := hSw.cell 0; simp only [List.getElem?_toArray, List.getElem?_cons_zero] at n0; go_simp; try with_reducible rfl)
 simp only [rs.a, rs.b, rs.c]
 refine rs.w 2 32 ?_ rfl ?_ ?_
 rotate_left 1
 ·(intro w hSw; have n0 := hSw.cell 0; simp only [List.getElem?_toArray, List.getElem?_cons_zero] at n0; go_simp; try with_reducible rfl)
 simp only [rs.a, rs.b, rs.c]
 refine rs.w 3 33 ?_ rfl ?_ ?_
 rotate_left 1
 ·(intro w hSw; have n0 := hSw.cell 0; simp only [List.getElem?_toArray, List.getElem?_cons_zero] at n0; go_simp; try with_reducible rfl)
 simp only [rs.a, rs.b, rs.c]
 refine rs.w 5 35 ?_ rfl ?_ ?_
 rotate_left 1
 ·(intro w hSw; have n0 := hSw.cell 0; simp only [List.getElem?_toArray, List.getElem?_cons_zero] at n0; go_simp; try with_reducible rfl)
 simp only [rs.a, rs.b, rs.c]
 refine rs.w 6 36 ?_ rfl ?_ ?_
 rotate_left 1
 ·(intro w hSw; have n0 := hSw.cell 0; simp only [List.getElem?_toArray, List.getElem?_cons_zero] at n0; go_simp; try with_reducible rfl)
 simp only [rs.a, rs.b, rs.c]
 refine wpAnyH_ready (rs := [4]) (by kernel_rfl) (by simp) ?_
 refine AllReadyH.cons rfl (fun K hK => ?_) AllReadyH.nil
 go_simp
 refine hK.out _ _ HRd.out (fun hHeld => ?_)
 clear hK K hHeld
 refine wpAnyH_ready (rs := [7]) (by kernel_rfl) (by simp) ?_
 refine AllReadyH.cons rfl (fun K hK => ?_) AllReadyH.nil
 go_simp
 refine (dropN_any Z B _ k.held v HMd.out.own.held HL.out.1).mono ?_
 rintro e w2 ⟨v', rfl, hO2, hG2, hF2⟩
 obtain ⟨A2, c2, rfl⟩ := OwnAt.form hO2
 obtain ⟨hM3, hB3⟩ := MK.mut3 HMd.out hO2 hG2 hF2
 have box2 := blk_row HMd.out.box hG2 HMd.out.off.1
 have s0 := box2.cell 3
 have f0 := box2.frozen 3
 simp only [List.getElem?_toArray, List.getElem?_cons_zero, List.getElem?_cons_succ] at s0
 have HR2 := Lib.hid (blk_row HRd.out hG2 HOf.out.1)
 have HM3 := Lib.hid hM3
 have HB3 := Lib.hid (HBd.out.mut3 hG2 hF2 hB3)
 have HOf3 := Lib.hid (from_off33 HRd.out.lt HOf.out hF2)
 clear hO2 hG2 hF2 hM3 hB3 box2
 refine hK.out _ _ HR2.out (fun hHeld => ?_)
 clear hK K hHeld k0 k1 k2 k3 k4 k5 hRd
 have hR2 := HR2.out
 refine rs.w 8 38 ?_ rfl ?_ ?_
 rotate_left 1
 ·(intro w hSw; have n0 := hSw.cell 0; simp only [List.getElem?_toArray, List.getElem?_cons_zero] at n0; go_simp; try with_reducible rfl)
 simp only [rs.a, rs.b, rs.c]
 refine rs.w 9 39 ?_ rfl ?_ ?_
 rotate_left 1
 ·(intro w hSw; have n0 := hSw.cell 0; simp only [List.getElem?_toArray, List.getElem?_cons_zero] at n0; go_simp; try with_reducible rfl)
 simp only [rs.a, rs.b, rs.c]
 refine wpAnyH_ready (rs := [10]) (by kernel_rfl) (by simp) ?_
 refine AllReadyH.cons rfl (fun K hK => ?_) AllReadyH.nil
 go_simp
 refine hK.out _ _ (HR2.out.far (p := ⟨g, 3, none⟩) HNg.out _) (fun hHeld => ?_)
 clear hK K hHeld s0 f0 hR2
 refine wpAnyH_done (by kernel_rfl) ?_ _
 have HR3 := Lib.hid (HR2.out.far (p := ⟨g, 3, none⟩) HNg.out (.slice A2 (k.held.filter (fun y => decide (v < y.u))).length c2))
 clear HM HR HB HMd HRd HBd HR2 HOf
 have HM := HM3
 have HR := HR3
 have HB := HB3
 have HOf := HOf3
 clear HM3 HR3 HB3 HOf3
 generalize w2.setCell ⟨g, 3, none⟩ (.slice A2 (k.held.filter (fun y => decide (v < y.u))).length c2) = V3 at HM HR HB ⊢
 clear V2 Z w2
 generalize Value.slice A2 (k.held.filter (fun y => decide (v < y.u))).length c2 = x3 at HM HOf HB ⊢
 go_upto_region 6 with (fail)
 have hb0 := (Below.refl V3.heap.size V3).drew
 refine wp_region_held_drew (S := (fun w' : World => Blk w' rb 236 #[.int .i64 v])) (by kernel_rfl) (HR.out.below hb0 HR.out.lt) (fun hHeld => ?_)
 clear hHeld
 have HMd := Lib.hid (HM.out.later hb0)
 have HRd := Lib.hid (HR.out.below hb0 HR.out.lt)
 have HBd := Lib.hid (HB.out.later hb0)
 clear hb0
 generalize V3.drew = Z at HMd HRd HBd ⊢
 have hRd := HRd.out
 obtain ⟨k0, k1, k2, k3, k4, k5⟩ := KBox.cells HMd.out.box
 refine rs.w 0 40 ?_ rfl ?_ ?_
 rotate_left 1
 ·(intro w hSw; have n0 := hSw.cell 0; simp only [List.getElem?_toArray, List.getElem?_cons_zero] at n0; go_simp; try with_reducible rfl)
 simp only [rs.a, rs.b, rs.c]
 refine rs.w 1 41 ?_ rfl ?_ ?_
 rotate_left 1
 ·(intro w hSw; have n0 := hSw.cell 0; simp only [List.getElem?_toArray, List.getElem?_cons_zero] at n0; go_simp; try with_reducible rfl)
 simp only [rs.a, rs.b, rs.c]
 refine rs.w 2 42 ?_ rfl ?_ ?_
 rotate_left 1
 ·(intro w hSw; have n0 := hSw.cell 0; simp only [List.getElem?_toArray, List.getElem?_cons_zero] at n0; go_simp; try with_reducible rfl)
 simp only [rs.a, rs.b, rs.c]
 refine rs.w 3 43 ?_ rfl ?_ ?_
 rotate_left 1
 ·(intro w hSw; have n0 := hSw.cell 0; simp only [List.getElem?_toArray, List.getElem?_cons_zero] at n0; go_simp; try with_reducible rfl)
 simp only [rs.a, rs.b, rs.c]
 refine rs.w 5 45 ?_ rfl ?_ ?_
 rotate_left 1
 ·(intro w hSw; have n0 := hSw.cell 0; simp only [List.getElem?_toArray, List.getElem?_cons_zero] at n0; go_simp; try with_reducible rfl)
 simp only [rs.a, rs.b, rs.c]
 refine rs.w 6 46 ?_ rfl ?_ ?_
 rotate_left 1
 ·(intro w hSw; have n0 := hSw.cell 0; simp only [List.getElem?_toArray, List.getElem?_cons_zero] at n0; go_simp; try with_reducible rfl)
 simp only [rs.a, rs.b, rs.c]
 refine wpAnyH_ready (rs := [4]) (by kernel_rfl) (by simp) ?_
 refine AllReadyH.cons rfl (fun K hK => ?_) AllReadyH.nil
 go_simp
 refine hK.out _ _ HRd.out (fun hHeld => ?_)
 clear hK K hHeld
 refine wpAnyH_ready (rs := [7]) (by kernel_rfl) (by simp) ?_
 refine AllReadyH.cons rfl (fun K hK => ?_) AllReadyH.nil
 go_simp
 refine (dropM_any Z B _ k.marks v HMd.out.own.marks HL.out.2.1).mono ?_
 rintro e w2 ⟨v', rfl, hO2, hG2, hF2⟩
 obtain ⟨A2, c2, rfl⟩ := OwnAt.form hO2
 obtain ⟨hM3, hB3⟩ := MK.mut4 HMd.out hO2 hG2 hF2
 have box2 := blk_row HMd.out.box hG2 HMd.out.off.2.1
 have s0 := box2.cell 4
 have f0 := box2.frozen 4
 simp only [List.getElem?_toArray, List.getElem?_cons_zero, List.getElem?_cons_succ] at s0
 have HR2 := Lib.hid (blk_row HRd.out hG2 HOf.out.2.1)
 have HM3 := Lib.hid hM3
 have HB3 := Lib.hid (HBd.out.mut4 hG2 hF2 hB3)
 have HOf3 := Lib.hid (from_off34 HRd.out.lt HOf.out hF2)
 clear hO2 hG2 hF2 hM3 hB3 box2
 refine hK.out _ _ HR2.out (fun hHeld => ?_)
 clear hK K hHeld k0 k1 k2 k3 k4 k5 hRd
 have hR2 := HR2.out
 refine rs.w 8 48 ?_ rfl ?_ ?_
 rotate_left 1
 ·(intro w hSw; have n0 := hSw.cell 0; simp only [List.getElem?_toArray, List.getElem?_cons_zero] at n0; go_simp; try with_reducible rfl)
 simp only [rs.a, rs.b, rs.c]
 refine rs.w 9 49 ?_ rfl ?_ ?_
 rotate_left 1
 ·(intro w hSw; have n0 := hSw.cell 0; simp only [List.getElem?_toArray, List.getElem?_cons_zero] at n0; go_simp; try with_reducible rfl)
 simp only [rs.a, rs.b, rs.c]
 refine wpAnyH_ready (rs := [10]) (by kernel_rfl) (by simp) ?_
 refine AllReadyH.cons rfl (fun K hK => ?_) AllReadyH.nil
 go_simp
 refine hK.out _ _ (HR2.out.far (p := ⟨g, 4, none⟩) HNg.out _) (fun hHeld => ?_)
 clear hK K hHeld s0 f0 hR2
 refine wpAnyH_done (by kernel_rfl) ?_ _
 have HR3 := Lib.hid (HR2.out.far (p := ⟨g, 4, none⟩) HNg.out (.slice A2 (k.marks.filter (fun y => decide (v < y.u))).length c2))
 clear HM HR HB HMd HRd HBd HR2 HOf
 have HM := HM3
 have HR := HR3
 have HB := HB3
 have HOf := HOf3
 clear HM3 HR3 HB3 HOf3
 generalize w2.setCell ⟨g, 4, none⟩ (.slice A2 (k.marks.filter (fun y => decide (v < y.u))).length c2) = V4 at HM HR HB ⊢
 clear V3 Z w2
 generalize Value.slice A2 (k.marks.filter (fun y => decide (v < y.u))).length c2 = x4 at HM HOf HB ⊢
 have HZ := Lib.hid (And.intro HM.out HB.out)
 clear HM HR HB HOf
 go_wp2
 go_end0
 exact .inl ⟨_, _, _, _, HE.out, rfl, HZ.out.1, HZ.out.2.fm, HZ.out.2.off⟩
set_option maxRecDepth 100000 in
set_option maxHeartbeats 4000000 in
theorem chg_next (B : Nat) (W : World) (g r : Nat) (k : Kp) (a b c : Value) (v : Int) (h : MK B W g k a b c) (hz : Sz 14 k) (hr : r < W.heap.size) (hng : r ≠ g) (hro : Off r a b c) :
  Calls Tryz.prog 140 #[.pointer (some ⟨g, 0, none⟩), .iface 240 (.agg #[.int .i64 v])] W (ChPost B W g r (applyS k (.next v))) := by
 have hB0 := (Below.refl W.heap.size W).alloc (Nat.le_refl _) (.cells #[.int .i64 v] 240)
 have HR := Lib.hid (Blk.new W 240 #[.int .i64 v])
 have HM := Lib.hid (h.later hB0)
 have HOf := Lib.hid (h.own.off_new (Nat.le_refl W.heap.size))
 have HNg := Lib.hid (show W.heap.size ≠ g from by have := h.box.lt; omega)
 have HB := Lib.hid ((FP.new h hr hng hro).later hB0)
 have HL := Lib.hid (hz.few (show 14 ≤ 1048576 by omega))
 by_cases hu : k.next < v
 case neg =>
  have HE := Lib.hid (show applyS k (.next v) = none by rw [applyS, if_neg hu])
  have hd : decide (k.next < v) = false := decide_eq_false hu
  clear hu
  clear h hB0 hr hng hro
  have hta0 := ta_next_time
  have hta1 := ta_next_next
  go_enter Tryz.func140, Tryz.ntmps140
  go_upto_region 9 with (fail)
  clear hta0 hta1
  generalize W.alloc (.cells #[.int .i64 v] 240) = V at HR HM HB ⊢
  have HRb := Lib.hid (show W.heap.size = W.heap.size from rfl)
  generalize W.heap.size = rb at HR HOf HNg HRb ⊢
  clear HRb
  obtain ⟨d0, d1, d2, d3, d4, d5⟩ := qa.six HM.out.box
  have n0 : ∀ p : qa.After V, p.W.cell? ⟨rb, 0, none⟩ = some (.int .i64 v) := fun p => (qa.blk HR.out p).cell 0
  refine wp_region_held_drew (S := (fun w' : World => ∃ p : qa.After V, w' = p.W)) (by kernel_rfl) ⟨⟨_, (Below.refl _ V).drew⟩, rfl⟩ (fun hHeld => ?_)
  have q0 : Below V.heap.size V V.drew := (Below.refl _ V).drew
  refine rs.w 0 53 ?_ rfl ?_ ?_
  rotate_left 1
  ·(rintro w ⟨pw, rfl⟩; go_simp; try with_reducible rfl)
  simp only [rs.a, rs.b, rs.c]
  refine rs.w 1 54 ?_ rfl ?_ ?_
  rotate_left 1
  ·(rintro w ⟨pw, rfl⟩; go_simp; try with_reducible rfl)
  simp only [rs.a, rs.b, rs.c]
  refine rs.w 2 55 ?_ rfl ?_ ?_
  rotate_left 1
  ·(rintro w ⟨pw, rfl⟩; go_simp; try with_reducible rfl)
  simp only [rs.a, rs.b, rs.c]
  refine rs.w 3 56 ?_ rfl ?_ ?_
  rotate_left 1
  ·(rintro w ⟨pw, rfl⟩; go_simp; try with_reducible rfl)
  simp only [rs.a, rs.b, rs.c]
  refine rs.w 4 57 ?_ rfl ?_ ?_
  rotate_left 1
  ·(rintro w ⟨pw, rfl⟩; go_simp; try with_reducible rfl)
  simp only [rs.a, rs.b, rs.c]
  refine rs.w 5 58 ?_ rfl ?_ ?_
  rotate_left 1
  ·(rintro w ⟨pw, rfl⟩; go_simp; try with_reducible rfl)
  simp only [rs.a, rs.b, rs.c]
  refine rs.w 6 59 ?_ rfl ?_ ?_
  rotate_left 1
  ·(rintro w ⟨pw, rfl⟩; go_simp; try with_reducible rfl)
  simp only [rs.a, rs.b, rs.c]
  refine wpAnyH_ready (rs := [7]) (by kernel_rfl) (by simp) ?_
  refine AllReadyH.cons rfl (fun K hK => ?_) AllReadyH.nil
  go_simp
  refine (require_f _).mono ?_
  rintro e w3 ⟨rfl, rfl⟩
  exact ⟨rfl, .inr ⟨HE.out, rfl, (HB.out.later q0).fm⟩⟩
 have HE := Lib.hid (show applyS k (.next v) = some { k with next := v } by rw [applyS, if_pos hu])
 have hd : decide (k.next < v) = true := decide_eq_true hu
 clear hu
 clear h hB0 hr hng hro
 have hta0 := ta_next_time
 have hta1 := ta_next_next
 go_enter Tryz.func140, Tryz.ntmps140
 go_upto_region 9 with (fail)
 clear hta0 hta1
 generalize W.alloc (.cells #[.int .i64 v] 240) = V at HR HM HB ⊢
 have HRb := Lib.hid (show W.heap.size = W.heap.size from rfl)
 generalize W.heap.size = rb at HR HOf HNg HRb ⊢
 clear HRb
 obtain ⟨d0, d1, d2, d3, d4, d5⟩ := qa.six HM.out.box
 have n0 : ∀ p : qa.After V, p.W.cell? ⟨rb, 0, none⟩ = some (.int .i64 v) := fun p => (qa.blk HR.out p).cell 0
 refine qa.region (by kernel_rfl) (by kernel_rfl) ?_
 repeat (go_big_quiet_step (first | (go_at_call 142; exact qa.of_same (require_t _))))
 refine wpQuiet_nil ?_
 rintro _ ⟨p1, rfl⟩
 clear d0 d1 d2 d3 d4 d5 n0
 have hM1 := Lib.hid (HM.out.later p1.h)
 have hR1 := Lib.hid (HR.out.below p1.h HR.out.lt)
 have hB1 := Lib.hid (HB.out.later p1.h)
 clear HM HR HB
 have HM := hM1
 have HR := hR1
 have HB := hB1
 clear hM1 hR1 hB1
 generalize p1.W = V1 at HM HR HB ⊢
 clear p1 V
 clear hd
 go_upto_region 10 with (fail)
 have box := HM.out.box
 have d1 := box.cell 2
 have f1 := box.frozen 2
 have n0 := HR.out.cell 0
 simp only [List.getElem?_toArray, List.getElem?_cons_zero, List.getElem?_cons_succ] at d1 n0
 obtain ⟨hM2, hB2⟩ := HM.out.set2 v
 have HM2 := Lib.hid hM2
 have HB2 := Lib.hid (HB.out.set 2 _ hB2)
 clear box hM2 hB2 HM HB HR
 have HM := HM2
 have HB := HB2
 clear HM2 HB2
 go_wp2
 go_end0
 exact .inl ⟨_, _, _, _, HE.out, rfl, HM.out, HB.out.fm, HB.out.off⟩
end Go.Proofs.YtckicpnnclbkpaaGreatDoor.kp

namespace Go.Proofs.YtckicpnnclbkpaaGreatDoor.kp
open Go.ChangeShapes Go.WideShapes Go.ChangeAt Go.RowKit
open wd ow rl ok nb nx
section
variable {k : Kp} {m : Mk}
theorem apply_let {i : Nat} (h : k.held.findIdx? (isM m) = some i) : applyS k (.lets m) = some (letS k i m) := by rw [applyS]; simp only [h]
theorem apply_let_no (h : k.held.findIdx? (isM m) = none) : applyS k (.lets m) = none := by rw [applyS]; simp only [h]
theorem apply_eat {i : Nat} (h : k.inbox.findIdx? (isM m) = some i) : applyS k (.eat m) = some (eatS k i) := by rw [applyS]; simp only [h]
theorem apply_eat_no (h : k.inbox.findIdx? (isM m) = none) : applyS k (.eat m) = none := by rw [applyS]; simp only [h]
end
set_option maxRecDepth 100000 in
set_option maxHeartbeats 4000000 in
theorem chg_lets (B : Nat) (W : World) (g r : Nat) (k : Kp) (a b c : Value) (m : Mk) (h : MK B W g k a b c) (hz : Sz 14 k) (hr : r < W.heap.size) (hng : r ≠ g) (hro : Off r a b c) :
  Calls Tryz.prog 140 #[.pointer (some ⟨g, 0, none⟩), .iface 246 (mkV m)] W (ChPost B W g r (applyS k (.lets m))) := by
 have hB0 := (Below.refl W.heap.size W).alloc (Nat.le_refl _) (.cells #[.int .i64 m.f, .int .i64 m.n, .int .i64 m.u] 246)
 have HR := Lib.hid (Blk.new W 246 #[.int .i64 m.f, .int .i64 m.n, .int .i64 m.u])
 have HM := Lib.hid (h.later hB0)
 have HOf := Lib.hid (h.own.off_new (Nat.le_refl W.heap.size))
 have HNg := Lib.hid (show W.heap.size ≠ g from by have := h.box.lt; omega)
 have HB := Lib.hid ((FP.new h hr hng hro).later hB0)
 have HL := Lib.hid (hz.few (show 14 ≤ 1048576 by omega))
 have HS := Lib.hid (fun i (hi : k.held.findIdx? (isM m) = some i) => apply_let hi)
 have HN := Lib.hid (fun (hi : k.held.findIdx? (isM m) = none) => apply_let_no hi)
 clear h hB0 hr hng hro
 unfold mkV mark
 have hta0 := ta_lets_time
 have hta1 := ta_lets_next
 have hta2 := ta_lets_own
 have hta3 := ta_lets_take
 have hta4 := ta_lets_lets
 go_enter Tryz.func140, Tryz.ntmps140
 go_upto_region 22 with (fail)
 clear hta0 hta1 hta2 hta3 hta4
 generalize W.alloc (.cells #[.int .i64 m.f, .int .i64 m.n, .int .i64 m.u] 246) = V at HR HM HB ⊢
 have HRb := Lib.hid (show W.heap.size = W.heap.size from rfl)
 generalize W.heap.size = rb at HR HOf HNg HRb ⊢
 clear HRb
 have hb0 := (Below.refl V.heap.size V).drew
 refine wp_region_held_drew (S := (fun w' : World => Blk w' rb 246 #[.int .i64 m.f, .int .i64 m.n, .int .i64 m.u])) (by kernel_rfl) (HR.out.below hb0 HR.out.lt) (fun hHeld => ?_)
 clear hHeld
 have HMd := Lib.hid (HM.out.later hb0)
 have HRd := Lib.hid (HR.out.below hb0 HR.out.lt)
 have HBd := Lib.hid (HB.out.later hb0)
 clear hb0
 generalize V.drew = Z at HMd HRd HBd ⊢
 have hRd := HRd.out
 obtain ⟨k0, k1, k2, k3, k4, k5⟩ := KBox.cells HMd.out.box
 refine rs.w 0 118 ?_ rfl ?_ ?_
 rotate_left 1
 ·(intro w hSw; obtain ⟨n0, n1, n2⟩ := cb_m hSw; go_simp; try with_reducible rfl)
 simp only [rs.a, rs.b, rs.c]
 refine rs.w 1 119 ?_ rfl ?_ ?_
 rotate_left 1
 ·(intro w hSw; obtain ⟨n0, n1, n2⟩ := cb_m hSw; go_simp; try with_reducible rfl)
 simp only [rs.a, rs.b, rs.c]
 refine rs.w 2 120 ?_ rfl ?_ ?_
 rotate_left 1
 ·(intro w hSw; obtain ⟨n0, n1, n2⟩ := cb_m hSw; go_simp; try with_reducible rfl)
 simp only [rs.a, rs.b, rs.c]
 refine rs.w 3 121 ?_ rfl ?_ ?_
 rotate_left 1
 ·(intro w hSw; obtain ⟨n0, n1, n2⟩ := cb_m hSw; go_simp; try with_reducible rfl)
 simp only [rs.a, rs.b, rs.c]
 refine rs.w 5 123 ?_ rfl ?_ ?_
 rotate_left 1
 ·(intro w hSw; obtain ⟨n0, n1, n2⟩ := cb_m hSw; go_simp; try with_reducible rfl)
 simp only [rs.a, rs.b, rs.c]
 refine rs.w 6 124 ?_ rfl ?_ ?_
 rotate_left 1
 ·(intro w hSw; obtain ⟨n0, n1, n2⟩ := cb_m hSw; go_simp; try with_reducible rfl)
 simp only [rs.a, rs.b, rs.c]
 refine wpAnyH_ready (rs := [4]) (by kernel_rfl) (by simp) ?_
 refine AllReadyH.cons rfl (fun K hK => ?_) AllReadyH.nil
 go_simp
 refine hK.out _ _ HRd.out (fun hHeld => ?_)
 clear hK K hHeld
 refine wpAnyH_ready (rs := [7]) (by kernel_rfl) (by simp) ?_
 refine AllReadyH.cons rfl (fun K hK => ?_) AllReadyH.nil
 go_simp
 refine (removeN_any Z B _ k.held m HMd.out.own.held HL.out.1).mono ?_
 rintro e w2 hq2
 rcases hq2 with ⟨i, hi, v', rfl, hO2, hG2, hF2⟩ | ⟨hn2, rfl, hb2⟩
 rotate_left 1
 ·exact ⟨rfl, .inr ⟨HN.out hn2, rfl, (HBd.out.later hb2).fm⟩⟩
 have HE := Lib.hid (HS.out i hi)
 clear hi
 obtain ⟨A2, c2, rfl⟩ := OwnAt.form hO2
 obtain ⟨hM3, hB3⟩ := MK.mut3 HMd.out hO2 hG2 hF2
 have box2 := blk_row HMd.out.box hG2 HMd.out.off.1
 have s0 := box2.cell 3
 have f0 := box2.frozen 3
 simp only [List.getElem?_toArray, List.getElem?_cons_zero, List.getElem?_cons_succ] at s0
 have HR2 := Lib.hid (blk_row HRd.out hG2 HOf.out.1)
 have HM3 := Lib.hid hM3
 have HB3 := Lib.hid (HBd.out.mut3 hG2 hF2 hB3)
 have HOf3 := Lib.hid (from_off33 HRd.out.lt HOf.out hF2)
 clear hO2 hG2 hF2 hM3 hB3 box2
 refine hK.out _ _ HR2.out (fun hHeld => ?_)
 clear hK K hHeld k0 k1 k2 k3 k4 k5 hRd
 have hR2 := HR2.out
 refine rs.w 8 126 ?_ rfl ?_ ?_
 rotate_left 1
 ·(intro w hSw; obtain ⟨n0, n1, n2⟩ := cb_m hSw; go_simp; try with_reducible rfl)
 simp only [rs.a, rs.b, rs.c]
 refine rs.w 9 127 ?_ rfl ?_ ?_
 rotate_left 1
 ·(intro w hSw; obtain ⟨n0, n1, n2⟩ := cb_m hSw; go_simp; try with_reducible rfl)
 simp only [rs.a, rs.b, rs.c]
 refine wpAnyH_ready (rs := [10]) (by kernel_rfl) (by simp) ?_
 refine AllReadyH.cons rfl (fun K hK => ?_) AllReadyH.nil
 go_simp
 refine hK.out _ _ (HR2.out.far (p := ⟨g, 3, none⟩) HNg.out _) (fun hHeld => ?_)
 clear hK K hHeld s0 f0 hR2
 refine wpAnyH_done (by kernel_rfl) ?_ _
 have HR3 := Lib.hid (HR2.out.far (p := ⟨g, 3, none⟩) HNg.out (.slice A2 (cutL k.held i).length c2))
 clear HM HR HB HMd HRd HBd HR2 HOf
 have HM := HM3
 have HR := HR3
 have HB := HB3
 have HOf := HOf3
 clear HM3 HR3 HB3 HOf3
 generalize w2.setCell ⟨g, 3, none⟩ (.slice A2 (cutL k.held i).length c2) = V2 at HM HR HB ⊢
 clear V Z w2
 generalize Value.slice A2 (cutL k.held i).length c2 = x3 at HM HOf HB ⊢
 go_upto_region 23 with (fail)
 have hb0 := (Below.refl V2.heap.size V2).drew
 refine wp_region_held_drew (S := (fun w' : World => Blk w' rb 246 #[.int .i64 m.f, .int .i64 m.n, .int .i64 m.u])) (by kernel_rfl) (HR.out.below hb0 HR.out.lt) (fun hHeld => ?_)
 clear hHeld
 have HMd := Lib.hid (HM.out.later hb0)
 have HRd := Lib.hid (HR.out.below hb0 HR.out.lt)
 have HBd := Lib.hid (HB.out.later hb0)
 clear hb0
 generalize V2.drew = Z at HMd HRd HBd ⊢
 have hRd := HRd.out
 obtain ⟨k0, k1, k2, k3, k4, k5⟩ := KBox.cells HMd.out.box
 refine rs.w 0 128 ?_ rfl ?_ ?_
 rotate_left 1
 ·(intro w hSw; obtain ⟨n0, n1, n2⟩ := cb_m hSw; go_simp; try with_reducible rfl)
 simp only [rs.a, rs.b, rs.c]
 refine rs.w 1 129 ?_ rfl ?_ ?_
 rotate_left 1
 ·(intro w hSw; obtain ⟨n0, n1, n2⟩ := cb_m hSw; go_simp; try with_reducible rfl)
 simp only [rs.a, rs.b, rs.c]
 refine rs.w 2 130 ?_ rfl ?_ ?_
 rotate_left 1
 ·(intro w hSw; obtain ⟨n0, n1, n2⟩ := cb_m hSw; go_simp; try with_reducible rfl)
 simp only [rs.a, rs.b, rs.c]
 refine rs.w 3 131 ?_ rfl ?_ ?_
 rotate_left 1
 ·(intro w hSw; obtain ⟨n0, n1, n2⟩ := cb_m hSw; go_simp; try with_reducible rfl)
 simp only [rs.a, rs.b, rs.c]
 refine rs.w 5 133 ?_ rfl ?_ ?_
 rotate_left 1
 ·(intro w hSw; obtain ⟨n0, n1, n2⟩ := cb_m hSw; go_simp; try with_reducible rfl)
 simp only [rs.a, rs.b, rs.c]
 refine rs.w 6 134 ?_ rfl ?_ ?_
 rotate_left 1
 ·(intro w hSw; obtain ⟨n0, n1, n2⟩ := cb_m hSw; go_simp; try with_reducible rfl)
 simp only [rs.a, rs.b, rs.c]
 refine wpAnyH_ready (rs := [4]) (by kernel_rfl) (by simp) ?_
 refine AllReadyH.cons rfl (fun K hK => ?_) AllReadyH.nil
 go_simp
 refine hK.out _ _ HRd.out (fun hHeld => ?_)
 clear hK K hHeld
 refine wpAnyH_ready (rs := [7]) (by kernel_rfl) (by simp) ?_
 refine AllReadyH.cons rfl (fun K hK => ?_) AllReadyH.nil
 go_simp
 refine (insertM_any Z B _ k.marks m HMd.out.own.marks HMd.out.bW HL.out.2.1).mono ?_
 rintro e w2 ⟨v', rfl, hO2, hG2, hF2⟩
 obtain ⟨A2, c2, rfl⟩ := OwnAt.form hO2
 obtain ⟨hM3, hB3⟩ := MK.mut4 HMd.out hO2 hG2 hF2
 have box2 := blk_row HMd.out.box hG2 HMd.out.off.2.1
 have s0 := box2.cell 4
 have f0 := box2.frozen 4
 simp only [List.getElem?_toArray, List.getElem?_cons_zero, List.getElem?_cons_succ] at s0
 have HR2 := Lib.hid (blk_row HRd.out hG2 HOf.out.2.1)
 have HM3 := Lib.hid hM3
 have HB3 := Lib.hid (HBd.out.mut4 hG2 hF2 hB3)
 have HOf3 := Lib.hid (from_off34 HRd.out.lt HOf.out hF2)
 clear hO2 hG2 hF2 hM3 hB3 box2
 refine hK.out _ _ HR2.out (fun hHeld => ?_)
 clear hK K hHeld k0 k1 k2 k3 k4 k5 hRd
 have hR2 := HR2.out
 refine rs.w 8 136 ?_ rfl ?_ ?_
 rotate_left 1
 ·(intro w hSw; obtain ⟨n0, n1, n2⟩ := cb_m hSw; go_simp; try with_reducible rfl)
 simp only [rs.a, rs.b, rs.c]
 refine rs.w 9 137 ?_ rfl ?_ ?_
 rotate_left 1
 ·(intro w hSw; obtain ⟨n0, n1, n2⟩ := cb_m hSw; go_simp; try with_reducible rfl)
 simp only [rs.a, rs.b, rs.c]
 refine wpAnyH_ready (rs := [10]) (by kernel_rfl) (by simp) ?_
 refine AllReadyH.cons rfl (fun K hK => ?_) AllReadyH.nil
 go_simp
 refine hK.out _ _ (HR2.out.far (p := ⟨g, 4, none⟩) HNg.out _) (fun hHeld => ?_)
 clear hK K hHeld s0 f0 hR2
 refine wpAnyH_done (by kernel_rfl) ?_ _
 have HR3 := Lib.hid (HR2.out.far (p := ⟨g, 4, none⟩) HNg.out (.slice A2 (putM k.marks m).length c2))
 clear HM HR HB HMd HRd HBd HR2 HOf
 have HM := HM3
 have HR := HR3
 have HB := HB3
 have HOf := HOf3
 clear HM3 HR3 HB3 HOf3
 generalize w2.setCell ⟨g, 4, none⟩ (.slice A2 (putM k.marks m).length c2) = V3 at HM HR HB ⊢
 clear V2 Z w2
 generalize Value.slice A2 (putM k.marks m).length c2 = x4 at HM HOf HB ⊢
 have HZ := Lib.hid (And.intro HM.out HB.out)
 clear HM HR HB HOf
 go_wp2
 go_end0
 exact .inl ⟨_, _, _, _, HE.out, rfl, HZ.out.1, HZ.out.2.fm, HZ.out.2.off⟩
set_option maxRecDepth 100000 in
set_option maxHeartbeats 4000000 in
theorem chg_eat (B : Nat) (W : World) (g r : Nat) (k : Kp) (a b c : Value) (m : Mk) (h : MK B W g k a b c) (hz : Sz 14 k) (hr : r < W.heap.size) (hng : r ≠ g) (hro : Off r a b c) :
  Calls Tryz.prog 140 #[.pointer (some ⟨g, 0, none⟩), .iface 248 (mkV m)] W (ChPost B W g r (applyS k (.eat m))) := by
 have hB0 := (Below.refl W.heap.size W).alloc (Nat.le_refl _) (.cells #[.int .i64 m.f, .int .i64 m.n, .int .i64 m.u] 248)
 have HR := Lib.hid (Blk.new W 248 #[.int .i64 m.f, .int .i64 m.n, .int .i64 m.u])
 have HM := Lib.hid (h.later hB0)
 have HOf := Lib.hid (h.own.off_new (Nat.le_refl W.heap.size))
 have HNg := Lib.hid (show W.heap.size ≠ g from by have := h.box.lt; omega)
 have HB := Lib.hid ((FP.new h hr hng hro).later hB0)
 have HL := Lib.hid (hz.few (show 14 ≤ 1048576 by omega))
 have HS := Lib.hid (fun i (hi : k.inbox.findIdx? (isM m) = some i) => apply_eat hi)
 have HN := Lib.hid (fun (hi : k.inbox.findIdx? (isM m) = none) => apply_eat_no hi)
 clear h hB0 hr hng hro
 unfold mkV mark
 have hta0 := ta_eat_time
 have hta1 := ta_eat_next
 have hta2 := ta_eat_own
 have hta3 := ta_eat_take
 have hta4 := ta_eat_lets
 have hta5 := ta_eat_eat
 go_enter Tryz.func140, Tryz.ntmps140
 go_upto_region 26 with (fail)
 clear hta0 hta1 hta2 hta3 hta4 hta5
 generalize W.alloc (.cells #[.int .i64 m.f, .int .i64 m.n, .int .i64 m.u] 248) = V at HR HM HB ⊢
 have HRb := Lib.hid (show W.heap.size = W.heap.size from rfl)
 generalize W.heap.size = rb at HR HOf HNg HRb ⊢
 clear HRb
 have hb0 := (Below.refl V.heap.size V).drew
 refine wp_region_held_drew (S := (fun w' : World => Blk w' rb 248 #[.int .i64 m.f, .int .i64 m.n, .int .i64 m.u])) (by kernel_rfl) (HR.out.below hb0 HR.out.lt) (fun hHeld => ?_)
 clear hHeld
 have HMd := Lib.hid (HM.out.later hb0)
 have HRd := Lib.hid (HR.out.below hb0 HR.out.lt)
 have HBd := Lib.hid (HB.out.later hb0)
 clear hb0
 generalize V.drew = Z at HMd HRd HBd ⊢
 have hRd := HRd.out
 obtain ⟨k0, k1, k2, k3, k4, k5⟩ := KBox.cells HMd.out.box
 refine rs.w 0 141 ?_ rfl ?_ ?_
 rotate_left 1
 ·(intro w hSw; obtain ⟨n0, n1, n2⟩ := cb_m hSw; go_simp; try with_reducible rfl)
 simp only [rs.a, rs.b, rs.c]
 refine rs.w 1 142 ?_ rfl ?_ ?_
 rotate_left 1
 ·(intro w hSw; obtain ⟨n0, n1, n2⟩ := cb_m hSw; go_simp; try with_reducible rfl)
 simp only [rs.a, rs.b, rs.c]
 refine rs.w 2 143 ?_ rfl ?_ ?_
 rotate_left 1
 ·(intro w hSw; obtain ⟨n0, n1, n2⟩ := cb_m hSw; go_simp; try with_reducible rfl)
 simp only [rs.a, rs.b, rs.c]
 refine rs.w 3 144 ?_ rfl ?_ ?_
 rotate_left 1
 ·(intro w hSw; obtain ⟨n0, n1, n2⟩ := cb_m hSw; go_simp; try with_reducible rfl)
 simp only [rs.a, rs.b, rs.c]
 refine rs.w 5 146 ?_ rfl ?_ ?_
 rotate_left 1
 ·(intro w hSw; obtain ⟨n0, n1, n2⟩ := cb_m hSw; go_simp; try with_reducible rfl)
 simp only [rs.a, rs.b, rs.c]
 refine rs.w 6 147 ?_ rfl ?_ ?_
 rotate_left 1
 ·(intro w hSw; obtain ⟨n0, n1, n2⟩ := cb_m hSw; go_simp; try with_reducible rfl)
 simp only [rs.a, rs.b, rs.c]
 refine wpAnyH_ready (rs := [4]) (by kernel_rfl) (by simp) ?_
 refine AllReadyH.cons rfl (fun K hK => ?_) AllReadyH.nil
 go_simp
 refine hK.out _ _ HRd.out (fun hHeld => ?_)
 clear hK K hHeld
 refine wpAnyH_ready (rs := [7]) (by kernel_rfl) (by simp) ?_
 refine AllReadyH.cons rfl (fun K hK => ?_) AllReadyH.nil
 go_simp
 refine (removeN_any Z B _ k.inbox m HMd.out.own.inbox HL.out.2.2).mono ?_
 rintro e w2 hq2
 rcases hq2 with ⟨i, hi, v', rfl, hO2, hG2, hF2⟩ | ⟨hn2, rfl, hb2⟩
 rotate_left 1
 ·exact ⟨rfl, .inr ⟨HN.out hn2, rfl, (HBd.out.later hb2).fm⟩⟩
 have HE := Lib.hid (HS.out i hi)
 clear hi
 obtain ⟨A2, c2, rfl⟩ := OwnAt.form hO2
 obtain ⟨hM3, hB3⟩ := MK.mut5 HMd.out hO2 hG2 hF2
 have box2 := blk_row HMd.out.box hG2 HMd.out.off.2.2
 have s0 := box2.cell 5
 have f0 := box2.frozen 5
 simp only [List.getElem?_toArray, List.getElem?_cons_zero, List.getElem?_cons_succ] at s0
 have HR2 := Lib.hid (blk_row HRd.out hG2 HOf.out.2.2)
 have HM3 := Lib.hid hM3
 have HB3 := Lib.hid (HBd.out.mut5 hG2 hF2 hB3)
 have HOf3 := Lib.hid (from_off35 HRd.out.lt HOf.out hF2)
 clear hO2 hG2 hF2 hM3 hB3 box2
 refine hK.out _ _ HR2.out (fun hHeld => ?_)
 clear hK K hHeld k0 k1 k2 k3 k4 k5 hRd
 have hR2 := HR2.out
 refine rs.w 8 149 ?_ rfl ?_ ?_
 rotate_left 1
 ·(intro w hSw; obtain ⟨n0, n1, n2⟩ := cb_m hSw; go_simp; try with_reducible rfl)
 simp only [rs.a, rs.b, rs.c]
 refine rs.w 9 150 ?_ rfl ?_ ?_
 rotate_left 1
 ·(intro w hSw; obtain ⟨n0, n1, n2⟩ := cb_m hSw; go_simp; try with_reducible rfl)
 simp only [rs.a, rs.b, rs.c]
 refine wpAnyH_ready (rs := [10]) (by kernel_rfl) (by simp) ?_
 refine AllReadyH.cons rfl (fun K hK => ?_) AllReadyH.nil
 go_simp
 refine hK.out _ _ (HR2.out.far (p := ⟨g, 5, none⟩) HNg.out _) (fun hHeld => ?_)
 clear hK K hHeld s0 f0 hR2
 refine wpAnyH_done (by kernel_rfl) ?_ _
 have HR3 := Lib.hid (HR2.out.far (p := ⟨g, 5, none⟩) HNg.out (.slice A2 (cutL k.inbox i).length c2))
 clear HM HR HB HMd HRd HBd HR2 HOf
 have HM := HM3
 have HR := HR3
 have HB := HB3
 have HOf := HOf3
 clear HM3 HR3 HB3 HOf3
 generalize w2.setCell ⟨g, 5, none⟩ (.slice A2 (cutL k.inbox i).length c2) = V2 at HM HR HB ⊢
 clear V Z w2
 generalize Value.slice A2 (cutL k.inbox i).length c2 = x5 at HM HOf HB ⊢
 have HZ := Lib.hid (And.intro HM.out HB.out)
 clear HM HR HB HOf
 go_wp2
 go_end0
 exact .inl ⟨_, _, _, _, HE.out, rfl, HZ.out.1, HZ.out.2.fm, HZ.out.2.off⟩
end Go.Proofs.YtckicpnnclbkpaaGreatDoor.kp

