/-
  Merged texts: IAssert, IChg1.
-/
import Derived.Test.YtjmmojjjopjdpaaGreatDoorGFnKeepOf29
/-
  What the type switch of (*impl.Keep).change finds.
-/
namespace Go.Proofs.YtjmmojjjopjdpaaGreatDoor.kp
open Go.ChangeShapes Go.WideShapes Go.ChangeAt Go.RowKit
open Go.Proofs.YtjmmojjjopjdpaaGreatDoor.wd Go.Proofs.YtjmmojjjopjdpaaGreatDoor.ow Go.Proofs.YtjmmojjjopjdpaaGreatDoor.rl Go.Proofs.YtjmmojjjopjdpaaGreatDoor.ok Go.Proofs.YtjmmojjjopjdpaaGreatDoor.nb Go.Proofs.YtjmmojjjopjdpaaGreatDoor.nx

theorem cb_m {W : World} {R : Nat} {T : TypeId} {a b c : Value} (h : Blk W R T #[a, b, c]) : W.cell? ⟨R, 0, none⟩ = some a ∧ W.cell? ⟨R, 1, none⟩ = some b ∧ W.cell? ⟨R, 2, none⟩ = some c := ⟨h.cell 0, h.cell 1, h.cell 2⟩
theorem cb_x {W : World} {R : Nat} {T : TypeId} {a b c d e : Value} (h : Blk W R T #[a, b, c, d, e]) : W.cell? ⟨R, 0, none⟩ = some a ∧ W.cell? ⟨R, 1, none⟩ = some b ∧ W.cell? ⟨R, 2, none⟩ = some c ∧ W.cell? ⟨R, 3, none⟩ = some d ∧ W.cell? ⟨R, 4, none⟩ = some e := ⟨h.cell 0, h.cell 1, h.cell 2, h.cell 3, h.cell 4⟩
theorem ta_time_time (v : Value) (w : World) : (Instr.typeAssert (.iface 238 v) 171 238 true).run Tryz.prog w = .ok (.tuple #[v, .bool true]) w := by kernel_rfl
theorem ta_next_time (v : Value) (w : World) : (Instr.typeAssert (.iface 242 v) 171 238 true).run Tryz.prog w = .ok (.tuple #[.agg #[.int .i64 0], .bool false]) w := by kernel_rfl
theorem ta_next_next (v : Value) (w : World) : (Instr.typeAssert (.iface 242 v) 171 242 true).run Tryz.prog w = .ok (.tuple #[v, .bool true]) w := by kernel_rfl
theorem ta_own_time (v : Value) (w : World) : (Instr.typeAssert (.iface 244 v) 171 238 true).run Tryz.prog w = .ok (.tuple #[.agg #[.int .i64 0], .bool false]) w := by kernel_rfl
theorem ta_own_next (v : Value) (w : World) : (Instr.typeAssert (.iface 244 v) 171 242 true).run Tryz.prog w = .ok (.tuple #[.agg #[.int .i64 0], .bool false]) w := by kernel_rfl
theorem ta_own_own (v : Value) (w : World) : (Instr.typeAssert (.iface 244 v) 171 244 true).run Tryz.prog w = .ok (.tuple #[v, .bool true]) w := by kernel_rfl
theorem ta_take_time (v : Value) (w : World) : (Instr.typeAssert (.iface 246 v) 171 238 true).run Tryz.prog w = .ok (.tuple #[.agg #[.int .i64 0], .bool false]) w := by kernel_rfl
theorem ta_take_next (v : Value) (w : World) : (Instr.typeAssert (.iface 246 v) 171 242 true).run Tryz.prog w = .ok (.tuple #[.agg #[.int .i64 0], .bool false]) w := by kernel_rfl
theorem ta_take_own (v : Value) (w : World) : (Instr.typeAssert (.iface 246 v) 171 244 true).run Tryz.prog w = .ok (.tuple #[.agg #[.int .i64 0, .int .i64 0, .int .i64 0, .int .i64 0, .string ⟨#[]⟩], .bool false]) w := by kernel_rfl
theorem ta_take_take (v : Value) (w : World) : (Instr.typeAssert (.iface 246 v) 171 246 true).run Tryz.prog w = .ok (.tuple #[v, .bool true]) w := by kernel_rfl
theorem ta_lets_time (v : Value) (w : World) : (Instr.typeAssert (.iface 248 v) 171 238 true).run Tryz.prog w = .ok (.tuple #[.agg #[.int .i64 0], .bool false]) w := by kernel_rfl
theorem ta_lets_next (v : Value) (w : World) : (Instr.typeAssert (.iface 248 v) 171 242 true).run Tryz.prog w = .ok (.tuple #[.agg #[.int .i64 0], .bool false]) w := by kernel_rfl
theorem ta_lets_own (v : Value) (w : World) : (Instr.typeAssert (.iface 248 v) 171 244 true).run Tryz.prog w = .ok (.tuple #[.agg #[.int .i64 0, .int .i64 0, .int .i64 0, .int .i64 0, .string ⟨#[]⟩], .bool false]) w := by kernel_rfl
theorem ta_lets_take (v : Value) (w : World) : (Instr.typeAssert (.iface 248 v) 171 246 true).run Tryz.prog w = .ok (.tuple #[.agg #[.int .i64 0, .int .i64 0, .int .i64 0, .int .i64 0, .string ⟨#[]⟩], .bool false]) w := by kernel_rfl
theorem ta_lets_lets (v : Value) (w : World) : (Instr.typeAssert (.iface 248 v) 171 248 true).run Tryz.prog w = .ok (.tuple #[v, .bool true]) w := by kernel_rfl
theorem ta_eat_time (v : Value) (w : World) : (Instr.typeAssert (.iface 250 v) 171 238 true).run Tryz.prog w = .ok (.tuple #[.agg #[.int .i64 0], .bool false]) w := by kernel_rfl
theorem ta_eat_next (v : Value) (w : World) : (Instr.typeAssert (.iface 250 v) 171 242 true).run Tryz.prog w = .ok (.tuple #[.agg #[.int .i64 0], .bool false]) w := by kernel_rfl
theorem ta_eat_own (v : Value) (w : World) : (Instr.typeAssert (.iface 250 v) 171 244 true).run Tryz.prog w = .ok (.tuple #[.agg #[.int .i64 0, .int .i64 0, .int .i64 0, .int .i64 0, .string ⟨#[]⟩], .bool false]) w := by kernel_rfl
theorem ta_eat_take (v : Value) (w : World) : (Instr.typeAssert (.iface 250 v) 171 246 true).run Tryz.prog w = .ok (.tuple #[.agg #[.int .i64 0, .int .i64 0, .int .i64 0, .int .i64 0, .string ⟨#[]⟩], .bool false]) w := by kernel_rfl
theorem ta_eat_lets (v : Value) (w : World) : (Instr.typeAssert (.iface 250 v) 171 248 true).run Tryz.prog w = .ok (.tuple #[.agg #[.int .i64 0, .int .i64 0, .int .i64 0], .bool false]) w := by kernel_rfl
theorem ta_eat_eat (v : Value) (w : World) : (Instr.typeAssert (.iface 250 v) 171 250 true).run Tryz.prog w = .ok (.tuple #[v, .bool true]) w := by kernel_rfl
theorem ta_mark_time (v : Value) (w : World) : (Instr.typeAssert (.iface 251 v) 171 238 true).run Tryz.prog w = .ok (.tuple #[.agg #[.int .i64 0], .bool false]) w := by kernel_rfl
theorem ta_mark_next (v : Value) (w : World) : (Instr.typeAssert (.iface 251 v) 171 242 true).run Tryz.prog w = .ok (.tuple #[.agg #[.int .i64 0], .bool false]) w := by kernel_rfl
theorem ta_mark_own (v : Value) (w : World) : (Instr.typeAssert (.iface 251 v) 171 244 true).run Tryz.prog w = .ok (.tuple #[.agg #[.int .i64 0, .int .i64 0, .int .i64 0, .int .i64 0, .string ⟨#[]⟩], .bool false]) w := by kernel_rfl
theorem ta_mark_take (v : Value) (w : World) : (Instr.typeAssert (.iface 251 v) 171 246 true).run Tryz.prog w = .ok (.tuple #[.agg #[.int .i64 0, .int .i64 0, .int .i64 0, .int .i64 0, .string ⟨#[]⟩], .bool false]) w := by kernel_rfl
theorem ta_mark_lets (v : Value) (w : World) : (Instr.typeAssert (.iface 251 v) 171 248 true).run Tryz.prog w = .ok (.tuple #[.agg #[.int .i64 0, .int .i64 0, .int .i64 0], .bool false]) w := by kernel_rfl
theorem ta_mark_eat (v : Value) (w : World) : (Instr.typeAssert (.iface 251 v) 171 250 true).run Tryz.prog w = .ok (.tuple #[.agg #[.int .i64 0, .int .i64 0, .int .i64 0], .bool false]) w := by kernel_rfl
theorem ta_mark_mark (v : Value) (w : World) : (Instr.typeAssert (.iface 251 v) 171 251 true).run Tryz.prog w = .ok (.tuple #[v, .bool true]) w := by kernel_rfl
theorem ta_held_time (v : Value) (w : World) : (Instr.typeAssert (.iface 252 v) 171 238 true).run Tryz.prog w = .ok (.tuple #[.agg #[.int .i64 0], .bool false]) w := by kernel_rfl
theorem ta_held_next (v : Value) (w : World) : (Instr.typeAssert (.iface 252 v) 171 242 true).run Tryz.prog w = .ok (.tuple #[.agg #[.int .i64 0], .bool false]) w := by kernel_rfl
theorem ta_held_own (v : Value) (w : World) : (Instr.typeAssert (.iface 252 v) 171 244 true).run Tryz.prog w = .ok (.tuple #[.agg #[.int .i64 0, .int .i64 0, .int .i64 0, .int .i64 0, .string ⟨#[]⟩], .bool false]) w := by kernel_rfl
theorem ta_held_take (v : Value) (w : World) : (Instr.typeAssert (.iface 252 v) 171 246 true).run Tryz.prog w = .ok (.tuple #[.agg #[.int .i64 0, .int .i64 0, .int .i64 0, .int .i64 0, .string ⟨#[]⟩], .bool false]) w := by kernel_rfl
theorem ta_held_lets (v : Value) (w : World) : (Instr.typeAssert (.iface 252 v) 171 248 true).run Tryz.prog w = .ok (.tuple #[.agg #[.int .i64 0, .int .i64 0, .int .i64 0], .bool false]) w := by kernel_rfl
theorem ta_held_eat (v : Value) (w : World) : (Instr.typeAssert (.iface 252 v) 171 250 true).run Tryz.prog w = .ok (.tuple #[.agg #[.int .i64 0, .int .i64 0, .int .i64 0], .bool false]) w := by kernel_rfl
theorem ta_held_mark (v : Value) (w : World) : (Instr.typeAssert (.iface 252 v) 171 251 true).run Tryz.prog w = .ok (.tuple #[.agg #[.int .i64 0, .int .i64 0, .int .i64 0], .bool false]) w := by kernel_rfl
theorem ta_held_held (v : Value) (w : World) : (Instr.typeAssert (.iface 252 v) 171 252 true).run Tryz.prog w = .ok (.tuple #[v, .bool true]) w := by kernel_rfl
theorem ta_inbox_time (v : Value) (w : World) : (Instr.typeAssert (.iface 253 v) 171 238 true).run Tryz.prog w = .ok (.tuple #[.agg #[.int .i64 0], .bool false]) w := by kernel_rfl
theorem ta_inbox_next (v : Value) (w : World) : (Instr.typeAssert (.iface 253 v) 171 242 true).run Tryz.prog w = .ok (.tuple #[.agg #[.int .i64 0], .bool false]) w := by kernel_rfl
theorem ta_inbox_own (v : Value) (w : World) : (Instr.typeAssert (.iface 253 v) 171 244 true).run Tryz.prog w = .ok (.tuple #[.agg #[.int .i64 0, .int .i64 0, .int .i64 0, .int .i64 0, .string ⟨#[]⟩], .bool false]) w := by kernel_rfl
theorem ta_inbox_take (v : Value) (w : World) : (Instr.typeAssert (.iface 253 v) 171 246 true).run Tryz.prog w = .ok (.tuple #[.agg #[.int .i64 0, .int .i64 0, .int .i64 0, .int .i64 0, .string ⟨#[]⟩], .bool false]) w := by kernel_rfl
theorem ta_inbox_lets (v : Value) (w : World) : (Instr.typeAssert (.iface 253 v) 171 248 true).run Tryz.prog w = .ok (.tuple #[.agg #[.int .i64 0, .int .i64 0, .int .i64 0], .bool false]) w := by kernel_rfl
theorem ta_inbox_eat (v : Value) (w : World) : (Instr.typeAssert (.iface 253 v) 171 250 true).run Tryz.prog w = .ok (.tuple #[.agg #[.int .i64 0, .int .i64 0, .int .i64 0], .bool false]) w := by kernel_rfl
theorem ta_inbox_mark (v : Value) (w : World) : (Instr.typeAssert (.iface 253 v) 171 251 true).run Tryz.prog w = .ok (.tuple #[.agg #[.int .i64 0, .int .i64 0, .int .i64 0], .bool false]) w := by kernel_rfl
theorem ta_inbox_held (v : Value) (w : World) : (Instr.typeAssert (.iface 253 v) 171 252 true).run Tryz.prog w = .ok (.tuple #[.agg #[.int .i64 0, .int .i64 0, .int .i64 0, .int .i64 0, .string ⟨#[]⟩], .bool false]) w := by kernel_rfl
theorem ta_inbox_inbox (v : Value) (w : World) : (Instr.typeAssert (.iface 253 v) 171 253 true).run Tryz.prog w = .ok (.tuple #[v, .bool true]) w := by kernel_rfl
end Go.Proofs.YtjmmojjjopjdpaaGreatDoor.kp

/-
  Contract of (*impl.Keep).change: records of time and of the next number.
-/
namespace Go.Proofs.YtjmmojjjopjdpaaGreatDoor.kp
open Go.ChangeShapes Go.WideShapes Go.ChangeAt Go.RowKit
open Go.Proofs.YtjmmojjjopjdpaaGreatDoor.wd Go.Proofs.YtjmmojjjopjdpaaGreatDoor.ow Go.Proofs.YtjmmojjjopjdpaaGreatDoor.rl Go.Proofs.YtjmmojjjopjdpaaGreatDoor.ok Go.Proofs.YtjmmojjjopjdpaaGreatDoor.nb Go.Proofs.YtjmmojjjopjdpaaGreatDoor.nx


set_option maxRecDepth 100000 in
set_option maxHeartbeats 4000000 in
theorem chg_time (B : Nat) (W : World) (g r : Nat) (k : Kp) (a b c : Value) (v : Int) (h : MK B W g k a b c) (hz : Sz 14 k) (hr : r < W.heap.size) (hng : r ≠ g) (hro : Off r a b c) :
    Calls Tryz.prog 119 #[.pointer (some ⟨g, 0, none⟩), .iface 238 (.agg #[.int .i64 v])] W (ChPost B W g r (applyS k (.time v))) := by
  have hB0 := (Below.refl W.heap.size W).alloc (Nat.le_refl _) (.cells #[.int .i64 v] 238)
  have HR := Lib.hid (Blk.new W 238 #[.int .i64 v])
  have HM := Lib.hid (h.later hB0)
  have HOf := Lib.hid (h.own.off_new (Nat.le_refl W.heap.size))
  have HNg := Lib.hid (show W.heap.size ≠ g from by have := h.box.lt; omega)
  have HB := Lib.hid ((FP.new h hr hng hro).later hB0)
  have HL := Lib.hid (hz.few (show 14 ≤ 1048576 by omega))
  by_cases hu : k.time < v
  case neg =>
    have HE := Lib.hid (show applyS k (.time v) = none by rw [applyS, if_neg hu])
    have hd : decide (k.time < v) = false := decide_eq_false hu
    clear hu
    clear h hB0 hr hng hro
    have hta0 := ta_time_time
    go_enter Tryz.func119, Tryz.ntmps119
    go_upto_region 3 with (fail)
    clear hta0
    generalize W.alloc (.cells #[.int .i64 v] 238) = V at HR HM HB ⊢
    have HRb := Lib.hid (show W.heap.size = W.heap.size from rfl)
    generalize W.heap.size = rb at HR HOf HNg HRb ⊢
    clear HRb
    obtain ⟨d0, d1, d2, d3, d4, d5⟩ := qa.six HM.out.box
    have n0 : ∀ p : qa.After V, p.W.cell? ⟨rb, 0, none⟩ = some (.int .i64 v) := fun p => (qa.blk HR.out p).cell 0
    refine wp_region_held_drew (S := (fun w' : World => ∃ p : qa.After V, w' = p.W)) (by kernel_rfl) ⟨⟨_, (Below.refl _ V).drew⟩, rfl⟩ (fun hHeld => ?_)
    have q0 : Below V.heap.size V V.drew := (Below.refl _ V).drew
    refine rs.want_take (i := 0) 17 (v := ?_) rfl rfl (by kernel_rfl) (by kernel_rfl) (by kernel_rfl) (fun _ _ _ _ h => h) rfl ?_ (by assumption) ?_
    rotate_left 1
    · (rintro w ⟨pw, rfl⟩; go_simp; try with_reducible rfl)
    simp only [List.setIfInBounds_toArray, List.set_cons_zero, List.set_cons_succ]
    refine rs.want_take (i := 1) 18 (v := ?_) rfl rfl (by kernel_rfl) (by kernel_rfl) (by kernel_rfl) (fun _ _ _ _ h => h) rfl ?_ (by assumption) ?_
    rotate_left 1
    · (rintro w ⟨pw, rfl⟩; go_simp; try with_reducible rfl)
    simp only [List.setIfInBounds_toArray, List.set_cons_zero, List.set_cons_succ]
    refine rs.want_take (i := 2) 19 (v := ?_) rfl rfl (by kernel_rfl) (by kernel_rfl) (by kernel_rfl) (fun _ _ _ _ h => h) rfl ?_ (by assumption) ?_
    rotate_left 1
    · (rintro w ⟨pw, rfl⟩; go_simp; try with_reducible rfl)
    simp only [List.setIfInBounds_toArray, List.set_cons_zero, List.set_cons_succ]
    refine rs.want_take (i := 3) 20 (v := ?_) rfl rfl (by kernel_rfl) (by kernel_rfl) (by kernel_rfl) (fun _ _ _ _ h => h) rfl ?_ (by assumption) ?_
    rotate_left 1
    · (rintro w ⟨pw, rfl⟩; go_simp; try with_reducible rfl)
    simp only [List.setIfInBounds_toArray, List.set_cons_zero, List.set_cons_succ]
    refine rs.want_take (i := 4) 21 (v := ?_) rfl rfl (by kernel_rfl) (by kernel_rfl) (by kernel_rfl) (fun _ _ _ _ h => h) rfl ?_ (by assumption) ?_
    rotate_left 1
    · (rintro w ⟨pw, rfl⟩; go_simp; try with_reducible rfl)
    simp only [List.setIfInBounds_toArray, List.set_cons_zero, List.set_cons_succ]
    refine rs.want_take (i := 5) 22 (v := ?_) rfl rfl (by kernel_rfl) (by kernel_rfl) (by kernel_rfl) (fun _ _ _ _ h => h) rfl ?_ (by assumption) ?_
    rotate_left 1
    · (rintro w ⟨pw, rfl⟩; go_simp; try with_reducible rfl)
    simp only [List.setIfInBounds_toArray, List.set_cons_zero, List.set_cons_succ]
    refine rs.want_take (i := 6) 23 (v := ?_) rfl rfl (by kernel_rfl) (by kernel_rfl) (by kernel_rfl) (fun _ _ _ _ h => h) rfl ?_ (by assumption) ?_
    rotate_left 1
    · (rintro w ⟨pw, rfl⟩; go_simp; try with_reducible rfl)
    simp only [List.setIfInBounds_toArray, List.set_cons_zero, List.set_cons_succ]
    refine wpAnyH_ready (rs := [7]) (by kernel_rfl) (by simp) ?_
    refine AllReadyH.cons rfl (fun K hK => ?_) AllReadyH.nil
    go_simp
    refine (require_f _).mono ?_
    rintro e w3 ⟨rfl, rfl⟩
    exact ⟨rfl, .inr ⟨HE.out, rfl, (HB.out.later q0).fm⟩⟩
  have HE := Lib.hid (show applyS k (.time v) = some (timeS k v) by rw [applyS, if_pos hu])
  have hd : decide (k.time < v) = true := decide_eq_true hu
  clear hu
  clear h hB0 hr hng hro
  have hta0 := ta_time_time
  go_enter Tryz.func119, Tryz.ntmps119
  go_upto_region 3 with (fail)
  clear hta0
  generalize W.alloc (.cells #[.int .i64 v] 238) = V at HR HM HB ⊢
  have HRb := Lib.hid (show W.heap.size = W.heap.size from rfl)
  generalize W.heap.size = rb at HR HOf HNg HRb ⊢
  clear HRb
  obtain ⟨d0, d1, d2, d3, d4, d5⟩ := qa.six HM.out.box
  have n0 : ∀ p : qa.After V, p.W.cell? ⟨rb, 0, none⟩ = some (.int .i64 v) := fun p => (qa.blk HR.out p).cell 0
  refine qa.region (by kernel_rfl) (by kernel_rfl) ?_
  repeat (go_big_quiet_step (first | (go_at_call 121; exact qa.of_same (require_t _))))
  refine wpQuiet_nil ?_
  rintro _ ⟨p1, rfl⟩
  clear d0 d1 d2 d3 d4 d5 n0
  have hM1 := Lib.hid (HM.out.later p1.h)
  have hR1 := Lib.hid (HR.out.below p1.h HR.out.lt)
  have hB1 := Lib.hid (HB.out.later p1.h)
  clear HM HR HB
  have HM := hM1
  have HR := hR1
  have HB := hB1
  clear hM1 hR1 hB1
  generalize p1.W = V1 at HM HR HB ⊢
  clear p1 V
  clear hd
  go_upto_region 4 with (fail)
  have box := HM.out.box
  have d1 := box.cell 1
  have f1 := box.frozen 1
  have n0 := HR.out.cell 0
  simp only [List.getElem?_toArray, List.getElem?_cons_zero, List.getElem?_cons_succ] at d1 n0
  obtain ⟨hM2, hB2⟩ := HM.out.set1 v
  have HM2 := Lib.hid hM2
  have HB2 := Lib.hid (HB.out.set 1 _ hB2)
  have HR2 := Lib.hid (HR.out.far (p := ⟨g, 1, none⟩) HNg.out (.int .i64 v))
  clear box hM2 hB2 HM HB HR
  have HM := HM2
  have HB := HB2
  have HR := HR2
  clear HM2 HB2 HR2
  go_upto_region 5 with (fail)
  clear d1 f1 n0
  generalize V1.setCell ⟨g, 1, none⟩ (.int .i64 v) = V2 at HM HB HR ⊢
  have hb0 := (Below.refl V2.heap.size V2).drew
  refine wp_region_held_drew (S := (fun w' : World => Blk w' rb 238 #[.int .i64 v])) (by kernel_rfl) (HR.out.below hb0 HR.out.lt) (fun hHeld => ?_)
  clear hHeld
  have HMd := Lib.hid (HM.out.later hb0)
  have HRd := Lib.hid (HR.out.below hb0 HR.out.lt)
  have HBd := Lib.hid (HB.out.later hb0)
  clear hb0
  generalize V2.drew = Z at HMd HRd HBd ⊢
  have hRd := HRd.out
  obtain ⟨k0, k1, k2, k3, k4, k5⟩ := KBox.cells HMd.out.box
  refine rs.want_take (i := 0) 30 (v := ?_) rfl rfl (by kernel_rfl) (by kernel_rfl) (by kernel_rfl) (fun _ _ _ _ h => h) rfl ?_ (by assumption) ?_
  rotate_left 1
  · (intro w hSw; have n0 := hSw.cell 0; simp only [List.getElem?_toArray, List.getElem?_cons_zero] at n0; go_simp; try with_reducible rfl)
  simp only [List.setIfInBounds_toArray, List.set_cons_zero, List.set_cons_succ]
  refine rs.want_take (i := 1) 31 (v := ?_) rfl rfl (by kernel_rfl) (by kernel_rfl) (by kernel_rfl) (fun _ _ _ _ h => h) rfl ?_ (by assumption) ?_
  rotate_left 1
  · (intro w hSw; have n0 := hSw.cell 0; simp only [List.getElem?_toArray, List.getElem?_cons_zero] at n0; go_simp; try with_reducible rfl)
  simp only [List.setIfInBounds_toArray, List.set_cons_zero, List.set_cons_succ]
  refine rs.want_take (i := 2) 32 (v := ?_) rfl rfl (by kernel_rfl) (by kernel_rfl) (by kernel_rfl) (fun _ _ _ _ h => h) rfl ?_ (by assumption) ?_
  rotate_left 1
  · (intro w hSw; have n0 := hSw.cell 0; simp only [List.getElem?_toArray, List.getElem?_cons_zero] at n0; go_simp; try with_reducible rfl)
  simp only [List.setIfInBounds_toArray, List.set_cons_zero, List.set_cons_succ]
  refine rs.want_take (i := 3) 33 (v := ?_) rfl rfl (by kernel_rfl) (by kernel_rfl) (by kernel_rfl) (fun _ _ _ _ h => h) rfl ?_ (by assumption) ?_
  rotate_left 1
  · (intro w hSw; have n0 := hSw.cell 0; simp only [List.getElem?_toArray, List.getElem?_cons_zero] at n0; go_simp; try with_reducible rfl)
  simp only [List.setIfInBounds_toArray, List.set_cons_zero, List.set_cons_succ]
  refine rs.want_take (i := 5) 35 (v := ?_) rfl rfl (by kernel_rfl) (by kernel_rfl) (by kernel_rfl) (fun _ _ _ _ h => h) rfl ?_ (by assumption) ?_
  rotate_left 1
  · (intro w hSw; have n0 := hSw.cell 0; simp only [List.getElem?_toArray, List.getElem?_cons_zero] at n0; go_simp; try with_reducible rfl)
  simp only [List.setIfInBounds_toArray, List.set_cons_zero, List.set_cons_succ]
  refine rs.want_take (i := 6) 36 (v := ?_) rfl rfl (by kernel_rfl) (by kernel_rfl) (by kernel_rfl) (fun _ _ _ _ h => h) rfl ?_ (by assumption) ?_
  rotate_left 1
  · (intro w hSw; have n0 := hSw.cell 0; simp only [List.getElem?_toArray, List.getElem?_cons_zero] at n0; go_simp; try with_reducible rfl)
  simp only [List.setIfInBounds_toArray, List.set_cons_zero, List.set_cons_succ]
  refine wpAnyH_ready (rs := [4]) (by kernel_rfl) (by simp) ?_
  refine AllReadyH.cons rfl (fun K hK => ?_) AllReadyH.nil
  go_simp
  refine hK.out _ _ HRd.out (fun hHeld => ?_)
  clear hK K hHeld
  refine wpAnyH_ready (rs := [7]) (by kernel_rfl) (by simp) ?_
  refine AllReadyH.cons rfl (fun K hK => ?_) AllReadyH.nil
  go_simp
  refine (dropN_any Z B _ k.held v HMd.out.own.held HL.out.1).mono ?_
  rintro e w2 ⟨v', rfl, hO2, hG2, hF2⟩
  obtain ⟨A2, c2, rfl⟩ := OwnAt.form hO2
  obtain ⟨hM3, hB3⟩ := MK.mut3 HMd.out hO2 hG2 hF2
  have box2 := blk_row HMd.out.box hG2 HMd.out.off.1
  have s0 := box2.cell 3
  have f0 := box2.frozen 3
  simp only [List.getElem?_toArray, List.getElem?_cons_zero, List.getElem?_cons_succ] at s0
  have HR2 := Lib.hid (blk_row HRd.out hG2 HOf.out.1)
  have HM3 := Lib.hid hM3
  have HB3 := Lib.hid (HBd.out.mut3 hG2 hF2 hB3)
  have HOf3 := Lib.hid (from_off33 HRd.out.lt HOf.out hF2)
  clear hO2 hG2 hF2 hM3 hB3 box2
  refine hK.out _ _ HR2.out (fun hHeld => ?_)
  clear hK K hHeld k0 k1 k2 k3 k4 k5 hRd
  have hR2 := HR2.out
  refine rs.want_take (i := 8) 38 (v := ?_) rfl rfl (by kernel_rfl) (by kernel_rfl) (by kernel_rfl) (fun _ _ _ _ h => h) rfl ?_ (by assumption) ?_
  rotate_left 1
  · (intro w hSw; have n0 := hSw.cell 0; simp only [List.getElem?_toArray, List.getElem?_cons_zero] at n0; go_simp; try with_reducible rfl)
  simp only [List.setIfInBounds_toArray, List.set_cons_zero, List.set_cons_succ]
  refine rs.want_take (i := 9) 39 (v := ?_) rfl rfl (by kernel_rfl) (by kernel_rfl) (by kernel_rfl) (fun _ _ _ _ h => h) rfl ?_ (by assumption) ?_
  rotate_left 1
  · (intro w hSw; have n0 := hSw.cell 0; simp only [List.getElem?_toArray, List.getElem?_cons_zero] at n0; go_simp; try with_reducible rfl)
  simp only [List.setIfInBounds_toArray, List.set_cons_zero, List.set_cons_succ]
  refine wpAnyH_ready (rs := [10]) (by kernel_rfl) (by simp) ?_
  refine AllReadyH.cons rfl (fun K hK => ?_) AllReadyH.nil
  go_simp
  refine hK.out _ _ (HR2.out.far (p := ⟨g, 3, none⟩) HNg.out _) (fun hHeld => ?_)
  clear hK K hHeld s0 f0 hR2
  refine wpAnyH_done (by kernel_rfl) ?_ _
  have HR3 := Lib.hid (HR2.out.far (p := ⟨g, 3, none⟩) HNg.out (.slice A2 (k.held.filter (fun y => decide (v < y.u))).length c2))
  clear HM HR HB HMd HRd HBd HR2 HOf
  have HM := HM3
  have HR := HR3
  have HB := HB3
  have HOf := HOf3
  clear HM3 HR3 HB3 HOf3
  generalize w2.setCell ⟨g, 3, none⟩ (.slice A2 (k.held.filter (fun y => decide (v < y.u))).length c2) = V3 at HM HR HB ⊢
  clear V2 Z w2
  generalize Value.slice A2 (k.held.filter (fun y => decide (v < y.u))).length c2 = x3 at HM HOf HB ⊢
  go_upto_region 6 with (fail)
  have hb0 := (Below.refl V3.heap.size V3).drew
  refine wp_region_held_drew (S := (fun w' : World => Blk w' rb 238 #[.int .i64 v])) (by kernel_rfl) (HR.out.below hb0 HR.out.lt) (fun hHeld => ?_)
  clear hHeld
  have HMd := Lib.hid (HM.out.later hb0)
  have HRd := Lib.hid (HR.out.below hb0 HR.out.lt)
  have HBd := Lib.hid (HB.out.later hb0)
  clear hb0
  generalize V3.drew = Z at HMd HRd HBd ⊢
  have hRd := HRd.out
  obtain ⟨k0, k1, k2, k3, k4, k5⟩ := KBox.cells HMd.out.box
  refine rs.want_take (i := 0) 40 (v := ?_) rfl rfl (by kernel_rfl) (by kernel_rfl) (by kernel_rfl) (fun _ _ _ _ h => h) rfl ?_ (by assumption) ?_
  rotate_left 1
  · (intro w hSw; have n0 := hSw.cell 0; simp only [List.getElem?_toArray, List.getElem?_cons_zero] at n0; go_simp; try with_reducible rfl)
  simp only [List.setIfInBounds_toArray, List.set_cons_zero, List.set_cons_succ]
  refine rs.want_take (i := 1) 41 (v := ?_) rfl rfl (by kernel_rfl) (by kernel_rfl) (by kernel_rfl) (fun _ _ _ _ h => h) rfl ?_ (by assumption) ?_
  rotate_left 1
  · (intro w hSw; have n0 := hSw.cell 0; simp only [List.getElem?_toArray, List.getElem?_cons_zero] at n0; go_simp; try with_reducible rfl)
  simp only [List.setIfInBounds_toArray, List.set_cons_zero, List.set_cons_succ]
  refine rs.want_take (i := 2) 42 (v := ?_) rfl rfl (by kernel_rfl) (by kernel_rfl) (by kernel_rfl) (fun _ _ _ _ h => h) rfl ?_ (by assumption) ?_
  rotate_left 1
  · (intro w hSw; have n0 := hSw.cell 0; simp only [List.getElem?_toArray, List.getElem?_cons_zero] at n0; go_simp; try with_reducible rfl)
  simp only [List.setIfInBounds_toArray, List.set_cons_zero, List.set_cons_succ]
  refine rs.want_take (i := 3) 43 (v := ?_) rfl rfl (by kernel_rfl) (by kernel_rfl) (by kernel_rfl) (fun _ _ _ _ h => h) rfl ?_ (by assumption) ?_
  rotate_left 1
  · (intro w hSw; have n0 := hSw.cell 0; simp only [List.getElem?_toArray, List.getElem?_cons_zero] at n0; go_simp; try with_reducible rfl)
  simp only [List.setIfInBounds_toArray, List.set_cons_zero, List.set_cons_succ]
  refine rs.want_take (i := 5) 45 (v := ?_) rfl rfl (by kernel_rfl) (by kernel_rfl) (by kernel_rfl) (fun _ _ _ _ h => h) rfl ?_ (by assumption) ?_
  rotate_left 1
  · (intro w hSw; have n0 := hSw.cell 0; simp only [List.getElem?_toArray, List.getElem?_cons_zero] at n0; go_simp; try with_reducible rfl)
  simp only [List.setIfInBounds_toArray, List.set_cons_zero, List.set_cons_succ]
  refine rs.want_take (i := 6) 46 (v := ?_) rfl rfl (by kernel_rfl) (by kernel_rfl) (by kernel_rfl) (fun _ _ _ _ h => h) rfl ?_ (by assumption) ?_
  rotate_left 1
  · (intro w hSw; have n0 := hSw.cell 0; simp only [List.getElem?_toArray, List.getElem?_cons_zero] at n0; go_simp; try with_reducible rfl)
  simp only [List.setIfInBounds_toArray, List.set_cons_zero, List.set_cons_succ]
  refine wpAnyH_ready (rs := [4]) (by kernel_rfl) (by simp) ?_
  refine AllReadyH.cons rfl (fun K hK => ?_) AllReadyH.nil
  go_simp
  refine hK.out _ _ HRd.out (fun hHeld => ?_)
  clear hK K hHeld
  refine wpAnyH_ready (rs := [7]) (by kernel_rfl) (by simp) ?_
  refine AllReadyH.cons rfl (fun K hK => ?_) AllReadyH.nil
  go_simp
  refine (dropM_any Z B _ k.marks v HMd.out.own.marks HL.out.2.1).mono ?_
  rintro e w2 ⟨v', rfl, hO2, hG2, hF2⟩
  obtain ⟨A2, c2, rfl⟩ := OwnAt.form hO2
  obtain ⟨hM3, hB3⟩ := MK.mut4 HMd.out hO2 hG2 hF2
  have box2 := blk_row HMd.out.box hG2 HMd.out.off.2.1
  have s0 := box2.cell 4
  have f0 := box2.frozen 4
  simp only [List.getElem?_toArray, List.getElem?_cons_zero, List.getElem?_cons_succ] at s0
  have HR2 := Lib.hid (blk_row HRd.out hG2 HOf.out.2.1)
  have HM3 := Lib.hid hM3
  have HB3 := Lib.hid (HBd.out.mut4 hG2 hF2 hB3)
  have HOf3 := Lib.hid (from_off34 HRd.out.lt HOf.out hF2)
  clear hO2 hG2 hF2 hM3 hB3 box2
  refine hK.out _ _ HR2.out (fun hHeld => ?_)
  clear hK K hHeld k0 k1 k2 k3 k4 k5 hRd
  have hR2 := HR2.out
  refine rs.want_take (i := 8) 48 (v := ?_) rfl rfl (by kernel_rfl) (by kernel_rfl) (by kernel_rfl) (fun _ _ _ _ h => h) rfl ?_ (by assumption) ?_
  rotate_left 1
  · (intro w hSw; have n0 := hSw.cell 0; simp only [List.getElem?_toArray, List.getElem?_cons_zero] at n0; go_simp; try with_reducible rfl)
  simp only [List.setIfInBounds_toArray, List.set_cons_zero, List.set_cons_succ]
  refine rs.want_take (i := 9) 49 (v := ?_) rfl rfl (by kernel_rfl) (by kernel_rfl) (by kernel_rfl) (fun _ _ _ _ h => h) rfl ?_ (by assumption) ?_
  rotate_left 1
  · (intro w hSw; have n0 := hSw.cell 0; simp only [List.getElem?_toArray, List.getElem?_cons_zero] at n0; go_simp; try with_reducible rfl)
  simp only [List.setIfInBounds_toArray, List.set_cons_zero, List.set_cons_succ]
  refine wpAnyH_ready (rs := [10]) (by kernel_rfl) (by simp) ?_
  refine AllReadyH.cons rfl (fun K hK => ?_) AllReadyH.nil
  go_simp
  refine hK.out _ _ (HR2.out.far (p := ⟨g, 4, none⟩) HNg.out _) (fun hHeld => ?_)
  clear hK K hHeld s0 f0 hR2
  refine wpAnyH_done (by kernel_rfl) ?_ _
  have HR3 := Lib.hid (HR2.out.far (p := ⟨g, 4, none⟩) HNg.out (.slice A2 (k.marks.filter (fun y => decide (v < y.u))).length c2))
  clear HM HR HB HMd HRd HBd HR2 HOf
  have HM := HM3
  have HR := HR3
  have HB := HB3
  have HOf := HOf3
  clear HM3 HR3 HB3 HOf3
  generalize w2.setCell ⟨g, 4, none⟩ (.slice A2 (k.marks.filter (fun y => decide (v < y.u))).length c2) = V4 at HM HR HB ⊢
  clear V3 Z w2
  generalize Value.slice A2 (k.marks.filter (fun y => decide (v < y.u))).length c2 = x4 at HM HOf HB ⊢
  have HZ := Lib.hid (And.intro HM.out HB.out)
  clear HM HR HB HOf
  go_wp2
  go_end0
  exact .inl ⟨_, _, _, _, HE.out, rfl, HZ.out.1, HZ.out.2.fm, HZ.out.2.off⟩

set_option maxRecDepth 100000 in
set_option maxHeartbeats 4000000 in
theorem chg_next (B : Nat) (W : World) (g r : Nat) (k : Kp) (a b c : Value) (v : Int) (h : MK B W g k a b c) (hz : Sz 14 k) (hr : r < W.heap.size) (hng : r ≠ g) (hro : Off r a b c) :
    Calls Tryz.prog 119 #[.pointer (some ⟨g, 0, none⟩), .iface 242 (.agg #[.int .i64 v])] W (ChPost B W g r (applyS k (.next v))) := by
  have hB0 := (Below.refl W.heap.size W).alloc (Nat.le_refl _) (.cells #[.int .i64 v] 242)
  have HR := Lib.hid (Blk.new W 242 #[.int .i64 v])
  have HM := Lib.hid (h.later hB0)
  have HOf := Lib.hid (h.own.off_new (Nat.le_refl W.heap.size))
  have HNg := Lib.hid (show W.heap.size ≠ g from by have := h.box.lt; omega)
  have HB := Lib.hid ((FP.new h hr hng hro).later hB0)
  have HL := Lib.hid (hz.few (show 14 ≤ 1048576 by omega))
  by_cases hu : k.next < v
  case neg =>
    have HE := Lib.hid (show applyS k (.next v) = none by rw [applyS, if_neg hu])
    have hd : decide (k.next < v) = false := decide_eq_false hu
    clear hu
    clear h hB0 hr hng hro
    have hta0 := ta_next_time
    have hta1 := ta_next_next
    go_enter Tryz.func119, Tryz.ntmps119
    go_upto_region 9 with (fail)
    clear hta0 hta1
    generalize W.alloc (.cells #[.int .i64 v] 242) = V at HR HM HB ⊢
    have HRb := Lib.hid (show W.heap.size = W.heap.size from rfl)
    generalize W.heap.size = rb at HR HOf HNg HRb ⊢
    clear HRb
    obtain ⟨d0, d1, d2, d3, d4, d5⟩ := qa.six HM.out.box
    have n0 : ∀ p : qa.After V, p.W.cell? ⟨rb, 0, none⟩ = some (.int .i64 v) := fun p => (qa.blk HR.out p).cell 0
    refine wp_region_held_drew (S := (fun w' : World => ∃ p : qa.After V, w' = p.W)) (by kernel_rfl) ⟨⟨_, (Below.refl _ V).drew⟩, rfl⟩ (fun hHeld => ?_)
    have q0 : Below V.heap.size V V.drew := (Below.refl _ V).drew
    refine rs.want_take (i := 0) 53 (v := ?_) rfl rfl (by kernel_rfl) (by kernel_rfl) (by kernel_rfl) (fun _ _ _ _ h => h) rfl ?_ (by assumption) ?_
    rotate_left 1
    · (rintro w ⟨pw, rfl⟩; go_simp; try with_reducible rfl)
    simp only [List.setIfInBounds_toArray, List.set_cons_zero, List.set_cons_succ]
    refine rs.want_take (i := 1) 54 (v := ?_) rfl rfl (by kernel_rfl) (by kernel_rfl) (by kernel_rfl) (fun _ _ _ _ h => h) rfl ?_ (by assumption) ?_
    rotate_left 1
    · (rintro w ⟨pw, rfl⟩; go_simp; try with_reducible rfl)
    simp only [List.setIfInBounds_toArray, List.set_cons_zero, List.set_cons_succ]
    refine rs.want_take (i := 2) 55 (v := ?_) rfl rfl (by kernel_rfl) (by kernel_rfl) (by kernel_rfl) (fun _ _ _ _ h => h) rfl ?_ (by assumption) ?_
    rotate_left 1
    · (rintro w ⟨pw, rfl⟩; go_simp; try with_reducible rfl)
    simp only [List.setIfInBounds_toArray, List.set_cons_zero, List.set_cons_succ]
    refine rs.want_take (i := 3) 56 (v := ?_) rfl rfl (by kernel_rfl) (by kernel_rfl) (by kernel_rfl) (fun _ _ _ _ h => h) rfl ?_ (by assumption) ?_
    rotate_left 1
    · (rintro w ⟨pw, rfl⟩; go_simp; try with_reducible rfl)
    simp only [List.setIfInBounds_toArray, List.set_cons_zero, List.set_cons_succ]
    refine rs.want_take (i := 4) 57 (v := ?_) rfl rfl (by kernel_rfl) (by kernel_rfl) (by kernel_rfl) (fun _ _ _ _ h => h) rfl ?_ (by assumption) ?_
    rotate_left 1
    · (rintro w ⟨pw, rfl⟩; go_simp; try with_reducible rfl)
    simp only [List.setIfInBounds_toArray, List.set_cons_zero, List.set_cons_succ]
    refine rs.want_take (i := 5) 58 (v := ?_) rfl rfl (by kernel_rfl) (by kernel_rfl) (by kernel_rfl) (fun _ _ _ _ h => h) rfl ?_ (by assumption) ?_
    rotate_left 1
    · (rintro w ⟨pw, rfl⟩; go_simp; try with_reducible rfl)
    simp only [List.setIfInBounds_toArray, List.set_cons_zero, List.set_cons_succ]
    refine rs.want_take (i := 6) 59 (v := ?_) rfl rfl (by kernel_rfl) (by kernel_rfl) (by kernel_rfl) (fun _ _ _ _ h => h) rfl ?_ (by assumption) ?_
    rotate_left 1
    · (rintro w ⟨pw, rfl⟩; go_simp; try with_reducible rfl)
    simp only [List.setIfInBounds_toArray, List.set_cons_zero, List.set_cons_succ]
    refine wpAnyH_ready (rs := [7]) (by kernel_rfl) (by simp) ?_
    refine AllReadyH.cons rfl (fun K hK => ?_) AllReadyH.nil
    go_simp
    refine (require_f _).mono ?_
    rintro e w3 ⟨rfl, rfl⟩
    exact ⟨rfl, .inr ⟨HE.out, rfl, (HB.out.later q0).fm⟩⟩
  have HE := Lib.hid (show applyS k (.next v) = some { k with next := v } by rw [applyS, if_pos hu])
  have hd : decide (k.next < v) = true := decide_eq_true hu
  clear hu
  clear h hB0 hr hng hro
  have hta0 := ta_next_time
  have hta1 := ta_next_next
  go_enter Tryz.func119, Tryz.ntmps119
  go_upto_region 9 with (fail)
  clear hta0 hta1
  generalize W.alloc (.cells #[.int .i64 v] 242) = V at HR HM HB ⊢
  have HRb := Lib.hid (show W.heap.size = W.heap.size from rfl)
  generalize W.heap.size = rb at HR HOf HNg HRb ⊢
  clear HRb
  obtain ⟨d0, d1, d2, d3, d4, d5⟩ := qa.six HM.out.box
  have n0 : ∀ p : qa.After V, p.W.cell? ⟨rb, 0, none⟩ = some (.int .i64 v) := fun p => (qa.blk HR.out p).cell 0
  refine qa.region (by kernel_rfl) (by kernel_rfl) ?_
  repeat (go_big_quiet_step (first | (go_at_call 121; exact qa.of_same (require_t _))))
  refine wpQuiet_nil ?_
  rintro _ ⟨p1, rfl⟩
  clear d0 d1 d2 d3 d4 d5 n0
  have hM1 := Lib.hid (HM.out.later p1.h)
  have hR1 := Lib.hid (HR.out.below p1.h HR.out.lt)
  have hB1 := Lib.hid (HB.out.later p1.h)
  clear HM HR HB
  have HM := hM1
  have HR := hR1
  have HB := hB1
  clear hM1 hR1 hB1
  generalize p1.W = V1 at HM HR HB ⊢
  clear p1 V
  clear hd
  go_upto_region 10 with (fail)
  have box := HM.out.box
  have d1 := box.cell 2
  have f1 := box.frozen 2
  have n0 := HR.out.cell 0
  simp only [List.getElem?_toArray, List.getElem?_cons_zero, List.getElem?_cons_succ] at d1 n0
  obtain ⟨hM2, hB2⟩ := HM.out.set2 v
  have HM2 := Lib.hid hM2
  have HB2 := Lib.hid (HB.out.set 2 _ hB2)
  clear box hM2 hB2 HM HB HR
  have HM := HM2
  have HB := HB2
  clear HM2 HB2
  go_wp2
  go_end0
  exact .inl ⟨_, _, _, _, HE.out, rfl, HM.out, HB.out.fm, HB.out.off⟩
end Go.Proofs.YtjmmojjjopjdpaaGreatDoor.kp

