/-
  The contract of the program's determine.
-/
import Derived.Test.YtokajeomojlinaaFirstQ
import Derived.Test.YtokajeomojlinaaMakeImpl
import Derived.BigRegion
namespace Go.Proofs.Ytokajeomojlinaa.pe
open Go.ChangeShapes Go.WideShapes Go.ChangeAt Go.RowKit
open Go.Proofs.Ytokajeomojlinaa.wd Go.Proofs.Ytokajeomojlinaa.cp Go.Proofs.Ytokajeomojlinaa.mp Go.Proofs.Ytokajeomojlinaa.pp Go.Proofs.Ytokajeomojlinaa.ow Go.Proofs.Ytokajeomojlinaa.mk Go.Proofs.Ytokajeomojlinaa.mi Go.Proofs.Ytokajeomojlinaa.ci

def DetPost (w : World) (g : Nat) (ps : List Pc) (v : Value) (K : Nat → Bool) (D : Nat → Q) (qd : Nat → Bool) (qu : Nat → Nat × Nat) (b : Nat) (x : Pc) (e : Ending) (w' : World) : Prop :=
  e = .returned (.tuple #[]) ∧ PL w' g ps v (upd K b) (updQ D b (x.d.xor (sm x.S D 6))) (mns qd (upd K b)) qu ∧ w.grownBy w' (some g)

theorem sm_t {S : Nat → Bool} {D : Nat → Q} {n : Nat} (h : S n = true) (d : Q) : (d.xor (sm S D n)).xor (D n) = d.xor (sm S D (n + 1)) := by
  show _ = d.xor ((sm S D n).xor (if S n then D n else Q.zero))
  rw [h, if_pos rfl, Q.xor_assoc]
theorem sm_f {S : Nat → Bool} {D : Nat → Q} {n : Nat} (h : S n = false) (d : Q) : d.xor (sm S D n) = d.xor (sm S D (n + 1)) := by
  show _ = d.xor ((sm S D n).xor (if S n then D n else Q.zero))
  rw [h, if_neg (by simp), Q.xor_zero]

theorem PL.only {w w' : World} {g g' : Nat} {ps : List Pc} {v : Value} {K : Nat → Bool} {D : Nat → Q} {qd : Nat → Bool} {qu : Nat → Nat × Nat} (h : PL w g ps v K D qd qu) (hO : Only g' w w') (hne : g ≠ g') (hv : v.ownBlock ≠ some g') : PL w' g ps v K D qd qu :=
  ⟨only_blk hO hne h.1, h.2.1.later (row := some g') ⟨hO.1.os, hO.1.tape, hO.1.output, by rw [hO.2.2]; exact Nat.le_refl _, fun k _ hk => hO.2.1 k (fun e => hk (by rw [e]))⟩ (.inr hv), h.2.2⟩

/-- at the head of the loop: the first k blocks are mixed in -/
def DRel (w : World) (g : Nat) (ps : List Pc) (v : Value) (K : Nat → Bool) (D : Nat → Q) (qd : Nat → Bool) (qu : Nat → Nat × Nat) (x : Pc) (k : Nat) (wr : World) : Prop :=
  PL wr g ps v K D qd qu ∧ Blk wr w.heap.size 113 (pc x).toArray ∧ Blk wr (w.heap.size + 1) 58 (x.d.xor (sm x.S D k)).cells ∧ Below w.heap.size w wr

theorem set4 (w : World) (g o : Nat) (q : Q) : w.setCells g o q.cells.toList = (((w.setCell ⟨g, o, none⟩ (bv q.a)).setCell ⟨g, o + 1, none⟩ (bv q.b)).setCell ⟨g, o + 2, none⟩ (bv q.c)).setCell ⟨g, o + 3, none⟩ (bv q.d) := rfl
theorem pl_there {w : World} {g : Nat} {t : TypeId} {v : Value} {K : Nat → Bool} {D : Nat → Q} {qd : Nat → Bool} {qu : Nat → Nat × Nat} (h : Blk w g t (pl v K D qd qu)) {o n : Nat} (hn : o + n ≤ 39) : w.there g o n := fun j hj => by
  refine ⟨?_, h.frozen _⟩
  rw [h.cell, Array.getElem?_eq_getElem (by rw [pl_size]; omega)]
  rfl
/-- a block's data is stored into the peeler -/
theorem wpList_store_data {ops : Array Oper} {rest : List Oper} {o : Oper} {a : Act} {w : World} {F : Exit → Act → World → Prop} (hgd : o.guard = none) (x y : Operand) (ho : o.op = .store 58 x y)
    {g : Nat} {ps : List Pc} {v : Value} {K : Nat → Bool} {D : Nat → Q} {qd : Nat → Bool} {qu : Nat → Nat × Nat} {b : Nat} {q : Q} (hP : PL w g ps v K D qd qu) (hb : b < 6) (hx : a.eval x = .pointer (some ⟨g, 2 + b * 4, none⟩)) (hy : a.eval y = .agg q.cells)
    (h : ∀ w', PL w' g ps v K (updQ D b q) qd qu → w.grownBy w' (some g) → wpList Try.prog ops F rest (a.put o.dst undef) w') : wpList Try.prog ops F (o :: rest) a w := by
  refine wpList_store_mid hgd 58 x y ho g (2 + b * 4) q.cells hx hy (pl_there hP.1 (by rw [Q.cells_size]; omega)) sizeBlock (Q.cells_one q) ?_
  rw [set4]
  have hgr := grown_set (grown_set (grown_set (grown_set (World.grownBy.refl w (some g)) (2 + b * 4) (bv q.a)) (2 + b * 4 + 1) (bv q.b)) (2 + b * 4 + 2) (bv q.c)) (2 + b * 4 + 3) (bv q.d)
  refine h _ (hP.set hgr ?_) hgr
  have := (((hP.1.put (2 + b * 4) (bv q.a)).put (2 + b * 4 + 1) (bv q.b)).put (2 + b * 4 + 2) (bv q.c)).put (2 + b * 4 + 3) (bv q.d)
  rwa [pl_data _ _ _ _ _ hb] at this
theorem PL.known {w : World} {g : Nat} {ps : List Pc} {v : Value} {K : Nat → Bool} {D : Nat → Q} {qd : Nat → Bool} {qu : Nat → Nat × Nat} (h : PL w g ps v K D qd qu) (f : Nat → Bool) : PL (w.setCell ⟨g, 1, none⟩ (.int .u8 (msk f : Int))) g ps v f D qd qu :=
  h.set (grown_set (World.grownBy.refl w (some g)) _ _) (by have := h.1.put 1 (.int .u8 (msk f : Int)); rwa [pl_known] at this)
theorem PL.queued {w : World} {g : Nat} {ps : List Pc} {v : Value} {K : Nat → Bool} {D : Nat → Q} {qd : Nat → Bool} {qu : Nat → Nat × Nat} (h : PL w g ps v K D qd qu) (f : Nat → Bool) : PL (w.setCell ⟨g, 26, none⟩ (.int .u8 (msk f : Int))) g ps v K D f qu :=
  h.set (grown_set (World.grownBy.refl w (some g)) _ _) (by have := h.1.put 26 (.int .u8 (msk f : Int)); rwa [pl_queued] at this)

set_option maxRecDepth 100000 in
set_option maxHeartbeats 4000000 in
theorem det_any (w : World) (g : Nat) (ps : List Pc) (v : Value) (K : Nat → Bool) (D : Nat → Q) (qd : Nat → Bool) (qu : Nat → Nat × Nat) (h : PL w g ps v K D qd qu) {b : Nat} (hb : b < 6) {x : Pc} (hx : ps[(qu b).2]? = some x) :
    Calls Try.prog 80 #[.pointer (some ⟨g, 0, none⟩), .int .i64 b] w (DetPost w g ps v K D qd qu b x) := by
  obtain ⟨gp, c, rfl, hlt, hi, hr⟩ := h.2.1.at hx
  have hgl := h.1.lt
  have c0 := h.1.cell 0
  rw [pl_0] at c0
  have c2 := h.1.cell (27 + b * 2 + 1)
  rw [pl_q2 _ _ _ _ _ hb] at c2
  have r0 : w.cell? ⟨gp, (qu b).2 * 5, none⟩ = some (.int .u8 (msk x.S : Int)) := hr 0 _ rfl
  have r1 : w.cell? ⟨gp, (qu b).2 * 5 + 1, none⟩ = some (.int .u8 (x.d.a.toNat : Int)) := hr 1 _ rfl
  have r2 : w.cell? ⟨gp, (qu b).2 * 5 + 2, none⟩ = some (.int .u8 (x.d.b.toNat : Int)) := hr 2 _ rfl
  have r3 : w.cell? ⟨gp, (qu b).2 * 5 + 3, none⟩ = some (.int .u8 (x.d.c.toNat : Int)) := hr 3 _ rfl
  have r4 : w.cell? ⟨gp, (qu b).2 * 5 + 4, none⟩ = some (.int .u8 (x.d.d.toNat : Int)) := hr 4 _ rfl
  have HP := Lib.hid h
  have HX := Lib.hid hx
  clear hr h hx
  generalize (qu b).2 = I at c2 r0 r1 r2 r3 r4 hi HX
  have hI0 : (0 : Int) ≤ (I : Int) := by omega
  have hI1 : (I : Int) < (ps.length : Int) := by omega
  have hb6 : (b : Int) < 6 := by omega
  go_enter Try.func80, Try.ntmps80
  go_wp2
  go_region
  have HD0 : Hid (DRel w g ps (.slice (some ⟨gp, 0, none⟩) ps.length c) K D qd qu x 0 (((w.alloc (.cells (pc x).toArray 113)).alloc (.cells x.d.cells 58)).drew)) := by
    have hB1 := (Below.refl w.heap.size w).alloc (Nat.le_refl _) (.cells (pc x).toArray 113)
    have hB2 := hB1.alloc hB1.size (.cells x.d.cells 58)
    refine ⟨(HP.out.later hB2).drew, (Blk.new w _ _).alloc _, ?_, hB2.drew⟩
    rw [show x.d.xor (sm x.S D 0) = x.d from Q.xor_zero _]
    have := Blk.new (w.alloc (.cells (pc x).toArray 113)) 58 x.d.cells
    rw [show (w.alloc (.cells (pc x).toArray 113)).heap.size = w.heap.size + 1 by simp] at this
    exact this
  clear HP c0 c2 r0 r1 r2 r3 r4
  go_wp2
  go_loopw [22] (fun i wr => ∃ k : Nat, k ≤ 6 ∧ i = .int .i64 k ∧ DRel w g ps (.slice (some ⟨gp, 0, none⟩) ps.length c) K D qd qu x k wr) (fun i _ => 7 - (intOf i).toNat)
  case atStart => exact ⟨0, by omega, rfl, HD0.out⟩
  case round =>
    obtain ⟨k, hk, rfl, hD⟩ := hrel
    clear HD0
    by_cases hk6 : k < 6
    · have hki : (k : Int) < 6 := by omega
      have s0 : wr.cell? ⟨w.heap.size, 0, none⟩ = some (.int .u8 (msk x.S : Int)) := hD.2.1.cell 0
      cases hS : x.S k with
      | true =>
        have HM := Lib.hid (sm_t (D := D) hS x.d)
        have hh : ∀ W : World, Calls Try.prog 60 #[.int .u8 (msk x.S : Int), .int .i64 k] W fun e w'' => e = .returned (.bool true) ∧ W = w'' := fun W => (has_any x.S hk6 W).mono (fun _ _ ⟨a, b⟩ => ⟨by rw [a, hS], b⟩)
        have hrg := pl_range _ _ _ _ _ hD.1.1 hk6
        have hbd := hD.2.2.1
        have HDD := Lib.hid hD
        clear hS hD
        generalize x.d.xor (sm x.S D k) = dq at HM hbd
        go_wp2_with ((go_at_call 60; refine (hh _).mono ?_; rintro e w' ⟨rfl, rfl⟩))
        refine wp_region_still_tail 7 (by kernel_rfl) (by kernel_rfl) ?_
        simp only [List.take_succ_cons, List.take_zero, List.drop_succ_cons, List.drop_zero]
        change wpStill _ _ wr.drew (fun a' => wpList _ _ _ _ a' wr.drew) _ _
        have hl1 := load_blk (w := wr.drew) hrg
        have hl2 := load_blk (w := wr.drew) (blk_range hbd)
        have HD' : Hid (PL wr.drew g ps (.slice (some ⟨gp, 0, none⟩) ps.length c) K D qd qu ∧ Blk wr.drew w.heap.size 113 (pc x).toArray ∧ Blk wr.drew (w.heap.size + 1) 58 dq.cells ∧ Below w.heap.size w wr.drew) := ⟨HDD.out.1.drew, HDD.out.2.1, hbd, HDD.out.2.2.2.drew⟩
        clear hrg hbd HDD s0 hh
        generalize wr.drew = wd at HD' hl1 hl2 ⊢
        refine wpStill_load rfl 58 (.tmp 5) rfl _ _ rfl hl2 ?_
        still_step
        still_step
        still_step
        still_step
        still_step
        refine wpStill_load rfl 58 (.tmp 34) rfl _ _ rfl hl1 ?_
        refine wpStill_nil ?_
        clear hl1 hl2
        go_wp2_with fail
        refine (mixed_any _ _ _).mono ?_
        rintro e w4 ⟨rfl, hB4⟩
        obtain ⟨q1, q2, q3, q4⟩ := HD'.out
        have hq3 := q3.below hB4 q3.lt
        have HD4 : Hid (PL w4 g ps (.slice (some ⟨gp, 0, none⟩) ps.length c) K D qd qu ∧ Blk w4 w.heap.size 113 (pc x).toArray ∧ Below w.heap.size w w4) := ⟨q1.later hB4, q2.below hB4 q2.lt, q4.trans (hB4.mono q4.size)⟩
        clear q1 q2 q3 q4 hB4 HD'
        go_wp2_with (refine wpList_store_blk rfl 58 (.tmp 5) (.tmp 36) rfl (w.heap.size + 1) (dq.xor (D k)).cells rfl rfl 58 dq.cells hq3 sizeBlock rfl (Q.cells_one _) ?_)
        intro w5 hD5 hO5
        have R : Hid (DRel w g ps (.slice (some ⟨gp, 0, none⟩) ps.length c) K D qd qu x (k + 1) w5) := by
          obtain ⟨q1, q2, q4⟩ := HD4.out
          refine ⟨q1.only hO5 (by omega) (by simp [Value.ownBlock]; omega), only_blk hO5 (by omega) q2, ?_, q4.trans (hO5.1.mono (by omega))⟩
          rw [← HM.out]
          exact hD5
        clear hD5 hO5 hq3 HD4
        go_wp2
        go_roundw
        case rel => exact ⟨k + 1, by omega, by go_num, R.out⟩
        case measure => simp [intOf]; omega
      | false =>
        have hh : ∀ W : World, Calls Try.prog 60 #[.int .u8 (msk x.S : Int), .int .i64 k] W fun e w'' => e = .returned (.bool false) ∧ W = w'' := fun W => (has_any x.S hk6 W).mono (fun _ _ ⟨a, b⟩ => ⟨by rw [a, hS], b⟩)
        have R : Hid (DRel w g ps (.slice (some ⟨gp, 0, none⟩) ps.length c) K D qd qu x (k + 1) wr) := ⟨hD.1, hD.2.1, by rw [← sm_f (D := D) hS x.d]; exact hD.2.2.1, hD.2.2.2⟩
        clear hS hD
        go_wp2_with ((go_at_call 60; refine (hh _).mono ?_; rintro e w' ⟨rfl, rfl⟩))
        go_roundw
        case rel => exact ⟨k + 1, by omega, by go_num, R.out⟩
        case measure => simp [intOf]; omega
    · obtain rfl : k = 6 := by omega
      obtain ⟨q1, q2, q3, q4⟩ := hD
      have HQ := Lib.hid (show x.d.xor (sm x.S D 6) = x.d.xor (sm x.S D 6) from rfl)
      generalize hdq : x.d.xor (sm x.S D 6) = dq at q3
      have HDQ := Lib.hid hdq
      clear hdq HQ q2
      go_wp2
      refine wp_region_still_tail 6 (by kernel_rfl) (by kernel_rfl) ?_
      simp only [List.take_succ_cons, List.take_zero, List.drop_succ_cons, List.drop_zero]
      change wpStill _ _ wr.drew (fun a' => wpList _ _ _ _ a' wr.drew) _ _
      have hl2 := load_blk (w := wr.drew) (blk_range q3)
      have HP' : Hid (PL wr.drew g ps (.slice (some ⟨gp, 0, none⟩) ps.length c) K D qd qu) := q1
      have HB' : Hid (Below w.heap.size w wr.drew) := q4.drew
      clear q1 q3 q4
      generalize wr.drew = wd at HP' HB' hl2 ⊢
      still_step
      still_step
      refine wpStill_load rfl 58 (.tmp 5) rfl _ _ rfl hl2 ?_
      still_step
      still_step
      still_step
      refine wpStill_nil ?_
      clear hl2
      go_wp2_with (refine wpList_store_data rfl (.tmp 43) (.tmp 40) rfl HP'.out hb rfl rfl ?_)
      intro w6 hP6 hG6
      have k1 := hP6.1.cell 1
      rw [pl_1] at k1
      have f1 := hP6.1.frozen 1
      have HP7 := Lib.hid (hP6.known (upd K b))
      have HG7 := Lib.hid (grown_set (grown_trans (grown_of_below HB'.out (some g)) hG6) 1 (.int .u8 (msk (upd K b) : Int)))
      clear hP6 hG6 HP' HB'
      go_wp2_with ((go_at_call 89; refine (with_any K hb _).mono ?_; rintro e w' ⟨rfl, rfl⟩))
      generalize w6.setCell ⟨g, 1, none⟩ (.int .u8 (msk (upd K b) : Int)) = w7 at HP7 HG7 ⊢
      clear k1 f1
      refine wp_region_still_tail 12 (by kernel_rfl) (by kernel_rfl) ?_
      simp only [List.take_succ_cons, List.take_zero, List.drop_succ_cons, List.drop_zero]
      change wpStill _ _ w7.drew (fun a' => wpList _ _ _ _ a' w7.drew) _ _
      have k1 := HP7.out.1.cell 1
      rw [pl_1] at k1
      have k2 := HP7.out.1.cell 26
      rw [pl_26] at k2
      have f2 := HP7.out.1.frozen 26
      have k1' : w7.drew.cell? ⟨g, 1, none⟩ = _ := k1
      have k2' : w7.drew.cell? ⟨g, 26, none⟩ = _ := k2
      have f2' : w7.drew.frozen? ⟨g, 26, none⟩ = _ := f2
      have HP8 : Hid (PL w7.drew g ps (.slice (some ⟨gp, 0, none⟩) ps.length c) (upd K b) (updQ D b dq) qd qu) := HP7.out
      have HG8 : Hid (w.grownBy w7.drew (some g)) := grown_drew HG7.out
      clear k1 k2 f2 HP7 HG7
      generalize w7.drew = w8 at k1' k2' f2' HP8 HG8 ⊢
      still_step
      still_step
      still_step
      still_step
      still_step
      still_step
      still_step
      still_step
      still_step
      still_call (pure_of (minus_any _ _ _))
      still_step
      still_step
      refine wpStill_nil ?_
      go_wp2
      go_end0
      refine ⟨rfl, ?_, grown_set HG8.out _ _⟩
      rw [HDQ.out]
      exact HP8.out.queued _
end Go.Proofs.Ytokajeomojlinaa.pe
