/-
  The contract of the program's enqueue, where a piece lacks one block alone.
-/
import Derived.Test.YtokajeomojlinaaEnqueue
import Derived.Deep.RegionHeld3
namespace Go.Proofs.Ytokajeomojlinaa.pe
open Go.ChangeShapes Go.WideShapes Go.ChangeAt Go.RowKit
open Go.Proofs.Ytokajeomojlinaa.wd Go.Proofs.Ytokajeomojlinaa.cp Go.Proofs.Ytokajeomojlinaa.mp Go.Proofs.Ytokajeomojlinaa.pp Go.Proofs.Ytokajeomojlinaa.ow Go.Proofs.Ytokajeomojlinaa.mk Go.Proofs.Ytokajeomojlinaa.mi Go.Proofs.Ytokajeomojlinaa.ci

set_option maxRecDepth 100000 in
set_option maxHeartbeats 4000000 in
theorem enq_yes (w : World) (g : Nat) (ps : List Pc) (v : Value) (K : Nat → Bool) (D : Nat → Q) (p q i : Nat) (qd : Nat → Bool) (qu : Nat → Nat × Nat) (h : PL w g ps v K D qd qu) (x : Pc) (hx : ps[i]? = some x) (hp : p ≤ 1000)
    (b : Nat) (ho : One x.S K b) : Calls Try.prog 78 #[.pointer (some ⟨g, 0, none⟩), .int .i64 i, .agg #[.int .i64 p, .int .i64 ((q : Int) - 1)]] w (EnqPost w g ps v K D p q i qd qu) := by
  have hb := ho.1
  have hB := (Below.refl w.heap.size w).alloc (Nat.le_refl _) (.cells #[.int .i64 (p : Int), .int .i64 ((q : Int) - 1)] 80)
  have hP := h.later hB
  obtain ⟨gp, c, rfl, hlt, hi, hr⟩ := hP.2.1.at hx
  have c0 := hP.1.cell 0
  rw [pl_0] at c0
  have c1 := hP.1.cell 1
  rw [pl_1] at c1
  have c2 := hr 0 _ rfl
  have hT := Blk.new w 80 #[.int .i64 (p : Int), .int .i64 ((q : Int) - 1)]
  have c3 := (hT.cell 0).trans (show _ = some (Value.int .i64 (p : Int)) from rfl)
  have c4 := (hT.cell 1).trans (show _ = some (Value.int .i64 ((q : Int) - 1)) from rfl)
  have ho' : Alone (mns x.S K) b := ho
  have HSg := Lib.hid (fun w => pure_of (single_yes (mns x.S K) ho' w))
  have HP := Lib.hid hP
  have HB := Lib.hid hB
  clear hr hP hB h ho' hT
  have hi0 : (0 : Int) ≤ (i : Int) := by omega
  have hi1 : (i : Int) < (ps.length : Int) := by omega
  have hb6 : (b : Int) < 6 := by omega
  go_enter Try.func78, Try.ntmps78
  go_wp2
  refine wp_region_still_lit (by kernel_rfl) (by kernel_rfl) ?_
  generalize hW : w.alloc (.cells #[.int .i64 (p : Int), .int .i64 ((q : Int) - 1)] 80) = W at c0 c1 c2 c3 c4 HP HB ⊢
  change wpStill _ _ W.drew (fun a' => Exit.then _ _ Exit.normal a' W.drew) _ _
  have d0 : W.drew.cell? ⟨g, 0, none⟩ = _ := c0
  have d1 : W.drew.cell? ⟨g, 1, none⟩ = _ := c1
  have d2 : W.drew.cell? ⟨gp, i * 5, none⟩ = _ := c2
  have d3 : W.drew.cell? ⟨w.heap.size, 0, none⟩ = _ := c3
  have d4 : W.drew.cell? ⟨w.heap.size, 1, none⟩ = _ := c4
  have HP1 : Hid (PL W.drew g ps (.slice (some ⟨gp, 0, none⟩) ps.length c) K D qd qu) := HP.out
  have HB1 : Hid (Below w.heap.size w W.drew) := HB.out.drew
  clear c0 c1 c2 c3 c4 hW HP HB
  generalize W.drew = wd at d0 d1 d2 d3 d4 HP1 HB1 ⊢
  still_step
  still_step
  still_step
  still_step
  still_step
  still_step
  still_step
  still_step
  still_step
  still_step
  still_step
  still_step
  still_call (pure_of (minus_any _ _ _))
  still_call (HSg.out _)
  still_step
  still_step
  still_step
  still_step
  still_step
  refine wpStill_nil ?_
  clear d0 d1 d2
  go_wp2_with fail
  refine (next_any p q i hp _).mono ?_
  rintro e w2 ⟨rfl, hB2⟩
  have hP2 := HP1.out.later hB2
  have hB2' := HB1.out.trans (hB2.mono HB1.out.size)
  have hP3 := hP2.later ((Below.refl w2.heap.size w2).alloc (Nat.le_refl _) (.cells #[.int .i64 ((nx p q i).1 : Int), .int .i64 ((nx p q i).2 : Int)] 80))
  have hB3 := hB2'.alloc hB2'.size (.cells #[.int .i64 ((nx p q i).1 : Int), .int .i64 ((nx p q i).2 : Int)] 80)
  have hN3 := Blk.new w2 80 #[.int .i64 ((nx p q i).1 : Int), .int .i64 ((nx p q i).2 : Int)]
  clear hB2 hP2 hB2' d3 d4 HP1 HB1
  have e26 := hP3.1.cell 26
  rw [pl_26] at e26
  have e1 := hP3.1.cell (27 + b * 2)
  rw [pl_q1 _ _ _ _ _ hb] at e1
  have e2 := hP3.1.cell (27 + b * 2 + 1)
  rw [pl_q2 _ _ _ _ _ hb] at e2
  have n1 := (hN3.cell 0).trans (show _ = some (Value.int .i64 ((nx p q i).1 : Int)) from rfl)
  have n2 := (hN3.cell 1).trans (show _ = some (Value.int .i64 ((nx p q i).2 : Int)) from rfl)
  have HP3 := Lib.hid hP3
  have HB3 := Lib.hid hB3
  have HN3 := Lib.hid hN3
  clear hP3 hB3 hN3
  go_wp2
  generalize hW : w2.alloc (.cells #[.int .i64 ((nx p q i).1 : Int), .int .i64 ((nx p q i).2 : Int)] 80) = W at e26 e1 e2 n1 n2 HP3 HB3 HN3 ⊢
  clear hW
  cases hqb : qd b with
  | false =>
    have hw : Hid (qd b = false ∨ bef (nx p q i) (qu b)) := Or.inl hqb
    have hh : ∀ n, Calls Try.prog 60 #[.int .u8 (msk qd : Int), .int .i64 b] (W.drewN n) fun e w'' => e = .returned (.bool false) ∧ ∃ m, w'' = W.drewN m := fun n => (has_any qd hb (W.drewN n)).mono (fun _ _ ⟨a, b⟩ => ⟨by rw [a, hqb], n, b.symm⟩)
    clear hqb
    go_quiet ((go_at_call 60; exact hh _))
    have hP5 : PL (W.drewN nq) g ps (.slice (some ⟨gp, 0, none⟩) ps.length c) K D qd qu := HP3.out
    have hG5 : w.grownBy (W.drewN nq) (some g) := grown_of_below (below_drewN' HB3.out nq) _
    have hN5 : Blk (W.drewN nq) w2.heap.size 80 #[.int .i64 ((nx p q i).1 : Int), .int .i64 ((nx p q i).2 : Int)] := HN3.out
    clear e26 e1 e2 n1 n2 HP3 HB3 HN3 hh
    generalize W.drewN nq = WW at hP5 hG5 hN5 ⊢
    have t1 := hP5.1.cell (27 + b * 2)
    rw [pl_q1 _ _ _ _ _ hb] at t1
    have t2 := hP5.1.cell (27 + b * 2 + 1)
    rw [pl_q2 _ _ _ _ _ hb] at t2
    have t3 := hP5.1.cell 26
    rw [pl_26] at t3
    have f1 := hP5.1.frozen (27 + b * 2)
    have f2 := hP5.1.frozen (27 + b * 2 + 1)
    have f3 := hP5.1.frozen 26
    have n1 := (hN5.cell 0).trans (show _ = some (Value.int .i64 ((nx p q i).1 : Int)) from rfl)
    have n2 := (hN5.cell 1).trans (show _ = some (Value.int .i64 ((nx p q i).2 : Int)) from rfl)
    have HP5 := Lib.hid hP5
    have HG5 := Lib.hid hG5
    clear hP5 hN5 hG5
    go_wp2
    refine wp_region_still_tail 6 (by kernel_rfl) (by kernel_rfl) ?_
    simp only [List.take_succ_cons, List.take_zero, List.drop_succ_cons, List.drop_zero]
    change wpStill _ _ WW.drew (fun a' => wpList _ _ _ _ a' WW.drew) _ _
    have t1' : WW.drew.cell? ⟨g, 27 + b * 2, none⟩ = _ := t1
    have t2' : WW.drew.cell? ⟨g, 27 + b * 2 + 1, none⟩ = _ := t2
    have t3' : WW.drew.cell? ⟨g, 26, none⟩ = _ := t3
    have f1' : WW.drew.frozen? ⟨g, 27 + b * 2, none⟩ = _ := f1
    have f2' : WW.drew.frozen? ⟨g, 27 + b * 2 + 1, none⟩ = _ := f2
    have f3' : WW.drew.frozen? ⟨g, 26, none⟩ = _ := f3
    have n1' : WW.drew.cell? ⟨w2.heap.size, 0, none⟩ = _ := n1
    have n2' : WW.drew.cell? ⟨w2.heap.size, 1, none⟩ = _ := n2
    have HP6 : Hid (PL WW.drew g ps (.slice (some ⟨gp, 0, none⟩) ps.length c) K D qd qu) := HP5.out
    have HG6 : Hid (w.grownBy WW.drew (some g)) := grown_drew HG5.out
    clear t1 t2 t3 f1 f2 f3 n1 n2 HP5 HG5
    generalize WW.drew = we at t1' t2' t3' f1' f2' f3' n1' n2' HP6 HG6 ⊢
    still_step
    still_step
    still_step
    still_step
    still_step
    still_step
    refine wpStill_nil ?_
    go_wp2_with ((go_at_call 89; refine (with_any qd hb _).mono ?_; rintro e w' ⟨rfl, rfl⟩))
    go_end0
    exact enq_end HP6.out HG6.out hb hx ho hw.out
  | true =>
    have hh : ∀ W : World, Calls Try.prog 60 #[.int .u8 (msk qd : Int), .int .i64 b] W fun e w'' => e = .returned (.bool true) ∧ W = w'' := fun W => (has_any qd hb W).mono (fun _ _ ⟨a, b⟩ => ⟨by rw [a, hqb], b⟩)
    have HQB := Lib.hid hqb
    clear hqb
    have hgW := HP3.out.1.lt
    have hnW := HN3.out.lt
    go_region_held3 (fun w' => w'.cell? ⟨g, 26, none⟩ = some (.int .u8 (msk qd : Int)) ∧ w'.cell? ⟨g, 27 + b * 2, none⟩ = some (.int .i64 ((qu b).1 : Int)) ∧ w'.cell? ⟨g, 27 + b * 2 + 1, none⟩ = some (.int .i64 ((qu b).2 : Int)) ∧ w'.cell? ⟨w2.heap.size, 0, none⟩ = some (.int .i64 ((nx p q i).1 : Int)) ∧ w'.cell? ⟨w2.heap.size, 1, none⟩ = some (.int .i64 ((nx p q i).2 : Int))) (first | exact ⟨e26, e1, e2, n1, n2⟩ | exact ⟨s1, s2, s3, s4, s5⟩ | go_keep) (first | (go_at_call 60; refine (hh _).mono ?_; rintro e w' ⟨rfl, rfl⟩) | (go_at_call 88; refine (before_any (nx p q i) (qu b) _).mono ?_; rintro e w5 ⟨rfl, hB5⟩; have s1 := (hB5.cell (p := ⟨g, 26, none⟩) hgW).trans e26; have s2 := (hB5.cell (p := ⟨g, 27 + b * 2, none⟩) hgW).trans e1; have s3 := (hB5.cell (p := ⟨g, 27 + b * 2 + 1, none⟩) hgW).trans e2; have s4 := (hB5.cell (p := ⟨w2.heap.size, 0, none⟩) hnW).trans n1; have s5 := (hB5.cell (p := ⟨w2.heap.size, 1, none⟩) hnW).trans n2))
    have hBd : Below W.heap.size W w5 := ⟨hB5.os, hB5.tape, hB5.output, hB5.size, hB5.block⟩
    have hP5 : PL w5 g ps (.slice (some ⟨gp, 0, none⟩) ps.length c) K D qd qu := HP3.out.later hBd
    have hG5 : w.grownBy w5 (some g) := grown_of_below (HB3.out.trans (hBd.mono HB3.out.size)) _
    have hN5 : Blk w5 w2.heap.size 80 #[.int .i64 ((nx p q i).1 : Int), .int .i64 ((nx p q i).2 : Int)] := HN3.out.below hBd hnW
    clear e26 e1 e2 n1 n2 HP3 HB3 HN3 hh s1 s2 s3 s4 s5 hB5 hBd
    obtain ⟨WW, rfl⟩ : ∃ x, x = w5 := ⟨_, rfl⟩
    by_cases hbf : bef (nx p q i) (qu b)
    · have hw : Hid (qd b = false ∨ bef (nx p q i) (qu b)) := Or.inr hbf
      rw [decide_eq_true hbf]
      clear hbf
      have t1 := hP5.1.cell (27 + b * 2)
      rw [pl_q1 _ _ _ _ _ hb] at t1
      have t2 := hP5.1.cell (27 + b * 2 + 1)
      rw [pl_q2 _ _ _ _ _ hb] at t2
      have t3 := hP5.1.cell 26
      rw [pl_26] at t3
      have f1 := hP5.1.frozen (27 + b * 2)
      have f2 := hP5.1.frozen (27 + b * 2 + 1)
      have f3 := hP5.1.frozen 26
      have n1 := (hN5.cell 0).trans (show _ = some (Value.int .i64 ((nx p q i).1 : Int)) from rfl)
      have n2 := (hN5.cell 1).trans (show _ = some (Value.int .i64 ((nx p q i).2 : Int)) from rfl)
      have HP5 := Lib.hid hP5
      have HG5 := Lib.hid hG5
      clear hP5 hN5 hG5
      go_wp2
      refine wp_region_still_tail 6 (by kernel_rfl) (by kernel_rfl) ?_
      simp only [List.take_succ_cons, List.take_zero, List.drop_succ_cons, List.drop_zero]
      change wpStill _ _ WW.drew (fun a' => wpList _ _ _ _ a' WW.drew) _ _
      have t1' : WW.drew.cell? ⟨g, 27 + b * 2, none⟩ = _ := t1
      have t2' : WW.drew.cell? ⟨g, 27 + b * 2 + 1, none⟩ = _ := t2
      have t3' : WW.drew.cell? ⟨g, 26, none⟩ = _ := t3
      have f1' : WW.drew.frozen? ⟨g, 27 + b * 2, none⟩ = _ := f1
      have f2' : WW.drew.frozen? ⟨g, 27 + b * 2 + 1, none⟩ = _ := f2
      have f3' : WW.drew.frozen? ⟨g, 26, none⟩ = _ := f3
      have n1' : WW.drew.cell? ⟨w2.heap.size, 0, none⟩ = _ := n1
      have n2' : WW.drew.cell? ⟨w2.heap.size, 1, none⟩ = _ := n2
      have HP6 : Hid (PL WW.drew g ps (.slice (some ⟨gp, 0, none⟩) ps.length c) K D qd qu) := HP5.out
      have HG6 : Hid (w.grownBy WW.drew (some g)) := grown_drew HG5.out
      clear t1 t2 t3 f1 f2 f3 n1 n2 HP5 HG5
      generalize WW.drew = we at t1' t2' t3' f1' f2' f3' n1' n2' HP6 HG6 ⊢
      still_step
      still_step
      still_step
      still_step
      still_step
      still_step
      refine wpStill_nil ?_
      go_wp2_with ((go_at_call 89; refine (with_any qd hb _).mono ?_; rintro e w' ⟨rfl, rfl⟩))
      go_end0
      exact enq_end HP6.out HG6.out hb hx ho hw.out
    · have HK : Hid (EnqPost w g ps (.slice (some ⟨gp, 0, none⟩) ps.length c) K D p q i qd qu (.returned (.tuple #[])) WW) :=
        ⟨rfl, qd, qu, hP5, fun C C' hQ hC => hQ.keep hx ho HQB.out hbf hC, hG5⟩
      rw [decide_eq_false hbf]
      clear hbf hP5 hG5 hN5
      go_wp2
      go_end0
      exact HK.out
end Go.Proofs.Ytokajeomojlinaa.pe
