/-
  The contract of the program's firstQueued.
-/
import Derived.Test.YtokajeomojlinaaEnqueue2
namespace Go.Proofs.Ytokajeomojlinaa.pe
open Go.ChangeShapes Go.WideShapes Go.ChangeAt Go.RowKit
open Go.Proofs.Ytokajeomojlinaa.wd Go.Proofs.Ytokajeomojlinaa.cp Go.Proofs.Ytokajeomojlinaa.mp Go.Proofs.Ytokajeomojlinaa.pp Go.Proofs.Ytokajeomojlinaa.ow Go.Proofs.Ytokajeomojlinaa.mk Go.Proofs.Ytokajeomojlinaa.mi Go.Proofs.Ytokajeomojlinaa.ci

theorem enq_any (w : World) (g : Nat) (ps : List Pc) (v : Value) (K : Nat → Bool) (D : Nat → Q) (p q i : Nat) (qd : Nat → Bool) (qu : Nat → Nat × Nat) (h : PL w g ps v K D qd qu) (x : Pc) (hx : ps[i]? = some x) (hp : p ≤ 1000) :
    Calls Try.prog 78 #[.pointer (some ⟨g, 0, none⟩), .int .i64 i, .agg #[.int .i64 p, .int .i64 ((q : Int) - 1)]] w (EnqPost w g ps v K D p q i qd qu) := by
  by_cases hn : ∃ b, pp.One x.S K b
  · obtain ⟨b, hb⟩ := hn
    exact enq_yes w g ps v K D p q i qd qu h x hx hp b hb
  · exact enq_no w g ps v K D p q i qd qu h x hx (fun b hb => hn ⟨b, hb⟩)

/-- of the first k blocks the queued one whose turn comes first, if there is one -/
def FQ (qd : Nat → Bool) (qu : Nat → Nat × Nat) (k : Nat) (fd : Bool) (b : Nat) : Prop :=
  b < 6 ∧ (fd = true → qd b = true) ∧ ∀ c, c < k → qd c = true → fd = true ∧ ¬ bef (qu c) (qu b)
theorem FQ.start (qd : Nat → Bool) (qu : Nat → Nat × Nat) : FQ qd qu 0 false 0 := ⟨by omega, fun h => (by cases h), fun c hc => absurd hc (by omega)⟩
theorem FQ.same {qd : Nat → Bool} {qu : Nat → Nat × Nat} {k : Nat} {fd : Bool} {b : Nat} (h : FQ qd qu k fd b) (hk : qd k = true → fd = true ∧ ¬ bef (qu k) (qu b)) : FQ qd qu (k + 1) fd b :=
  ⟨h.1, h.2.1, fun c hc hq => by
    by_cases e : c = k
    · subst e; exact hk hq
    · exact h.2.2 c (by omega) hq⟩
theorem FQ.take {qd : Nat → Bool} {qu : Nat → Nat × Nat} {k : Nat} {fd : Bool} {b : Nat} (h : FQ qd qu k fd b) (hk6 : k < 6) (hq : qd k = true) (hk : fd = false ∨ bef (qu k) (qu b)) : FQ qd qu (k + 1) true k :=
  ⟨hk6, fun _ => hq, fun c hc hqc => ⟨rfl, by
    by_cases e : c = k
    · subst e; exact bef_irrefl _
    · obtain ⟨h1, h2⟩ := h.2.2 c (by omega) hqc
      rcases hk with hk | hk
      · rw [hk] at h1; cases h1
      · exact fun hb => h2 (bef_trans hb hk)⟩⟩

/-- the queue's turns, as the model has them -/
def qc (qu : Nat → Nat × Nat) : List Value := [.int .i64 ((qu 0).1 : Int), .int .i64 ((qu 0).2 : Int), .int .i64 ((qu 1).1 : Int), .int .i64 ((qu 1).2 : Int), .int .i64 ((qu 2).1 : Int), .int .i64 ((qu 2).2 : Int), .int .i64 ((qu 3).1 : Int), .int .i64 ((qu 3).2 : Int), .int .i64 ((qu 4).1 : Int), .int .i64 ((qu 4).2 : Int), .int .i64 ((qu 5).1 : Int), .int .i64 ((qu 5).2 : Int)]
theorem qc_range {w : World} {g : Nat} {t : TypeId} {v : Value} {K : Nat → Bool} {D : Nat → Q} {qd : Nat → Bool} {qu : Nat → Nat × Nat} (hB : Blk w g t (pl v K D qd qu)) : w.rangeAt g 27 (qc qu) := by
  intro j x hx
  rw [hB.cell, ← hx]
  have hj : j < 12 := (List.getElem?_eq_some_iff.1 hx).1
  have : j = 0 ∨ j = 1 ∨ j = 2 ∨ j = 3 ∨ j = 4 ∨ j = 5 ∨ j = 6 ∨ j = 7 ∨ j = 8 ∨ j = 9 ∨ j = 10 ∨ j = 11 := by omega
  rcases this with rfl | rfl | rfl | rfl | rfl | rfl | rfl | rfl | rfl | rfl | rfl | rfl <;> rfl
theorem sizeQ : (Try.prog.info? 81).map (·.size) = some 12 := by kernel_rfl
theorem ix_q (qu : Nat → Nat × Nat) {k : Nat} (hk : k < 6) (wx : World) : (Instr.index 81 (.agg (qc qu).toArray) (.int .i64 k)).run Try.prog wx = .ok (.agg #[.int .i64 ((qu k).1 : Int), .int .i64 ((qu k).2 : Int)]) wx := by
  rcases mk.six0 hk with rfl | rfl | rfl | rfl | rfl | rfl <;> kernel_rfl

def FirstPost (w : World) (qd : Nat → Bool) (qu : Nat → Nat × Nat) (e : Ending) (w' : World) : Prop :=
  ∃ (fd : Bool) (b : Nat), e = .returned (.tuple #[.int .i64 b, .bool fd]) ∧ FQ qd qu 6 fd b ∧ Below w.heap.size w w'

set_option maxRecDepth 100000 in
set_option maxHeartbeats 4000000 in
theorem first_any (w : World) (g : Nat) (ps : List Pc) (v : Value) (K : Nat → Bool) (D : Nat → Q) (qd : Nat → Bool) (qu : Nat → Nat × Nat) (h : PL w g ps v K D qd qu) :
    Calls Try.prog 79 #[.pointer (some ⟨g, 0, none⟩)] w (FirstPost w qd qu) := by
  have hrg := qc_range h.1
  have hgw := h.1.lt
  go_enter Try.func79, Try.ntmps79
  go_wp2_with (refine wpList_load_mid rfl 81 (.tmp 10) rfl g 27 rfl (qc qu) _ hrg Try.underlying81 rfl sizeQ ?_)
  have HP := Lib.hid h
  clear h hrg
  go_loopw [4, 5, 12] (fun f d i wr => ∃ (k b : Nat) (fd : Bool), k ≤ 6 ∧ i = .int .i64 k ∧ f = .int .i64 b ∧ d = .bool fd ∧ FQ qd qu k fd b ∧ Below w.heap.size w wr) (fun _ _ i _ => 7 - (intOf i).toNat)
  case atStart => exact ⟨0, 0, false, by omega, rfl, rfl, rfl, FQ.start qd qu, Below.refl _ _⟩
  case round =>
    obtain ⟨k, b, fd, hk, rfl, rfl, rfl, hF, hB⟩ := hrel
    by_cases hk6 : k < 6
    · have hix := ix_q qu hk6
      have hb6 := hF.1
      have hbi : (b : Int) < 6 := by omega
      have HF := Lib.hid hF
      have HB := Lib.hid (hB.alloc hB.size (.cells #[.int .i64 ((qu k).1 : Int), .int .i64 ((qu k).2 : Int)] 80))
      have hP1 := (HP.out.later hB).later ((Below.refl wr.heap.size wr).alloc (Nat.le_refl _) (.cells #[.int .i64 ((qu k).1 : Int), .int .i64 ((qu k).2 : Int)] 80))
      have hT := Blk.new wr 80 #[.int .i64 ((qu k).1 : Int), .int .i64 ((qu k).2 : Int)]
      have e26 := hP1.1.cell 26
      rw [pl_26] at e26
      have e1 := hP1.1.cell (27 + b * 2)
      rw [pl_q1 _ _ _ _ _ hb6] at e1
      have e2 := hP1.1.cell (27 + b * 2 + 1)
      rw [pl_q2 _ _ _ _ _ hb6] at e2
      have n1 := (hT.cell 0).trans (show _ = some (Value.int .i64 ((qu k).1 : Int)) from rfl)
      have n2 := (hT.cell 1).trans (show _ = some (Value.int .i64 ((qu k).2 : Int)) from rfl)
      have hgW := hP1.1.lt
      have hnW := hT.lt
      clear hF hB hP1 hT
      go_wp2
      generalize wr.alloc (.cells #[.int .i64 ((qu k).1 : Int), .int .i64 ((qu k).2 : Int)] 80) = W at e26 e1 e2 n1 n2 HB hgW hnW ⊢
      cases hqk : qd k with
      | false =>
        have hh : ∀ n, Calls Try.prog 60 #[.int .u8 (msk qd : Int), .int .i64 k] (W.drewN n) fun e w'' => e = .returned (.bool false) ∧ ∃ m, w'' = W.drewN m := fun n => (has_any qd hk6 (W.drewN n)).mono (fun _ _ ⟨a, b⟩ => ⟨by rw [a, hqk], n, b.symm⟩)
        have HS := Lib.hid (HF.out.same (fun e => by rw [hqk] at e; cases e))
        clear hqk hix
        go_quiet ((go_at_call 60; exact hh _))
        go_wp2
        go_roundw
        case rel => exact ⟨k + 1, b, fd, by omega, by go_num, rfl, rfl, HS.out, below_drewN' HB.out _⟩
        case measure => simp [intOf]; omega
      | true =>
        cases fd with
        | false =>
          have hh : ∀ n, Calls Try.prog 60 #[.int .u8 (msk qd : Int), .int .i64 k] (W.drewN n) fun e w'' => e = .returned (.bool true) ∧ ∃ m, w'' = W.drewN m := fun n => (has_any qd hk6 (W.drewN n)).mono (fun _ _ ⟨a, b⟩ => ⟨by rw [a, hqk], n, b.symm⟩)
          have HS := Lib.hid (HF.out.take hk6 hqk (.inl rfl))
          clear hqk hix
          go_quiet ((go_at_call 60; exact hh _))
          go_wp2
          go_roundw
          case rel => exact ⟨k + 1, k, true, by omega, by go_num, rfl, rfl, HS.out, below_drewN' HB.out _⟩
          case measure => simp [intOf]; omega
        | true =>
          have hh : ∀ W : World, Calls Try.prog 60 #[.int .u8 (msk qd : Int), .int .i64 k] W fun e w'' => e = .returned (.bool true) ∧ W = w'' := fun W => (has_any qd hk6 W).mono (fun _ _ ⟨a, b⟩ => ⟨by rw [a, hqk], b⟩)
          have HQK := Lib.hid hqk
          clear hqk hix
          go_region_held3 (fun w' => w'.cell? ⟨g, 26, none⟩ = some (.int .u8 (msk qd : Int)) ∧ w'.cell? ⟨g, 27 + b * 2, none⟩ = some (.int .i64 ((qu b).1 : Int)) ∧ w'.cell? ⟨g, 27 + b * 2 + 1, none⟩ = some (.int .i64 ((qu b).2 : Int)) ∧ w'.cell? ⟨wr.heap.size, 0, none⟩ = some (.int .i64 ((qu k).1 : Int)) ∧ w'.cell? ⟨wr.heap.size, 1, none⟩ = some (.int .i64 ((qu k).2 : Int))) (first | exact ⟨e26, e1, e2, n1, n2⟩ | exact ⟨s1, s2, s3, s4, s5⟩ | go_keep) (first | (go_at_call 60; refine (hh _).mono ?_; rintro e w' ⟨rfl, rfl⟩) | (go_at_call 88; refine (before_any (qu k) (qu b) _).mono ?_; rintro e w5 ⟨rfl, hB5⟩; have s1 := (hB5.cell (p := ⟨g, 26, none⟩) hgW).trans e26; have s2 := (hB5.cell (p := ⟨g, 27 + b * 2, none⟩) hgW).trans e1; have s3 := (hB5.cell (p := ⟨g, 27 + b * 2 + 1, none⟩) hgW).trans e2; have s4 := (hB5.cell (p := ⟨wr.heap.size, 0, none⟩) hnW).trans n1; have s5 := (hB5.cell (p := ⟨wr.heap.size, 1, none⟩) hnW).trans n2))
          have hBd : Below W.heap.size W w5 := ⟨hB5.os, hB5.tape, hB5.output, hB5.size, hB5.block⟩
          have HB5 := Lib.hid (HB.out.trans (hBd.mono HB.out.size))
          clear e26 e1 e2 n1 n2 hh s1 s2 s3 s4 s5 hB5 hBd
          by_cases hbf : bef (qu k) (qu b)
          · have HS := Lib.hid (HF.out.take hk6 HQK.out (.inr hbf))
            rw [decide_eq_true hbf]
            clear hbf
            go_wp2
            go_roundw
            case rel => exact ⟨k + 1, k, true, by omega, by go_num, rfl, rfl, HS.out, HB5.out⟩
            case measure => simp [intOf]; omega
          · have HS := Lib.hid (HF.out.same (fun _ => ⟨rfl, hbf⟩))
            rw [decide_eq_false hbf]
            clear hbf
            go_wp2
            go_roundw
            case rel => exact ⟨k + 1, b, true, by omega, by go_num, rfl, rfl, HS.out, HB5.out⟩
            case measure => simp [intOf]; omega
    · obtain rfl : k = 6 := by omega
      go_wp2
      go_ret2
      exact ⟨fd, b, rfl, hF, hB⟩
end Go.Proofs.Ytokajeomojlinaa.pe
