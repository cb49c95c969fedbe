/-
  The contract of the program's enqueue.
-/
import Derived.Test.YtokajeomojlinaaPeeler
import Derived.Deep.QuietTactic
import Derived.BigQuiet
namespace Go.Proofs.Ytokajeomojlinaa.pe
open Go.ChangeShapes Go.WideShapes Go.ChangeAt Go.RowKit
open Go.Proofs.Ytokajeomojlinaa.wd Go.Proofs.Ytokajeomojlinaa.cp Go.Proofs.Ytokajeomojlinaa.mp Go.Proofs.Ytokajeomojlinaa.pp Go.Proofs.Ytokajeomojlinaa.ow Go.Proofs.Ytokajeomojlinaa.mk Go.Proofs.Ytokajeomojlinaa.mi Go.Proofs.Ytokajeomojlinaa.ci

def EnqPost (w : World) (g : Nat) (ps : List Pc) (v : Value) (K : Nat → Bool) (D : Nat → Q) (p q i : Nat) (qd : Nat → Bool) (qu : Nat → Nat × Nat) (e : Ending) (w' : World) : Prop :=
  e = .returned (.tuple #[]) ∧ ∃ qd' qu', PL w' g ps v K D qd' qu' ∧ (∀ C C' : Nat → Prop, Que C ps K p q qd qu → (∀ j, C' j ↔ C j ∨ j = i) → Que C' ps K p q qd' qu') ∧ w.grownBy w' (some g)

/-- a peeler, later: nothing old has changed -/
theorem SeesP.later {w w' : World} {v : Value} {ps : List Pc} {row : Option Nat} (h : SeesP w v ps) (hg : w.grownBy w' row) (hv : v.ownBlock = none ∨ v.ownBlock ≠ row) : SeesP w' v ps := by
  obtain ⟨A, c, rfl, hc⟩ := h
  refine ⟨A, c, rfl, fun hn => ?_⟩
  obtain ⟨gp, rfl, hlt, hr⟩ := hc hn
  refine ⟨gp, rfl, Nat.lt_of_lt_of_le hlt hg.size, fun i x hx j u hu => ?_⟩
  have hne : some gp ≠ row := by
    rcases hv with hv | hv
    · simp [Value.ownBlock] at hv
    · simpa [Value.ownBlock] using hv
  exact (World.cell?_of_block (a := ⟨gp, i * 5 + j, none⟩) (hg.block gp hlt hne)).trans (hr i x hx j u hu)
theorem grown_of_below {w w' : World} (h : Below w.heap.size w w') (row : Option Nat) : w.grownBy w' row := ⟨h.os, h.tape, h.output, h.size, fun i hi _ => h.block i hi⟩
theorem PL.later {w w' : World} {g : Nat} {ps : List Pc} {v : Value} {K : Nat → Bool} {D : Nat → Q} {qd : Nat → Bool} {qu : Nat → Nat × Nat} (h : PL w g ps v K D qd qu) (hb : Below w.heap.size w w') : PL w' g ps v K D qd qu :=
  ⟨h.1.below hb h.1.lt, h.2.1.later (grown_of_below hb none) (by cases hv : v.ownBlock with | none => exact .inl rfl | some k => exact .inr (by simp)), h.2.2⟩
theorem PL.drew {w : World} {g : Nat} {ps : List Pc} {v : Value} {K : Nat → Bool} {D : Nat → Q} {qd : Nat → Bool} {qu : Nat → Nat × Nat} (h : PL w g ps v K D qd qu) : PL w.drew g ps v K D qd qu := h

/-- what the walk reads of a piece -/
theorem SeesP.at {w : World} {v : Value} {ps : List Pc} (h : SeesP w v ps) {i : Nat} {x : Pc} (hx : ps[i]? = some x) :
    ∃ gp c, v = .slice (some ⟨gp, 0, none⟩) ps.length c ∧ gp < w.heap.size ∧ i < ps.length ∧ w.rangeAt gp (i * 5) (pc x) := by
  obtain ⟨A, c, rfl, hc⟩ := h
  have hi := (List.getElem?_eq_some_iff.mp hx).1
  obtain ⟨gp, rfl, hlt, hr⟩ := hc (by omega)
  exact ⟨gp, c, rfl, hlt, hi, hr i x hx⟩

set_option maxRecDepth 100000 in
set_option maxHeartbeats 2000000 in
theorem enq_no (w : World) (g : Nat) (ps : List Pc) (v : Value) (K : Nat → Bool) (D : Nat → Q) (p q i : Nat) (qd : Nat → Bool) (qu : Nat → Nat × Nat) (h : PL w g ps v K D qd qu) (x : Pc) (hx : ps[i]? = some x)
    (hn : ∀ b, ¬ One x.S K b) : Calls Try.prog 78 #[.pointer (some ⟨g, 0, none⟩), .int .i64 i, .agg #[.int .i64 p, .int .i64 ((q : Int) - 1)]] w (EnqPost w g ps v K D p q i qd qu) := by
  have hB := (Below.refl w.heap.size w).alloc (Nat.le_refl _) (.cells #[.int .i64 (p : Int), .int .i64 ((q : Int) - 1)] 80)
  have hP := h.later hB
  have HE : Hid (EnqPost w g ps v K D p q i qd qu (.returned (.tuple #[])) ((w.alloc (.cells #[.int .i64 (p : Int), .int .i64 ((q : Int) - 1)] 80)).drew)) :=
    ⟨rfl, qd, qu, hP.drew, fun C C' hQ hC => hQ.pass hx hn hC, grown_of_below hB.drew _⟩
  obtain ⟨gp, c, rfl, hlt, hi, hr⟩ := hP.2.1.at hx
  have c0 := hP.1.cell 0
  rw [pl_0] at c0
  have c1 := hP.1.cell 1
  rw [pl_1] at c1
  have c2 := hr 0 _ rfl
  have hn' : ∀ b, ¬ Alone (mns x.S K) b := hn
  have HSg := Lib.hid (fun w => pure_of (single_no (mns x.S K) hn' w))
  clear hr hP hB h hn hn'
  go_enter Try.func78, Try.ntmps78
  have hi0 : (0 : Int) ≤ (i : Int) := by omega
  have hi1 : (i : Int) < (ps.length : Int) := by omega
  go_wp2
  refine wp_region_still_lit (by kernel_rfl) (by kernel_rfl) ?_
  generalize hW : w.alloc (.cells #[.int .i64 (p : Int), .int .i64 ((q : Int) - 1)] 80) = W at c0 c1 c2 HE ⊢
  change wpStill _ _ W.drew (fun a' => Exit.then _ _ Exit.normal a' W.drew) _ _
  have d0 : W.drew.cell? ⟨g, 0, none⟩ = _ := c0
  have d1 : W.drew.cell? ⟨g, 1, none⟩ = _ := c1
  have d2 : W.drew.cell? ⟨gp, i * 5, none⟩ = _ := c2
  clear c0 c1 c2 hW
  generalize W.drew = wd at d0 d1 d2 HE ⊢
  still_step
  still_step
  still_step
  still_step
  still_step
  still_step
  still_step
  still_step
  still_step
  still_step
  still_step
  still_step
  still_call (pure_of (minus_any _ _ _))
  still_call (HSg.out _)
  still_step
  still_step
  still_step
  still_step
  still_step
  refine wpStill_nil ?_
  go_wp2
  refine bodyPost_ret (results_none rfl _ _ _) rfl ?_
  exact HE.out

theorem grown_drew {w w' : World} {row : Option Nat} (h : w.grownBy w' row) : w.grownBy w'.drew row := ⟨h.os, h.tape, h.output, h.size, h.block⟩
theorem grown_trans {b : Nat} {w w1 w2 : World} (h : w.grownBy w1 (some b)) (k : w1.grownBy w2 (some b)) : w.grownBy w2 (some b) :=
  ⟨k.os.trans h.os, k.tape.trans h.tape, k.output.trans h.output, Nat.le_trans h.size k.size, fun i hi hn => (k.block i (Nat.lt_of_lt_of_le hi h.size) hn).trans (h.block i hi hn)⟩
theorem grown_set {b : Nat} {w w1 : World} (h : w.grownBy w1 (some b)) (o : Nat) (u : Value) : w.grownBy (w1.setCell ⟨b, o, none⟩ u) (some b) :=
  ⟨h.os, h.tape, h.output, by simpa using h.size, fun i hi hn => (Below.heap_setCell w1 ⟨b, o, none⟩ u i (fun e => hn (by rw [e]))).trans (h.block i hi hn)⟩
theorem PL.set {w w' : World} {g : Nat} {ps : List Pc} {v : Value} {K : Nat → Bool} {D : Nat → Q} {qd : Nat → Bool} {qu : Nat → Nat × Nat} {K' : Nat → Bool} {D' : Nat → Q} {qd' : Nat → Bool} {qu' : Nat → Nat × Nat}
    (h : PL w g ps v K D qd qu) (hg : w.grownBy w' (some g)) (hB : Blk w' g 83 (pl v K' D' qd' qu')) : PL w' g ps v K' D' qd' qu' :=
  ⟨hB, h.2.1.later hg (.inr h.2.2), h.2.2⟩

theorem enq_end {w we : World} {g : Nat} {ps : List Pc} {v : Value} {K : Nat → Bool} {D : Nat → Q} {p q i b : Nat} {qd : Nat → Bool} {qu : Nat → Nat × Nat} {x : Pc} (hP : PL we g ps v K D qd qu) (hG : w.grownBy we (some g)) (hb : b < 6) (hx : ps[i]? = some x) (ho : One x.S K b)
    (hw : qd b = false ∨ bef (nx p q i) (qu b)) :
    EnqPost w g ps v K D p q i qd qu (.returned (.tuple #[])) (((we.setCell ⟨g, 27 + b * 2, none⟩ (.int .i64 ((nx p q i).1 : Int))).setCell ⟨g, 27 + b * 2 + 1, none⟩ (.int .i64 ((nx p q i).2 : Int))).setCell ⟨g, 26, none⟩ (.int .u8 (msk (upd qd b) : Int))) := by
  have hgr : we.grownBy (((we.setCell ⟨g, 27 + b * 2, none⟩ (.int .i64 ((nx p q i).1 : Int))).setCell ⟨g, 27 + b * 2 + 1, none⟩ (.int .i64 ((nx p q i).2 : Int))).setCell ⟨g, 26, none⟩ (.int .u8 (msk (upd qd b) : Int))) (some g) :=
    grown_set (grown_set (grown_set (World.grownBy.refl we _) _ _) _ _) _ _
  refine ⟨rfl, upd qd b, updT qu b (nx p q i), hP.set hgr ?_, fun C C' hQ hC => hQ.put hx ho hw hC, grown_trans hG hgr⟩
  have := ((hP.1.put (27 + b * 2) (.int .i64 ((nx p q i).1 : Int))).put (27 + b * 2 + 1) (.int .i64 ((nx p q i).2 : Int))).put 26 (.int .u8 (msk (upd qd b) : Int))
  rw [pl_turn _ _ _ _ _ hb, pl_queued] at this
  exact this

end Go.Proofs.Ytokajeomojlinaa.pe
