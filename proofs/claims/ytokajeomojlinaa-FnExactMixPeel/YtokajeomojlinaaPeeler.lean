/-
  The program's turns and its peeler, as the model has them: cells, and what a store makes of them.
-/
import Derived.Test.YtokajeomojlinaaMasks
import Derived.Test.YtokajeomojlinaaCutImpl4
import Derived.StillTailTactics
namespace Go.Proofs.Ytokajeomojlinaa.pe
open Go.ChangeShapes Go.WideShapes Go.ChangeAt Go.RowKit
open Go.Proofs.Ytokajeomojlinaa.wd Go.Proofs.Ytokajeomojlinaa.cp Go.Proofs.Ytokajeomojlinaa.mp Go.Proofs.Ytokajeomojlinaa.pp Go.Proofs.Ytokajeomojlinaa.ow Go.Proofs.Ytokajeomojlinaa.mk Go.Proofs.Ytokajeomojlinaa.mi Go.Proofs.Ytokajeomojlinaa.ci

def AggPost2 (w : World) (a b : Int) (e : Ending) (w' : World) : Prop := e = .returned (.agg #[.int .i64 a, .int .i64 b]) ∧ Below w.heap.size w w'

theorem next_any (p q i : Nat) (hp : p ≤ 1000) (w : World) :
    Calls Try.prog 87 #[.agg #[.int .i64 p, .int .i64 ((q : Int) - 1)], .int .i64 i] w (AggPost2 w (nx p q i).1 (nx p q i).2) := by
  by_cases h : q ≤ i
  · have HN := Lib.hid (show nx p q i = (p, i) from if_pos h)
    rw [HN.out]
    go_enter Try.func87, Try.ntmps87
    go_wp2
    exact bodyPost_ret (v := .agg #[.int .i64 p, .int .i64 i]) (by simp [results, Try.results87, go_sem]) rfl ⟨rfl, ((Below.refl _ _).alloc (Nat.le_refl _) _).alloc (by simp) _⟩
  · have HN := Lib.hid (show nx p q i = (p + 1, i) from if_neg h)
    rw [HN.out]
    go_enter Try.func87, Try.ntmps87
    go_wp2
    exact bodyPost_ret (v := .agg #[.int .i64 ((p : Int) + 1), .int .i64 i]) (by simp [results, Try.results87, go_sem]) rfl ⟨rfl, ((Below.refl _ _).alloc (Nat.le_refl _) _).alloc (by simp) _⟩

def BoolPost (w : World) (b : Bool) (e : Ending) (w' : World) : Prop := e = .returned (.bool b) ∧ Below w.heap.size w w'

theorem before_any (a b : Nat × Nat) (w : World) :
    Calls Try.prog 88 #[.agg #[.int .i64 (a.1 : Int), .int .i64 (a.2 : Int)], .agg #[.int .i64 (b.1 : Int), .int .i64 (b.2 : Int)]] w (BoolPost w (decide (bef a b))) := by
  obtain ⟨a1, a2⟩ := a
  obtain ⟨b1, b2⟩ := b
  have hB : Below w.heap.size w ((w.alloc (.cells #[.int .i64 (a1 : Int), .int .i64 (a2 : Int)] 80)).alloc (.cells #[.int .i64 (b1 : Int), .int .i64 (b2 : Int)] 80)) := ((Below.refl _ _).alloc (Nat.le_refl _) _).alloc (by simp) _
  have HB := Lib.hid hB
  clear hB
  by_cases e : a1 = b1
  · subst e
    have HD := Lib.hid (show decide (bef (a1, a2) (a1, b2)) = decide ((a2 : Int) < (b2 : Int)) by rw [decide_eq_decide]; unfold bef; simp)
    rw [HD.out]
    go_enter Try.func88, Try.ntmps88
    go_wp2
    go_ret
    exact ⟨by simp, HB.out⟩
  · have hd : ((a1 : Int) != (b1 : Int)) = true := by rw [bne_iff_ne]; omega
    have HD := Lib.hid (show decide (bef (a1, a2) (b1, b2)) = decide ((a1 : Int) < (b1 : Int)) by rw [decide_eq_decide]; unfold bef; simp; omega)
    rw [HD.out]
    clear e
    go_enter Try.func88, Try.ntmps88
    go_wp2
    go_ret
    exact ⟨by simp, HB.out⟩

/-- a peeler: its pieces, what is known, what is queued -/
def pl (v : Value) (K : Nat → Bool) (D : Nat → Q) (qd : Nat → Bool) (qu : Nat → Nat × Nat) : Array Value :=
  #[v, .int .u8 (msk K : Int), bv (D 0).a, bv (D 0).b, bv (D 0).c, bv (D 0).d, bv (D 1).a, bv (D 1).b, bv (D 1).c, bv (D 1).d, bv (D 2).a, bv (D 2).b, bv (D 2).c, bv (D 2).d, bv (D 3).a, bv (D 3).b, bv (D 3).c, bv (D 3).d, bv (D 4).a, bv (D 4).b, bv (D 4).c, bv (D 4).d, bv (D 5).a, bv (D 5).b, bv (D 5).c, bv (D 5).d, .int .u8 (msk qd : Int), .int .i64 ((qu 0).1 : Int), .int .i64 ((qu 0).2 : Int), .int .i64 ((qu 1).1 : Int), .int .i64 ((qu 1).2 : Int), .int .i64 ((qu 2).1 : Int), .int .i64 ((qu 2).2 : Int), .int .i64 ((qu 3).1 : Int), .int .i64 ((qu 3).2 : Int), .int .i64 ((qu 4).1 : Int), .int .i64 ((qu 4).2 : Int), .int .i64 ((qu 5).1 : Int), .int .i64 ((qu 5).2 : Int)]
section
variable (v : Value) (K : Nat → Bool) (D : Nat → Q) (qd : Nat → Bool) (qu : Nat → Nat × Nat)
theorem pl_size : (pl v K D qd qu).size = 39 := rfl
theorem pl_0 : (pl v K D qd qu)[0]? = some v := rfl
theorem pl_1 : (pl v K D qd qu)[1]? = some (.int .u8 (msk K : Int)) := rfl
theorem pl_26 : (pl v K D qd qu)[26]? = some (.int .u8 (msk qd : Int)) := rfl
theorem pl_q1 {b : Nat} (h : b < 6) : (pl v K D qd qu)[27 + b * 2]? = some (.int .i64 ((qu b).1 : Int)) := by
  rcases mk.six0 h with rfl | rfl | rfl | rfl | rfl | rfl <;> rfl
theorem pl_q2 {b : Nat} (h : b < 6) : (pl v K D qd qu)[27 + b * 2 + 1]? = some (.int .i64 ((qu b).2 : Int)) := by
  rcases mk.six0 h with rfl | rfl | rfl | rfl | rfl | rfl <;> rfl
theorem pl_known (f : Nat → Bool) : (pl v K D qd qu).setIfInBounds 1 (.int .u8 (msk f : Int)) = pl v f D qd qu := rfl
theorem pl_queued (f : Nat → Bool) : (pl v K D qd qu).setIfInBounds 26 (.int .u8 (msk f : Int)) = pl v K D f qu := rfl
theorem pl_turn {b : Nat} (h : b < 6) (t : Nat × Nat) : ((pl v K D qd qu).setIfInBounds (27 + b * 2) (.int .i64 (t.1 : Int))).setIfInBounds (27 + b * 2 + 1) (.int .i64 (t.2 : Int)) = pl v K D qd (updT qu b t) := by
  rcases mk.six0 h with rfl | rfl | rfl | rfl | rfl | rfl <;> rfl
theorem pl_data {b : Nat} (h : b < 6) (q : Q) : ((((pl v K D qd qu).setIfInBounds (2 + b * 4) (bv q.a)).setIfInBounds (2 + b * 4 + 1) (bv q.b)).setIfInBounds (2 + b * 4 + 2) (bv q.c)).setIfInBounds (2 + b * 4 + 3) (bv q.d) = pl v K (updQ D b q) qd qu := by
  rcases mk.six0 h with rfl | rfl | rfl | rfl | rfl | rfl <;> rfl
theorem pl_range {w : World} {g : Nat} {t : TypeId} (hB : Blk w g t (pl v K D qd qu)) {b : Nat} (h : b < 6) : w.rangeAt g (2 + b * 4) (D b).cells.toList := by
  intro j x hx
  rw [hB.cell]
  have hj : j < 4 := by
    have := (List.getElem?_eq_some_iff.1 hx).1
    simpa [Q.cells_size] using this
  rw [← hx]
  rcases mk.six0 h with rfl | rfl | rfl | rfl | rfl | rfl <;> rcases four hj with rfl | rfl | rfl | rfl <;> rfl
end

/-- a piece, as the model has it -/
def pc (x : Pc) : List Value := [.int .u8 (msk x.S : Int), bv x.d.a, bv x.d.b, bv x.d.c, bv x.d.d]
/-- a slice that reads as pieces -/
def SeesP (w : World) (v : Value) (ps : List Pc) : Prop :=
  ∃ A c, v = .slice A ps.length c ∧ (0 < ps.length → ∃ g, A = some ⟨g, 0, none⟩ ∧ g < w.heap.size ∧ ∀ i x, ps[i]? = some x → w.rangeAt g (i * 5) (pc x))

/-- the peeler at g, its pieces elsewhere -/
def PL (w : World) (g : Nat) (ps : List Pc) (v : Value) (K : Nat → Bool) (D : Nat → Q) (qd : Nat → Bool) (qu : Nat → Nat × Nat) : Prop :=
  Blk w g 83 (pl v K D qd qu) ∧ SeesP w v ps ∧ v.ownBlock ≠ some g

theorem pure_of {P : Program} {f : FuncId} {args : Array Value} {w : World} {v : Value} (h : Calls P f args w fun e w' => e = .returned v ∧ w = w') : Calls P f args w fun e w' => e = .returned v ∧ w' = w :=
  h.mono fun _ _ ⟨a, b⟩ => ⟨a, b.symm⟩

/-- an operation whose guard does not hold is passed over -/
theorem wpStill_skip {P : Program} {ops : Array Oper} {w : World} {F : Act → Prop} {a : Act} {o : Oper} {rest : List Oper} (hw : Region.wanted o (yielded ops a.tmps) = false) (h : wpStill P ops w F rest (a.put o.dst undef)) : wpStill P ops w F (o :: rest) a := by
  unfold wpStill
  rw [if_neg (by rw [hw]; simp)]
  exact h
/-- an operation whose guard holds -/
theorem wpStill_wanted {P : Program} {ops : Array Oper} {w : World} {F : Act → Prop} {a : Act} {o : Oper} {rest : List Oper} (hw : Region.wanted o (yielded ops a.tmps) = true)
    (h : ∀ N : Act → Prop, (∀ a, wpStill P ops w F rest a → N a) → o.still P a w N) : wpStill P ops w F (o :: rest) a := by
  unfold wpStill
  rw [if_pos hw]
  exact h _ (fun _ h => h)
end Go.Proofs.Ytokajeomojlinaa.pe
