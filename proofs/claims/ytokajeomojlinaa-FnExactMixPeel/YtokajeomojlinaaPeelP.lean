/-
  The contract of the program's peelPieces: it ends where the passes end.
-/
import Derived.Test.YtokajeomojlinaaHolders
namespace Go.Proofs.Ytokajeomojlinaa.pe
open Go.ChangeShapes Go.WideShapes Go.ChangeAt Go.RowKit
open Go.Proofs.Ytokajeomojlinaa.wd Go.Proofs.Ytokajeomojlinaa.cp Go.Proofs.Ytokajeomojlinaa.mp Go.Proofs.Ytokajeomojlinaa.pp Go.Proofs.Ytokajeomojlinaa.ow Go.Proofs.Ytokajeomojlinaa.mk Go.Proofs.Ytokajeomojlinaa.mi Go.Proofs.Ytokajeomojlinaa.ci

def PeeledPost (w : World) (ps : List Pc) (v : Value) (e : Ending) (w' : World) : Prop :=
  ∃ (s : St) (qd : Nat → Bool) (qu : Nat → Nat × Nat), e = .returned (.agg (pl v s.K s.D qd qu)) ∧ pp.Fin ps s ∧ Below w.heap.size w w'

theorem sizePl : (Try.prog.info? 83).map (·.size) = some 39 := by kernel_rfl
theorem pl_one (A : Option Addr) (n c : Nat) (K : Nat → Bool) (D : Nat → Q) (qd : Nat → Bool) (qu : Nat → Nat × Nat) : (pl (.slice A n c) K D qd qu).all (·.oneCell') = true :=
  all_oneCell_toArray (cs := (pl (.slice A n c) K D qd qu).toList) (by
    intro v hv
    simp only [pl, List.mem_cons, List.not_mem_nil, or_false] at hv
    rcases hv with rfl | rfl | rfl | rfl | rfl | rfl | rfl | rfl | rfl | rfl | rfl | rfl | rfl | rfl | rfl | rfl | rfl | rfl | rfl | rfl | rfl | rfl | rfl | rfl | rfl | rfl | rfl | rfl | rfl | rfl | rfl | rfl | rfl | rfl | rfl | rfl | rfl | rfl | rfl <;> rfl)

theorem pl_zero (v : Value) : pl v ini.K ini.D (fun _ => false) (fun _ => (0, 0)) = #[v, .int .u8 0, .int .u8 0, .int .u8 0, .int .u8 0, .int .u8 0, .int .u8 0, .int .u8 0, .int .u8 0, .int .u8 0, .int .u8 0, .int .u8 0, .int .u8 0, .int .u8 0, .int .u8 0, .int .u8 0, .int .u8 0, .int .u8 0, .int .u8 0, .int .u8 0, .int .u8 0, .int .u8 0, .int .u8 0, .int .u8 0, .int .u8 0, .int .u8 0, .int .u8 0, .int .i64 0, .int .i64 0, .int .i64 0, .int .i64 0, .int .i64 0, .int .i64 0, .int .i64 0, .int .i64 0, .int .i64 0, .int .i64 0, .int .i64 0, .int .i64 0] := rfl
theorem built_pl (A : Option Addr) (n c : Nat) : Try.prog.built 83 [(0, .slice A n c)] = some (pl (.slice A n c) ini.K ini.D (fun _ => false) (fun _ => (0, 0))) := by kernel_rfl
theorem wpList_build_pl {ops : Array Oper} {rest : List Oper} {o : Oper} {a : Act} {w : World} {F : Exit → Act → World → Prop} (hgd : o.guard = none) (x : Operand) (ho : o.op = .build 83 #[(0, x)]) (A : Option Addr) (n c : Nat) (hx : a.eval x = .slice A n c)
    (h : wpList Try.prog ops F rest (a.put o.dst (.agg (pl (.slice A n c) ini.K ini.D (fun _ => false) (fun _ => (0, 0))))) w) : wpList Try.prog ops F (o :: rest) a w := by
  have e : Try.prog.built 83 ((#[(0, x)] : Array (Nat × Operand)).map fun (i, x) => (i, a.eval x)).toList = some (pl (.slice A n c) ini.K ini.D (fun _ => false) (fun _ => (0, 0))) := by
    simp only [List.map_toArray, List.map_cons, List.map_nil, hx]
    exact built_pl A n c
  refine wpList_build hgd 83 #[(0, x)] ho (by rw [e]; rfl) ?_
  rw [e]
  exact h
/-- the result's block, and the peeler's: behind the world at the start -/
def Two (w : World) (ps : List Pc) (v : Value) (K : Nat → Bool) (D : Nat → Q) (qd : Nat → Bool) (qu : Nat → Nat × Nat) (wr : World) : Prop :=
  (∃ z, Blk wr w.heap.size 83 z ∧ z.size = 39) ∧ PL wr (w.heap.size + 1) ps v K D qd qu ∧ Below w.heap.size w wr
theorem Two.grown {w : World} {ps : List Pc} {v : Value} {K K' : Nat → Bool} {D D' : Nat → Q} {qd qd' : Nat → Bool} {qu qu' : Nat → Nat × Nat} {wr w2 : World} (h : Two w ps v K D qd qu wr) (hP : PL w2 (w.heap.size + 1) ps v K' D' qd' qu') (hG : wr.grownBy w2 (some (w.heap.size + 1))) : Two w ps v K' D' qd' qu' w2 := by
  obtain ⟨⟨z, h1, h2⟩, _, h4⟩ := h
  have hz := h1.lt
  have hzz := h4.size
  refine ⟨⟨z, (hG.block w.heap.size hz (by simp)).trans h1, h2⟩, hP, h4.trans ⟨hG.os, hG.tape, hG.output, hG.size, fun k hk => hG.block k (by omega) (by simp; omega)⟩⟩
theorem Two.later {w : World} {ps : List Pc} {v : Value} {K : Nat → Bool} {D : Nat → Q} {qd : Nat → Bool} {qu : Nat → Nat × Nat} {wr w2 : World} (h : Two w ps v K D qd qu wr) (hB : Below wr.heap.size wr w2) : Two w ps v K D qd qu w2 :=
  h.grown (h.2.1.later hB) (grown_of_below hB _)

/-- at the head of the first loop: the first k places are queued -/
def ERel (w : World) (ps : List Pc) (v : Value) (k : Nat) (wr : World) : Prop :=
  ∃ qd qu, Two w ps v ini.K ini.D qd qu wr ∧ Que (fun i => i < k) ps ini.K 0 0 qd qu ∧ Blk wr (w.heap.size + 2) 80 #[.int .i64 0, .int .i64 (-1)]

/-- at the head of the second loop -/
def LRel (w : World) (ps : List Pc) (v : Value) (m : Nat) (fd : Bool) (b : Nat) (wr : World) : Prop :=
  ∃ (s : St) (p q : Nat) (qd : Nat → Bool) (qu : Nat → Nat × Nat), Inv ps s p q qd qu ∧ FQ qd qu 6 fd b ∧ Two w ps v s.K s.D qd qu wr ∧ p ≤ cnt s.K 6 ∧ cnt s.K 6 + m = 7

set_option maxRecDepth 100000 in
set_option maxHeartbeats 4000000 in
theorem peel_any (w : World) (ps : List Pc) (v : Value) (h : SeesP w v ps) (hv : ∀ k, v.ownBlock = some k → k < w.heap.size) (hl : ps.length ≤ 1048576) :
    Calls Try.prog 58 #[v] w (PeeledPost w ps v) := by
  obtain ⟨A, c, rfl, hc⟩ := h
  have hS : SeesP w (.slice A ps.length c) ps := ⟨A, c, rfl, hc⟩
  go_enter Try.func58, Try.ntmps58
  go_wp2_with (first | (refine wpList_build_pl rfl (.tmp 9) rfl A ps.length c rfl ?_) | (refine wpList_store_blk rfl 83 (.tmp 3) (.tmp 10) rfl (w.heap.size + 1) (pl (.slice A ps.length c) ini.K ini.D (fun _ => false) (fun _ => (0, 0))) rfl rfl 83 (pl (.slice none 0 0) ini.K ini.D (fun _ => false) (fun _ => (0, 0))) ?b1 sizePl rfl (pl_one _ _ _ _ _ _ _) ?_))
  case b1 =>
    have := Blk.new (w.alloc (.cells (pl (.slice none 0 0) ini.K ini.D (fun _ => false) (fun _ => (0, 0))) 83)) 83 (pl (.slice none 0 0) ini.K ini.D (fun _ => false) (fun _ => (0, 0)))
    rw [show (w.alloc (.cells (pl (.slice none 0 0) ini.K ini.D (fun _ => false) (fun _ => (0, 0))) 83)).heap.size = w.heap.size + 1 by simp, pl_zero] at this
    rw [pl_zero]
    exact this
  intro w1 hP1 hO1
  have hR1 : ∃ z, Blk w1 w.heap.size 83 z ∧ z.size = 39 := ⟨_, only_blk hO1 (by omega) ((Blk.new w _ _).alloc _), rfl⟩
  have hB1 : Below w.heap.size w w1 := (((Below.refl _ _).alloc (Nat.le_refl _) _).alloc (by simp) _).trans (hO1.1.mono (by omega))
  have hz1 : w1.heap.size = w.heap.size + 2 := by rw [hO1.2.2]; simp
  have HE0 : Hid (ERel w ps (.slice A ps.length c) 0 (w1.alloc (.cells #[.int .i64 0, .int .i64 (-1)] 80))) := by
    have hB2 := (Below.refl w1.heap.size w1).alloc (Nat.le_refl _) (.cells #[.int .i64 0, .int .i64 (-1)] 80)
    have hT1 : Two w ps (.slice A ps.length c) ini.K ini.D (fun _ => false) (fun _ => (0, 0)) w1 := ⟨hR1, ⟨hP1, hS.later (grown_of_below hB1 none) (by
      cases hvb : Value.ownBlock (.slice A ps.length c) with
      | none => exact .inl rfl
      | some k => exact .inr (by simp)), fun e => by have := hv _ e; omega⟩, hB1⟩
    refine ⟨fun _ => false, fun _ => (0, 0), hT1.later hB2, Que.congr (Que.none ps ini.K 0 0 _) (fun i x hx => ⟨False.elim, fun h => absurd h (by omega)⟩), ?_⟩
    rw [← hz1]
    exact Blk.new w1 _ _
  have HZ1 := Lib.hid hz1
  clear hS hc hv hP1 hO1 hR1 hB1 hz1
  go_wp2
  rw [HZ1.out]
  go_loopw [14] (fun i wr => ∃ k : Nat, k ≤ ps.length ∧ i = .int .i64 k ∧ ERel w ps (.slice A ps.length c) k wr) (fun i _ => (ps.length + 1 : Nat) - (intOf i).toNat)
  case atStart => exact ⟨0, by omega, rfl, HE0.out⟩
  case round =>
    obtain ⟨k, hk, rfl, qd, qu, hT, hQ, hN⟩ := hrel
    clear HE0
    by_cases hkl : k < ps.length
    · have hx : ps[k]? = some ps[k] := List.getElem?_eq_getElem hkl
      have n1 : wr.cell? ⟨w.heap.size + 2, 0, none⟩ = some (.int .i64 0) := hN.cell 0
      have n2 : wr.cell? ⟨w.heap.size + 2, 1, none⟩ = some (.int .i64 (-1)) := hN.cell 1
      have HT := Lib.hid hT
      have HQ := Lib.hid hQ
      have HN := Lib.hid hN
      have HX := Lib.hid hx
      clear hT hQ hN hx
      go_wp2_with fail
      refine (enq_any _ (w.heap.size + 1) ps _ ini.K ini.D 0 0 k qd qu HT.out.2.1 ps[k] HX.out (by omega)).mono ?_
      rintro e w5 ⟨rfl, qd2, qu2, hP2, hQ2, hG2⟩
      have R : Hid (ERel w ps (.slice A ps.length c) (k + 1) w5) := by
        refine ⟨qd2, qu2, HT.out.grown hP2 hG2, hQ2 _ _ HQ.out (fun j => by omega), (hG2.block (w.heap.size + 2) HN.out.lt (by simp)).trans HN.out⟩
      clear hP2 hQ2 hG2 n1 n2
      go_wp2
      go_roundw
      case rel => exact ⟨k + 1, by omega, by go_num, R.out⟩
      case measure => simp [intOf]; omega
    · obtain rfl : k = ps.length := by omega
      have HI : Hid (Inv ps ini 0 0 qd qu) := ⟨by omega, rfl, Que.congr hQ (fun i x hx => ⟨fun _ => trivial, fun _ => (List.getElem?_eq_some_iff.mp hx).1⟩)⟩
      have HT := Lib.hid hT
      clear hQ hN hT
      go_wp2_with fail
      refine (first_any _ (w.heap.size + 1) ps _ ini.K ini.D qd qu HT.out.2.1).mono ?_
      rintro e w6 ⟨fd, b, rfl, hF, hB6⟩
      have HL : Hid (LRel w ps (.slice A ps.length c) 7 fd b w6) := ⟨ini, 0, 0, qd, qu, HI.out, hF, HT.out.later hB6, by omega, by decide⟩
      clear hF hB6
      go_wp2
      go_loopg [6, 7] 7 (fun m f d wr => ∃ (b : Nat) (fd : Bool), f = .int .i64 b ∧ d = .bool fd ∧ LRel w ps (.slice A ps.length c) m fd b wr)
      case atStart => exact ⟨b, fd, rfl, rfl, HL.out⟩
      case round =>
        obtain ⟨b, fd, rfl, rfl, hL⟩ := hrel
        clear HL HI HT
        cases fd with
        | true =>
          obtain ⟨s, p, q, qd, qu, hI, hF, hT, hp, hm⟩ := hL
          have hb := hF.1
          have hbi : (b : Int) < 6 := by omega
          obtain ⟨x, hx, ho, hdet, hlen, hQ⟩ := hI.next hb (hF.2.1 rfl) (P := (qu b).1) (I := (qu b).2) rfl (fun c hc hq => (hF.2.2 c hc hq).2)
          have hP1 : (qu b).1 ≤ p + 1 := by
            obtain ⟨I, y, _, _, _, hu⟩ := (hI.2.2 b hb).1 (hF.2.1 rfl)
            rw [hu]; unfold nx; split <;> simp
          have hcnt := cnt_upd' hb ho.new
          have hc6 := cnt_le (upd s.K b) 6
          have q1 := hT.2.1.1.cell (27 + b * 2)
          rw [pl_q1 _ _ _ _ _ hb] at q1
          have q2 := hT.2.1.1.cell (27 + b * 2 + 1)
          rw [pl_q2 _ _ _ _ _ hb] at q2
          have hlt1 : w.heap.size + 1 < wr.heap.size := hT.2.1.1.lt
          have hB1 := (Below.refl wr.heap.size wr).alloc (Nat.le_refl _) (.cells #[.int .i64 ((qu b).1 : Int), .int .i64 ((qu b).2 : Int)] 80)
          have HT1 := Lib.hid (hT.later hB1)
          have hN1 := Blk.new wr 80 #[.int .i64 ((qu b).1 : Int), .int .i64 ((qu b).2 : Int)]
          have HN1 := Lib.hid hN1
          have HX := Lib.hid hx
          have HDet := Lib.hid hdet
          have HQ := Lib.hid hQ
          have HC := Lib.hid hcnt
          have HM := Lib.hid hm
          clear hI hF hT hx hdet hQ hB1 hN1 hcnt hm ho
          go_wp2_with fail
          refine (det_any _ (w.heap.size + 1) ps _ s.K s.D qd qu HT1.out.2.1 hb HX.out).mono ?_
          rintro e w3 ⟨rfl, hP3, hG3⟩
          have HT3 := Lib.hid (HT1.out.grown hP3 hG3)
          have hN3 : Blk w3 wr.heap.size 80 #[.int .i64 ((qu b).1 : Int), .int .i64 ((qu b).2 : Int)] := (hG3.block wr.heap.size HN1.out.lt (by simp; omega)).trans HN1.out
          have n1 : w3.cell? ⟨wr.heap.size, 0, none⟩ = some (.int .i64 ((qu b).1 : Int)) := hN3.cell 0
          have n2 : w3.cell? ⟨wr.heap.size, 1, none⟩ = some (.int .i64 ((qu b).2 : Int)) := hN3.cell 1
          have hh := hold_any w3 (w.heap.size + 1) ps (.slice A ps.length c) (upd s.K b) (updQ s.D b (x.d.xor (sm x.S s.D 6))) b (qu b).1 ((qu b).2 + 1) (mns qd (upd s.K b)) qu HT3.out.2.1 hb (by have := cnt_le s.K 6; omega) hl
          rw [show (((qu b).2 + 1 : Nat) : Int) - 1 = ((qu b).2 : Int) by omega] at hh
          have HH := Lib.hid hh
          clear hN3 hP3 hG3 hh q1 q2
          go_wp2_with fail
          refine HH.out.mono ?_
          rintro e w4 ⟨rfl, qd4, qu4, hP4, hQ4, hG4⟩
          have HP4 := Lib.hid hP4
          have HT4 := Lib.hid (HT3.out.grown hP4 hG4)
          have HQ4 := Lib.hid hQ4
          clear hP4 hQ4 hG4 n1 n2 HH
          go_wp2_with fail
          refine (first_any _ (w.heap.size + 1) ps _ _ _ qd4 qu4 HP4.out).mono ?_
          rintro e w5 ⟨fd5, b5, rfl, hF5, hB5⟩
          have R : Hid (LRel w ps (.slice A ps.length c) (gk - 1) fd5 b5 w5) := by
            refine ⟨det s x b, (qu b).1, (qu b).2 + 1, qd4, qu4, ⟨hlen, HDet.out, HQ4.out HQ.out⟩, hF5, HT4.out.later hB5, ?_, ?_⟩
            · show (qu b).1 ≤ cnt (upd s.K b) 6
              rw [HC.out]; omega
            · show cnt (upd s.K b) 6 + (gk - 1) = 7
              have := HM.out
              have := HC.out
              omega
          have hgk : 0 < gk := by have := HM.out; have := HC.out; omega
          clear hF5 hB5
          go_wp2
          go_roundg (gk - 1)
          case measure => omega
          case rel => exact ⟨b5, fd5, rfl, rfl, R.out⟩
        | false =>
          obtain ⟨s, p, q, qd, qu, hI, hF, hT, hp, hm⟩ := hL
          have HFin := Lib.hid (hI.end_ (fun c hc => by
            cases hq : qd c with
            | false => rfl
            | true => have := (hF.2.2 c hc hq).1; cases this))
          obtain ⟨⟨z, hz, hz39⟩, hP, hB⟩ := hT
          have hP1 := hP.1
          have HB := Lib.hid hB
          clear hI hF hP hB hm hp
          go_wp2_with (first | (refine wpList_load_row rfl 83 (.tmp 3) rfl (w.heap.size + 1) rfl 83 (pl (.slice A ps.length c) s.K s.D qd qu) (0, 0) _ hP1 Try.underlying83 rfl sizePl ?_) | (refine wpList_store_blk rfl 83 (.tmp 2) (.tmp 39) rfl w.heap.size (pl (.slice A ps.length c) s.K s.D qd qu) rfl rfl 83 z hz sizePl hz39 (pl_one _ _ _ _ _ _ _) ?_))
          intro w9 hP9 hO9
          have HP9 := Lib.hid hP9
          have HB9 := Lib.hid (HB.out.trans hO9.1)
          clear hP9 hO9 hz hP1
          go_wp2
          exact bodyPost_ret (v := .agg (pl (.slice A ps.length c) s.K s.D qd qu)) (results_cell_row rfl _ _ w.heap.size 83 _ (0, 0) _ rfl HP9.out Try.underlying83 rfl sizePl) rfl ⟨s, qd, qu, rfl, HFin.out, HB9.out⟩
end Go.Proofs.Ytokajeomojlinaa.pe
