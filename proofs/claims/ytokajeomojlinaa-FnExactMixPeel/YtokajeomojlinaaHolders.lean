/-
  The contracts of the program's enqueueHolders and peelPieces.
-/
import Derived.Test.YtokajeomojlinaaDetermine
import Derived.Deep.LoopGhost
namespace Go.Proofs.Ytokajeomojlinaa.pe
open Go.ChangeShapes Go.WideShapes Go.ChangeAt Go.RowKit
open Go.Proofs.Ytokajeomojlinaa.wd Go.Proofs.Ytokajeomojlinaa.cp Go.Proofs.Ytokajeomojlinaa.mp Go.Proofs.Ytokajeomojlinaa.pp Go.Proofs.Ytokajeomojlinaa.ow Go.Proofs.Ytokajeomojlinaa.mk Go.Proofs.Ytokajeomojlinaa.mi Go.Proofs.Ytokajeomojlinaa.ci

theorem Que.congr {C C' : Nat → Prop} {ps : List Pc} {K : Nat → Bool} {p q : Nat} {qd : Nat → Bool} {qu : Nat → Nat × Nat} (h : pp.Que C ps K p q qd qu) (hC : ∀ i x, ps[i]? = some x → (C i ↔ C' i)) : pp.Que C' ps K p q qd qu := fun b hb => by
  obtain ⟨h1, h2⟩ := h b hb
  refine ⟨fun hq => ?_, fun j y hy hj ho => h2 j y hy ((hC j y hy).mpr hj) ho⟩
  obtain ⟨I, x, e, hI, ho, hu⟩ := h1 hq
  exact ⟨I, x, e, (hC I x e).mp hI, ho, hu⟩

/-- places without block b, and the first k -/
def Cb (ps : List Pc) (b k : Nat) (i : Nat) : Prop := (∀ y, ps[i]? = some y → y.S b = false) ∨ i < k

def HoldPost (w : World) (g : Nat) (ps : List Pc) (v : Value) (K : Nat → Bool) (D : Nat → Q) (b p q : Nat) (qd : Nat → Bool) (qu : Nat → Nat × Nat) (e : Ending) (w' : World) : Prop :=
  e = .returned (.tuple #[]) ∧ ∃ qd' qu', PL w' g ps v K D qd' qu' ∧ (pp.Que (fun i => ∀ y, ps[i]? = some y → y.S b = false) ps K p q qd qu → pp.Que (fun _ => True) ps K p q qd' qu') ∧ w.grownBy w' (some g)

def HRel (w : World) (g : Nat) (ps : List Pc) (v : Value) (K : Nat → Bool) (D : Nat → Q) (b p q : Nat) (qd : Nat → Bool) (qu : Nat → Nat × Nat) (k : Nat) (wr : World) : Prop :=
  ∃ qd' qu', PL wr g ps v K D qd' qu' ∧ (pp.Que (fun i => ∀ y, ps[i]? = some y → y.S b = false) ps K p q qd qu → pp.Que (Cb ps b k) ps K p q qd' qu') ∧ w.grownBy wr (some g) ∧ Blk wr w.heap.size 80 #[.int .i64 (p : Int), .int .i64 ((q : Int) - 1)]

set_option maxRecDepth 100000 in
set_option maxHeartbeats 4000000 in
theorem hold_any (w : World) (g : Nat) (ps : List Pc) (v : Value) (K : Nat → Bool) (D : Nat → Q) (b p q : Nat) (qd : Nat → Bool) (qu : Nat → Nat × Nat) (h : PL w g ps v K D qd qu) (hb : b < 6) (hp : p ≤ 1000) (hl : ps.length ≤ 1048576) :
    Calls Try.prog 81 #[.pointer (some ⟨g, 0, none⟩), .int .i64 b, .agg #[.int .i64 p, .int .i64 ((q : Int) - 1)]] w (HoldPost w g ps v K D b p q qd qu) := by
  have hgl := h.1.lt
  have hB := (Below.refl w.heap.size w).alloc (Nat.le_refl _) (.cells #[.int .i64 (p : Int), .int .i64 ((q : Int) - 1)] 80)
  have HR : Hid (HRel w g ps v K D b p q qd qu 0 (w.alloc (.cells #[.int .i64 (p : Int), .int .i64 ((q : Int) - 1)] 80))) :=
    ⟨qd, qu, h.later hB, fun hQ => Que.congr hQ (fun i x hx => ⟨fun h => .inl h, fun h => h.elim id (fun h => absurd h (by omega))⟩), grown_of_below hB _, Blk.new w _ _⟩
  have c0 := (h.later hB).1.cell 0
  rw [pl_0] at c0
  obtain ⟨A, c, rfl, hc⟩ := h.2.1
  clear h hB hc
  go_enter Try.func81, Try.ntmps81
  go_wp2
  go_loopw [13] (fun i wr => ∃ k : Nat, k ≤ ps.length ∧ i = .int .i64 k ∧ HRel w g ps (.slice A ps.length c) K D b p q qd qu k wr) (fun i _ => (ps.length + 1 : Nat) - (intOf i).toNat)
  case atStart => exact ⟨0, by omega, rfl, HR.out⟩
  case round =>
    obtain ⟨k, hk, rfl, qd', qu', hP, hQ, hG, hT⟩ := hrel
    clear HR c0
    by_cases hkl : k < ps.length
    · have hx : ps[k]? = some ps[k] := List.getElem?_eq_getElem hkl
      generalize ps[k] = x at hx
      obtain ⟨gp, c', hA, hlt, _, hr⟩ := hP.2.1.at hx
      injection hA with hA _ hcc
      subst hA
      subst hcc
      have r0 : wr.cell? ⟨gp, k * 5, none⟩ = some (.int .u8 (msk x.S : Int)) := hr 0 _ rfl
      have r1 : wr.cell? ⟨gp, k * 5 + 1, none⟩ = some (.int .u8 (x.d.a.toNat : Int)) := hr 1 _ rfl
      have r2 : wr.cell? ⟨gp, k * 5 + 2, none⟩ = some (.int .u8 (x.d.b.toNat : Int)) := hr 2 _ rfl
      have r3 : wr.cell? ⟨gp, k * 5 + 3, none⟩ = some (.int .u8 (x.d.c.toNat : Int)) := hr 3 _ rfl
      have r4 : wr.cell? ⟨gp, k * 5 + 4, none⟩ = some (.int .u8 (x.d.d.toNat : Int)) := hr 4 _ rfl
      have hB1 := (Below.refl wr.heap.size wr).alloc (Nat.le_refl _) (.cells (pc x).toArray 113)
      have hP1 := hP.later hB1
      have hG1 := grown_trans hG (grown_of_below hB1 (some g))
      have hT1 := hT.alloc (.cells (pc x).toArray 113)
      have t0 : (wr.alloc (.cells #[.int .u8 (msk x.S : Int), .int .u8 (x.d.a.toNat : Int), .int .u8 (x.d.b.toNat : Int), .int .u8 (x.d.c.toNat : Int), .int .u8 (x.d.d.toNat : Int)] 113)).cell? ⟨w.heap.size, 0, none⟩ = some (.int .i64 (p : Int)) := hT1.cell 0
      have t1 : (wr.alloc (.cells #[.int .u8 (msk x.S : Int), .int .u8 (x.d.a.toNat : Int), .int .u8 (x.d.b.toNat : Int), .int .u8 (x.d.c.toNat : Int), .int .u8 (x.d.d.toNat : Int)] 113)).cell? ⟨w.heap.size, 1, none⟩ = some (.int .i64 ((q : Int) - 1)) := hT1.cell 1
      have HX := Lib.hid hx
      have HP1 := Lib.hid hP1
      have HG1 := Lib.hid hG1
      have HQ := Lib.hid hQ
      have HT1 := Lib.hid hT1
      clear hr hP hG hT hB1 hP1 hG1 hT1 hQ hx
      cases hS : x.S b with
      | true =>
        have hh : ∀ W : World, Calls Try.prog 60 #[.int .u8 (msk x.S : Int), .int .i64 b] W fun e w'' => e = .returned (.bool true) ∧ W = w'' := fun W => (has_any x.S hb W).mono (fun _ _ ⟨a, b⟩ => ⟨by rw [a, hS], b⟩)
        clear hS
        go_wp2_with ((go_at_call 60; refine (hh _).mono ?_; rintro e w' ⟨rfl, rfl⟩))
        refine (enq_any _ g ps _ K D p q k qd' qu' HP1.out x HX.out hp).mono ?_
        rintro e w5 ⟨rfl, qd2, qu2, hP2, hQ2, hG2⟩
        have R : Hid (HRel w g ps (.slice (some ⟨gp, 0, none⟩) ps.length c) K D b p q qd qu (k + 1) w5) := by
          refine ⟨qd2, qu2, hP2, fun h0 => hQ2 _ _ (HQ.out h0) (fun j => ?_), grown_trans HG1.out hG2, (hG2.block w.heap.size HT1.out.lt (by simp; omega)).trans HT1.out⟩
          unfold Cb
          constructor
          · rintro (h | h)
            · exact .inl (.inl h)
            · by_cases e : j = k
              · exact .inr e
              · exact .inl (.inr (by omega))
          · rintro ((h | h) | h)
            · exact .inl h
            · exact .inr (by omega)
            · exact .inr (by omega)
        clear hP2 hQ2 hG2 r0 r1 r2 r3 r4 t0 t1 hh
        go_wp2
        go_roundw
        case rel => exact ⟨k + 1, by omega, by go_num, R.out⟩
        case measure => simp [intOf]; omega
      | false =>
        have hh : ∀ W : World, Calls Try.prog 60 #[.int .u8 (msk x.S : Int), .int .i64 b] W fun e w'' => e = .returned (.bool false) ∧ W = w'' := fun W => (has_any x.S hb W).mono (fun _ _ ⟨a, b⟩ => ⟨by rw [a, hS], b⟩)
        have R : Hid (HRel w g ps (.slice (some ⟨gp, 0, none⟩) ps.length c) K D b p q qd qu (k + 1) (wr.alloc (.cells (pc x).toArray 113))) := by
          refine ⟨qd', qu', HP1.out, fun h0 => Que.congr (HQ.out h0) (fun j y hy => ?_), HG1.out, HT1.out⟩
          unfold Cb
          constructor
          · rintro (h | h)
            · exact .inl h
            · exact .inr (by omega)
          · rintro (h | h)
            · exact .inl h
            · by_cases e : j = k
              · subst e
                refine .inl fun z hz => ?_
                rw [HX.out] at hz
                injection hz with hz
                subst hz
                exact hS
              · exact .inr (by omega)
        clear hS
        go_wp2_with ((go_at_call 60; refine (hh _).mono ?_; rintro e w' ⟨rfl, rfl⟩))
        go_roundw
        case rel => exact ⟨k + 1, by omega, by go_num, R.out⟩
        case measure => simp [intOf]; omega
    · obtain rfl : k = ps.length := by omega
      have HE : Hid (HoldPost w g ps (.slice A ps.length c) K D b p q qd qu (.returned (.tuple #[])) wr) :=
        ⟨rfl, qd', qu', hP, fun h0 => Que.congr (hQ h0) (fun j y hy => ⟨fun _ => trivial, fun _ => .inr (List.getElem?_eq_some_iff.mp hy).1⟩), hG⟩
      clear hP hQ hG hT
      go_wp2
      go_end0
      exact HE.out
end Go.Proofs.Ytokajeomojlinaa.pe
