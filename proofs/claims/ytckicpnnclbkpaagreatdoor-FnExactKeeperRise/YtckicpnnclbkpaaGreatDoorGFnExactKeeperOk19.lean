/-
  Merged texts: KeepHeld, KeepLaw, IAcc0, IMK, Dec3, Word, Nums.
-/
import Derived.Test.YtckicpnnclbkpaaGreatDoorGFnExactKeeperOk18
import Derived.Test.YtckicpnnclbkpaaGreatDoorGFnExactKeeperOk12
import Derived.Test.YtckicpnnclbkpaaGreatDoorGFnExactKeeperOk1
import Derived.Test.YtckicpnnclbkpaaGreatDoorShelf
import Derived.Test.YtckicpnnclbkpaaGreatDoorRows
import Derived.Test.YtckicpnnclbkpaaGreatDoorGFnExactKeeperOk4
import Derived.WalkKit
import Derived.ProofKit
import Derived.Lib.Hide
import Derived.Deep.QuietTactic
import Derived.BigQuiet
import Derived.Below
import Derived.Deep.LoopGhost
namespace Go.Proofs.YtckicpnnclbkpaaGreatDoor.kp
open Go.ChangeShapes Go.WideShapes Go.ChangeAt Go.RowKit
open wd ow rl ok sl
def FoundPost (w : World) (y : Int) (e : Ending) (w' : World) : Prop := e = .returned (.int .i64 y) ∧ Below w.heap.size w w'
set_option maxRecDepth 100000 in
set_option maxHeartbeats 1600000 in
theorem heldN_any (w : World) (v : Value) (x : Int) (n : Nat) (h : SeesN w v (ntMs x n)) (hx : 1 ≤ x) (hn : x + 5 * n < 100000000) :
  Calls Tryz.prog 44 #[v, .int .i64 x] w (FoundPost w (x + 5 * n)) := by
 have HS := Lib.hid h
 obtain ⟨A, c, rfl, _⟩ := h
 have HL := Lib.hid (ntMs_len x n)
 rw [ntMs_len]
 go_enter Tryz.func44, Tryz.ntmps44
 go_wp2
 go_loopw [1, 5] (fun a i wr => ∃ (j : Nat) (y : Int), j ≤ n ∧ i = .int .i64 j ∧ a = .int .i64 y ∧ Hid (y = x + 5 * j) ∧ 1 ≤ y ∧ y + 5 * (n - j : Nat) < 100000000 ∧ Below w.heap.size w wr) (fun _ i _ => (n + 1 : Nat) - (intOf i).toNat)
 case atStart => exact ⟨0, x, by omega, rfl, rfl, by show x = x + 5 * ((0 : Nat) : Int); omega, hx, by omega, Below.refl _ _⟩
 case round =>
  obtain ⟨j, y, hj, rfl, rfl, HY, y0, y1, hB⟩ := hrel
  by_cases hjn : j < n
  ·have ha : (ntMs x n)[j]? = some (ntM y) := by rw [ntMs_at hjn, HY.out]
   obtain ⟨g, c', e, hg, _, t0, t1, t2, t3, t4⟩ := note_at (HS.out.later hB) ha
   rw [HL.out] at e
   injection e with e1 e2 e3
   subst e1; subst e3
   change wr.cell? ⟨g, j * 5, none⟩ = some (.int .i64 y) at t0
   change wr.cell? ⟨g, j * 5 + 1, none⟩ = some (.int .i64 (y + 1)) at t1
   change wr.cell? ⟨g, j * 5 + 2, none⟩ = some (.int .i64 (y + 1 + 1)) at t2
   change wr.cell? ⟨g, j * 5 + 3, none⟩ = some (.int .i64 (y + 1 + 1 + 1)) at t3
   change wr.cell? ⟨g, j * 5 + 4, none⟩ = some (.string (mt (y + 1 + 1 + 1 + 1).toNat)) at t4
   have hj0 : (0 : Int) ≤ (j : Int) := by omega
   have hj1 : (j : Int) < (n : Int) := by omega
   have hz := hB.size
   have HY2 := Lib.hid (show y + 1 + 1 + 1 + 1 + 1 = x + 5 * ((j + 1 : Nat) : Int) by have := HY.out; omega)
   have HM := Lib.hid (fun V => mark_int (y + 1 + 1 + 1 + 1) (by omega) (by omega) V)
   clear ha
   generalize mt (y + 1 + 1 + 1 + 1).toNat = txt at t4 HM
   go_wp2_with fail
   go_region_held3 (fun w' => w'.cell? ⟨g, j * 5 + 4, none⟩ = some (.string txt)) (first | exact t4 | exact s1 | go_keep) ((go_at_call 74; refine (HM.out _).mono ?_; rintro e w2 ⟨rfl, hB2⟩; have s1 := (hB2.cell (p := ⟨g, j * 5 + 4, none⟩) hg).trans t4))
   have hB3 : Below w.heap.size w w2 := hB.trans (Below.mono ⟨hB2.os, hB2.tape, hB2.output, hB2.size, hB2.block⟩ hz)
   clear hB2 s1 t0 t1 t2 t3 t4
   go_wp2
   go_roundw
   case rel => exact ⟨j + 1, y + 1 + 1 + 1 + 1 + 1, by omega, by go_num, rfl, HY2.out, by omega, by omega, hB3⟩
   case measure => simp [intOf]; omega
  ·obtain rfl : j = n := by omega
   go_wp2
   go_ret
   exact ⟨ow.ret_int HY.out, hB⟩
set_option maxRecDepth 100000 in
set_option maxHeartbeats 1600000 in
theorem heldM_any (w : World) (v : Value) (x : Int) (n : Nat) (h : SeesMk w v (mkMs x n)) (hx : 1 ≤ x) (hn : x + 3 * n < 100000000) :
  Calls Tryz.prog 45 #[v, .int .i64 x] w (FoundPost w (x + 3 * n)) := by
 have HS := Lib.hid h
 obtain ⟨A, c, rfl, _⟩ := h
 have HL := Lib.hid (mkMs_len x n)
 rw [mkMs_len]
 go_enter Tryz.func45, Tryz.ntmps45
 go_wp2
 go_loopw [1, 5] (fun a i wr => ∃ (j : Nat) (y : Int), j ≤ n ∧ i = .int .i64 j ∧ a = .int .i64 y ∧ Hid (y = x + 3 * j) ∧ 1 ≤ y ∧ y + 3 * (n - j : Nat) < 100000000 ∧ Below w.heap.size w wr) (fun _ i _ => (n + 1 : Nat) - (intOf i).toNat)
 case atStart => exact ⟨0, x, by omega, rfl, rfl, by show x = x + 3 * ((0 : Nat) : Int); omega, hx, by omega, Below.refl _ _⟩
 case round =>
  obtain ⟨j, y, hj, rfl, rfl, HY, y0, y1, hB⟩ := hrel
  by_cases hjn : j < n
  ·have ha : (mkMs x n)[j]? = some (mkM y) := by rw [mkMs_at hjn, HY.out]
   obtain ⟨g, c', e, hg, _, t0, t1, t2⟩ := mark_at (HS.out.later hB) ha
   rw [HL.out] at e
   injection e with e1 e2 e3
   subst e1; subst e3
   change wr.cell? ⟨g, j * 3, none⟩ = some (.int .i64 y) at t0
   change wr.cell? ⟨g, j * 3 + 1, none⟩ = some (.int .i64 (y + 1)) at t1
   change wr.cell? ⟨g, j * 3 + 2, none⟩ = some (.int .i64 (y + 1 + 1)) at t2
   have hj0 : (0 : Int) ≤ (j : Int) := by omega
   have hj1 : (j : Int) < (n : Int) := by omega
   have HY2 := Lib.hid (show y + 1 + 1 + 1 = x + 3 * ((j + 1 : Nat) : Int) by have := HY.out; omega)
   clear ha
   go_wp2
   go_roundw
   case rel => exact ⟨j + 1, y + 1 + 1 + 1, by omega, by go_num, rfl, HY2.out, by omega, by omega, hB⟩
   case measure => simp [intOf]; omega
  ·obtain rfl : j = n := by omega
   go_wp2
   go_ret
   exact ⟨ow.ret_int HY.out, hB⟩
def kM (x : Int) (h m i : Nat) : Kp := ⟨0, 0, 0, ntMs x h, mkMs (x + 5 * h) m, ntMs (x + 5 * h + 3 * m) i⟩
def kN (x : Int) (h m i : Nat) : Int := x + 5 * h + 3 * m + 5 * i
set_option maxRecDepth 100000 in
set_option maxHeartbeats 1600000 in
theorem heldK_any (w : World) (a b c : Value) (p q r x : Int) (h m i : Nat) (hS : SeesK w (kM x h m i) a b c) (hx : 1 ≤ x) (hn : x + 5 * h + 3 * m + 5 * i < 100000000) :
  Calls Tryz.prog 18 #[kpV p q r a b c, .int .i64 x] w (FoundPost w (kN x h m i)) := by
 have k1 := Blk.new w 39 #[.int .i64 p, .int .i64 q, .int .i64 r, a, b, c]
 have hB0 := (Below.refl w.heap.size w).alloc (Nat.le_refl _) (.cells #[.int .i64 p, .int .i64 q, .int .i64 r, a, b, c] 39)
 have HS := Lib.hid hS
 have H1 := Lib.hid (fun V (hV : Below w.heap.size w V) => heldN_any V a x h (hS.held.later hV) hx (by omega))
 have H2 := Lib.hid (fun V (hV : Below w.heap.size w V) => heldM_any V b (x + 5 * h) m (hS.marks.later hV) (by omega) (by omega))
 have H3 := Lib.hid (fun V (hV : Below w.heap.size w V) => heldN_any V c (x + 5 * h + 3 * m) i (hS.inbox.later hV) (by omega) (by omega))
 have HN := Lib.hid (show kN x h m i = x + 5 * h + 3 * m + 5 * i from rfl)
 obtain ⟨y1, e1⟩ : ∃ y, y = x + 5 * (h : Int) := ⟨_, rfl⟩
 obtain ⟨y2, e2⟩ : ∃ y, y = x + 5 * (h : Int) + 3 * m := ⟨_, rfl⟩
 obtain ⟨y3, e3⟩ : ∃ y, y = x + 5 * (h : Int) + 3 * m + 5 * i := ⟨_, rfl⟩
 have b1 : 1 ≤ y1 := by omega
 have b2 : 1 ≤ y2 := by omega
 have b3 : 1 ≤ y3 := by omega
 rw [← e3] at H3 HN
 rw [← e2] at H2 H3
 rw [← e1] at H1 H2
 clear e1 e2 e3 hS
 rw [HN.out]
 clear HN
 go_enter Tryz.func18, Tryz.ntmps18
 go_wp2_with fail
 generalize w.heap.size = R at k1 ⊢
 generalize w.alloc (.cells #[.int .i64 p, .int .i64 q, .int .i64 r, a, b, c] 39) = V at k1 hB0 ⊢
 refine (H1.out _ hB0).mono ?_
 rintro e w1 ⟨rfl, hB1⟩
 have k2 := k1.below hB1 k1.lt
 have hB2 := hB0.trans (hB1.mono hB0.size)
 have d1 := k2.cell 4
 simp only [List.getElem?_toArray, List.getElem?_cons_zero, List.getElem?_cons_succ] at d1
 have n1 : ¬ y1 < 0 := by omega
 clear k1 hB0 hB1
 go_wp2_with fail
 refine (H2.out _ hB2).mono ?_
 rintro e w2 ⟨rfl, hB3⟩
 have k3 := k2.below hB3 k2.lt
 have hB4 := hB2.trans (hB3.mono hB2.size)
 clear d1
 have d2 := k3.cell 5
 simp only [List.getElem?_toArray, List.getElem?_cons_zero, List.getElem?_cons_succ] at d2
 have n2 : ¬ y2 < 0 := by omega
 clear k2 hB2 hB3
 go_wp2_with fail
 refine (H3.out _ hB4).mono ?_
 rintro e w3 ⟨rfl, hB5⟩
 have hB6 := hB4.trans (hB5.mono hB4.size)
 have n3 : ¬ y3 < 0 := by omega
 clear d2 k3 hB4 hB5
 go_wp2
 go_ret
 exact ⟨rfl, hB6⟩
structure Marked (w w' : World) (a b c : Value) : Prop where
 os : w'.os = w.os
 tape : w'.tape = w.tape
 output : w'.output = w.output
 size : w.heap.size ≤ w'.heap.size
 block : ∀ k, k < w.heap.size → a.ownBlock ≠ some k → b.ownBlock ≠ some k → c.ownBlock ≠ some k → w'.heap[k]? = w.heap[k]?
structure Own3 (B : Nat) (W : World) (k : Kp) (a b c : Value) : Prop where
 held : OwnAt ntS 105 B W a k.held
 marks : OwnAt mkS 108 B W b k.marks
 inbox : OwnAt ntS 105 B W c k.inbox
 hm : Apart a b
 hi : Apart a c
 mi : Apart b c
theorem OwnK.three {w0 w : World} {k : Kp} {a b c : Value} (h : OwnK w0 w k a b c) : Own3 w0.heap.size w k a b c := ⟨h.held.1, h.marks.1, h.inbox.1, h.hm, h.hi, h.mi⟩
theorem Own3.sees {B : Nat} {W : World} {k : Kp} {a b c : Value} (h : Own3 B W k a b c) : SeesK W k a b c := ⟨h.held.sees, h.marks.sees, h.inbox.sees⟩
def MarkedPost (w : World) (B : Nat) (x : Int) (h m i : Nat) (a b c : Value) (e : Ending) (w' : World) : Prop := e = .returned (.int .i64 (kN x h m i)) ∧ Own3 B w' (kM x h m i) a b c ∧ Marked w w' a b c
set_option maxRecDepth 100000 in
set_option maxHeartbeats 1600000 in
theorem markK_any (w : World) (B : Nat) (k : Kp) (a b c : Value) (p q r x : Int) (hO : Own3 B w k a b c) (hx : 1 ≤ x) (hn : x + 5 * k.held.length + 3 * k.marks.length + 5 * k.inbox.length < 100000000) :
  Calls Tryz.prog 17 #[kpV p q r a b c, .int .i64 x] w (MarkedPost w B x k.held.length k.marks.length k.inbox.length a b c) := by
 have k1 := Blk.new w 39 #[.int .i64 p, .int .i64 q, .int .i64 r, a, b, c]
 have hB0 := (Below.refl w.heap.size w).alloc (Nat.le_refl _) (.cells #[.int .i64 p, .int .i64 q, .int .i64 r, a, b, c] 39)
 obtain ⟨h, eh⟩ : ∃ h, h = k.held.length := ⟨_, rfl⟩
 obtain ⟨m, em⟩ : ∃ m, m = k.marks.length := ⟨_, rfl⟩
 obtain ⟨i, ei⟩ : ∃ i, i = k.inbox.length := ⟨_, rfl⟩
 rw [← eh, ← em, ← ei] at hn ⊢
 have H1 := Lib.hid (fun V (hV : OwnAt ntS 105 B V a k.held) => markN_any hV x hx (by omega))
 have H2 := Lib.hid (fun V (hV : OwnAt mkS 108 B V b k.marks) => markM_any hV (x + 5 * h) (by omega) (by omega))
 have H3 := Lib.hid (fun V (hV : OwnAt ntS 105 B V c k.inbox) => markN_any hV (x + 5 * h + 3 * m) (by omega) (by omega))
 rw [← eh] at H1
 rw [← em] at H2
 rw [← ei] at H3
 have HN := Lib.hid (show kN x h m i = x + 5 * h + 3 * m + 5 * i from rfl)
 have HK := Lib.hid (fun W (p1 : OwnAt ntS 105 B W a (ntMs x h)) (p2 : OwnAt mkS 108 B W b (mkMs (x + 5 * h) m)) (p3 : OwnAt ntS 105 B W c (ntMs (x + 5 * h + 3 * m) i)) => show Own3 B W (kM x h m i) a b c from ⟨p1, p2, p3, hO.hm, hO.hi, hO.mi⟩)
 unfold MarkedN at H1 H3
 unfold MarkedM at H2
 obtain ⟨y1, e1⟩ : ∃ y, y = x + 5 * (h : Int) := ⟨_, rfl⟩
 obtain ⟨y2, e2⟩ : ∃ y, y = x + 5 * (h : Int) + 3 * m := ⟨_, rfl⟩
 obtain ⟨y3, e3⟩ : ∃ y, y = x + 5 * (h : Int) + 3 * m + 5 * i := ⟨_, rfl⟩
 rw [← e3] at H3 HN
 rw [← e2] at H2 H3 HK
 rw [← e1] at H1 H2 HK
 have HO := Lib.hid hO
 clear e1 e2 e3 eh em ei hO
 unfold MarkedPost
 rw [HN.out]
 clear HN hn
 generalize ntMs x h = l1 at H1 HK
 generalize mkMs y1 m = l2 at H2 HK
 generalize ntMs y2 i = l3 at H3 HK
 go_enter Tryz.func17, Tryz.ntmps17
 go_wp2_with fail
 have HR := Lib.hid (show w.heap.size ≤ w.heap.size from Nat.le_refl _)
 generalize hRR : w.heap.size = R at k1 HR ⊢
 have HRR := Lib.hid hRR
 clear hRR
 generalize w.alloc (.cells #[.int .i64 p, .int .i64 q, .int .i64 r, a, b, c] 39) = V at k1 hB0 ⊢
 refine (H1.out _ (HO.out.held.later hB0)).mono ?_
 rintro e w1 ⟨rfl, hA1, hG1⟩
 have k2 : Blk w1 R 39 #[.int .i64 p, .int .i64 q, .int .i64 r, a, b, c] := (hG1.block R k1.lt (fun e => by have := (HO.out.held.lt e.symm).2; rw [HRR.out] at this; omega)).trans k1
 have hb1 : OwnAt mkS 108 B w1 b k.marks := (HO.out.marks.later hB0).same (fun g hg => hG1.block g ((HO.out.marks.later hB0).lt hg).2 (fun e => HO.out.hm g e.symm hg))
 have hc1 : OwnAt ntS 105 B w1 c k.inbox := (HO.out.inbox.later hB0).same (fun g hg => hG1.block g ((HO.out.inbox.later hB0).lt hg).2 (fun e => HO.out.hi g e.symm hg))
 have d1 := k2.cell 4
 simp only [List.getElem?_toArray, List.getElem?_cons_zero, List.getElem?_cons_succ] at d1
 have HA1 := Lib.hid hA1
 have HG1 := Lib.hid hG1
 clear k1 hA1 hG1 H1
 go_wp2_with fail
 refine (H2.out _ hb1).mono ?_
 rintro e w2 ⟨rfl, hA2, hG2⟩
 have k3 : Blk w2 R 39 #[.int .i64 p, .int .i64 q, .int .i64 r, a, b, c] := (hG2.block R k2.lt (fun e => by have := (HO.out.marks.lt e.symm).2; rw [HRR.out] at this; omega)).trans k2
 have ha2 : OwnAt ntS 105 B w2 a l1 := HA1.out.same (fun g hg => hG2.block g (HA1.out.lt hg).2 (fun e => HO.out.hm g hg e.symm))
 have hc2 : OwnAt ntS 105 B w2 c k.inbox := hc1.same (fun g hg => hG2.block g (hc1.lt hg).2 (fun e => HO.out.mi g e.symm hg))
 clear d1
 have d2 := k3.cell 5
 simp only [List.getElem?_toArray, List.getElem?_cons_zero, List.getElem?_cons_succ] at d2
 have HA2 := Lib.hid hA2
 have HG2 := Lib.hid hG2
 clear k2 hA2 hG2 H2 hb1 hc1
 go_wp2_with fail
 refine (H3.out _ hc2).mono ?_
 rintro e w3 ⟨rfl, hA3, hG3⟩
 have ha3 : OwnAt ntS 105 B w3 a l1 := ha2.same (fun g hg => hG3.block g (ha2.lt hg).2 (fun e => HO.out.hi g hg e.symm))
 have hb3 : OwnAt mkS 108 B w3 b l2 := HA2.out.same (fun g hg => hG3.block g (HA2.out.lt hg).2 (fun e => HO.out.mi g hg e.symm))
 have HF := Lib.hid (HK.out _ ha3 hb3 hA3)
 have HG : Hid (Marked w w3 a b c) := ⟨hG3.os.trans (HG2.out.os.trans (HG1.out.os.trans hB0.os)), hG3.tape.trans (HG2.out.tape.trans (HG1.out.tape.trans hB0.tape)), hG3.output.trans (HG2.out.output.trans (HG1.out.output.trans hB0.output)), Nat.le_trans hB0.size (Nat.le_trans HG1.out.size (Nat.le_trans HG2.out.size hG3.size)), fun j hj na nb nc => by
  have j0 : j < V.heap.size := Nat.lt_of_lt_of_le hj hB0.size
  have j1 : j < w1.heap.size := Nat.lt_of_lt_of_le j0 HG1.out.size
  have j2 : j < w2.heap.size := Nat.lt_of_lt_of_le j1 HG2.out.size
  exact (hG3.block j j2 (fun e => nc e.symm)).trans ((HG2.out.block j j1 (fun e => nb e.symm)).trans ((HG1.out.block j j0 (fun e => na e.symm)).trans (hB0.block j hj)))⟩
 clear d2 k3 hA3 hG3 ha3 hb3 ha2 hc2
 go_wp2
 go_ret
 exact ⟨rfl, HF.out, HG.out⟩
end Go.Proofs.YtckicpnnclbkpaaGreatDoor.kp

namespace Go.Proofs.YtckicpnnclbkpaaGreatDoor.kp
open Go.ChangeShapes Go.WideShapes Go.ChangeAt Go.RowKit
open wd ow rl ok nb
section
variable {B R : Nat} {w w' W W' : World} {k k' : Kp} {a b c : Value}
theorem Own3.later (h : Own3 B W k a b c) (hb : Below W.heap.size W W') : Own3 B W' k a b c := ⟨h.held.later hb, h.marks.later hb, h.inbox.later hb, h.hm, h.hi, h.mi⟩
theorem Marked.below (h : Marked w w' a b c) (hO : Own3 B w k a b c) (hB : B ≤ w.heap.size) : Below B w w' :=
 ⟨h.os, h.tape, h.output, h.size, fun j hj => h.block j (by omega) (fun e => by have := (hO.held.lt e).1; omega) (fun e => by have := (hO.marks.lt e).1; omega) (fun e => by have := (hO.inbox.lt e).1; omega)⟩
def Off (R : Nat) (a b c : Value) : Prop := a.ownBlock ≠ some R ∧ b.ownBlock ≠ some R ∧ c.ownBlock ≠ some R
theorem OwnK.off (h : OwnK w W k a b c) (hR : W.heap.size ≤ R) : Off R a b c :=
 ⟨fun e => by have := (h.held.lt e).2; omega, fun e => by have := (h.marks.lt e).2; omega, fun e => by have := (h.inbox.lt e).2; omega⟩
theorem OwnK.off' (h : OwnK w W k a b c) (hR : R < w.heap.size) : Off R a b c :=
 ⟨fun e => by have := (h.held.lt e).1; omega, fun e => by have := (h.marks.lt e).1; omega, fun e => by have := (h.inbox.lt e).1; omega⟩
theorem Marked.blk {t : TypeId} {cs : Array Value} (h : Marked w w' a b c) (hR : Blk w R t cs) (hf : Off R a b c) : Blk w' R t cs := (h.block R hR.lt hf.1 hf.2.1 hf.2.2).trans hR
abbrev KBox (W : World) (R : Nat) (k : Kp) (a b c : Value) : Prop := Blk W R 39 #[.int .i64 k.id, .int .i64 k.time, .int .i64 k.next, a, b, c]
theorem KBox.cells (h : KBox W R k a b c) : W.cell? ⟨R, 0, none⟩ = some (.int .i64 k.id) ∧ W.cell? ⟨R, 1, none⟩ = some (.int .i64 k.time) ∧ W.cell? ⟨R, 2, none⟩ = some (.int .i64 k.next) ∧ W.cell? ⟨R, 3, none⟩ = some a ∧ W.cell? ⟨R, 4, none⟩ = some b ∧ W.cell? ⟨R, 5, none⟩ = some c :=
 ⟨h.cell 0, h.cell 1, h.cell 2, h.cell 3, h.cell 4, h.cell 5⟩
end
theorem start_few (id : Int) : (startK id).held.length = 0 ∧ (startK id).marks.length = 0 ∧ (startK id).inbox.length = 0 := by
 unfold startK; split <;> exact ⟨rfl, rfl, rfl⟩
end Go.Proofs.YtckicpnnclbkpaaGreatDoor.kp

namespace Go.Proofs.YtckicpnnclbkpaaGreatDoor.kp
open Go.ChangeShapes Go.WideShapes Go.ChangeAt Go.RowKit
open wd ow rl ok nb nx
structure MK (B : Nat) (W : World) (g : Nat) (k : Kp) (a b c : Value) : Prop where
 box : KBox W g k a b c
 own : Own3 B W k a b c
 off : Off g a b c
 gB : B ≤ g
 bW : B ≤ W.heap.size
section
variable {B g : Nat} {W W' : World} {k : Kp} {a b c : Value}
theorem MK.sees (h : MK B W g k a b c) : SeesK W k a b c := ⟨h.own.held.sees, h.own.marks.sees, h.own.inbox.sees⟩
theorem MK.later (h : MK B W g k a b c) (hb : Below W.heap.size W W') : MK B W' g k a b c := ⟨h.box.below hb h.box.lt, h.own.later hb, h.off, h.gB, Nat.le_trans h.bW hb.size⟩
end
set_option maxRecDepth 100000 in
set_option maxHeartbeats 1600000 in
theorem hasNote_any (W : World) (g : Nat) (k : Kp) (a b c : Value) (x : Nt) (hb : KBox W g k a b c) (h : SeesK W k a b c) (hl : k.held.length ≤ 1048576 ∧ k.marks.length ≤ 1048576 ∧ k.inbox.length ≤ 1048576) :
  Calls Tryz.prog 175 #[.pointer (some ⟨g, 0, none⟩), ntV x] W (BoolK W (hasN k.held x.f x.n || hasN k.inbox x.f x.n)) := by
 have hB0 := (Below.refl W.heap.size W).alloc (Nat.le_refl _) (.cells #[.int .i64 x.f, .int .i64 x.n, .int .i64 x.t, .int .i64 x.u, .string x.s] 105)
 have k2 := Blk.new W 105 #[.int .i64 x.f, .int .i64 x.n, .int .i64 x.t, .int .i64 x.u, .string x.s]
 have k3 : KBox _ g k a b c := Blk.alloc (w := W) hb (.cells #[.int .i64 x.f, .int .i64 x.n, .int .i64 x.t, .int .i64 x.u, .string x.s] 105)
 have HN := Lib.hid (fun V => nmark_any x.f x.n x.t x.u x.s V)
 unfold AggPost mark note at HN
 have H1 := Lib.hid (fun V (hV : Below W.heap.size W V) => hasN_any V a k.held (h.held.later hV) hl.1 x.f x.n x.u)
 have H2 := Lib.hid (fun V (hV : Below W.heap.size W V) => hasN_any V c k.inbox (h.inbox.later hV) hl.2.2 x.f x.n x.u)
 unfold BoolK mark at H1 H2
 have HE := Lib.hid (show (hasN k.held x.f x.n || hasN k.inbox x.f x.n) = (hasN k.held x.f x.n || hasN k.inbox x.f x.n) from rfl)
 generalize hasN k.held x.f x.n = p1 at H1 HE ⊢
 generalize hasN k.inbox x.f x.n = p2 at H2 HE ⊢
 obtain ⟨Aa, ca, rfl, _⟩ := h.held
 obtain ⟨Ab, cb, rfl, _⟩ := h.marks
 obtain ⟨Ac, cc, rfl, _⟩ := h.inbox
 clear hb h hl HE
 unfold ntV note
 cases p1 with
 | true =>
  go_enter Tryz.func175, Tryz.ntmps175
  go_upto_region 1 with (fail)
  generalize W.alloc (.cells #[.int .i64 x.f, .int .i64 x.n, .int .i64 x.t, .int .i64 x.u, .string x.s] 105) = V at hB0 k2 k3 ⊢
  obtain ⟨c0, c1, c2, c3, c4⟩ := qa.five k2
  obtain ⟨d0, d1, d2, d3, d4, d5⟩ := qa.six k3
  have HB := Lib.hid hB0
  clear k2 k3 hB0
  refine qa.region (by kernel_rfl) (by kernel_rfl) ?_
  repeat (go_big_quiet_step (first | (go_at_call 167; exact qa.of_below (HN.out _)) | (go_at_call 203; with_reducible exact qa.of_below (H1.out _ (HB.out.trans ((qa.After.h _).mono HB.out.size))))))
  refine wpQuiet_nil ?_
  rintro _ ⟨p, rfl⟩
  have HB2 := Lib.hid (HB.out.trans (p.h.mono HB.out.size))
  clear c0 c1 c2 c3 c4 d0 d1 d2 d3 d4 d5
  go_wp2
  go_ret
  exact ⟨rfl, HB2.out⟩
 | false =>
  go_enter Tryz.func175, Tryz.ntmps175
  go_upto_region 1 with (fail)
  generalize W.alloc (.cells #[.int .i64 x.f, .int .i64 x.n, .int .i64 x.t, .int .i64 x.u, .string x.s] 105) = V at hB0 k2 k3 ⊢
  obtain ⟨c0, c1, c2, c3, c4⟩ := qa.five k2
  obtain ⟨d0, d1, d2, d3, d4, d5⟩ := qa.six k3
  have HB := Lib.hid hB0
  clear k2 k3 hB0
  refine qa.region (by kernel_rfl) (by kernel_rfl) ?_
  repeat (go_big_quiet_step (first | (go_at_call 167; exact qa.of_below (HN.out _)) | (go_at_call 203; with_reducible exact qa.of_below (H1.out _ (HB.out.trans ((qa.After.h _).mono HB.out.size)))) | (go_at_call 203; with_reducible exact qa.of_below (H2.out _ (HB.out.trans ((qa.After.h _).mono HB.out.size))))))
  refine wpQuiet_nil ?_
  rintro _ ⟨p, rfl⟩
  have HB2 := Lib.hid (HB.out.trans (p.h.mono HB.out.size))
  clear c0 c1 c2 c3 c4 d0 d1 d2 d3 d4 d5
  go_wp2
  go_ret
  exact ⟨rfl, HB2.out⟩
end Go.Proofs.YtckicpnnclbkpaaGreatDoor.kp

namespace Go.Proofs.YtckicpnnclbkpaaGreatDoor.kp
open Go.ChangeShapes Go.WideShapes Go.ChangeAt Go.RowKit
open wd ow rl ok nb nx
section
variable {B g : Nat} {W W' : World} {k : Kp} {a b c : Value}
theorem blk_row {t : TypeId} {cs : Array Value} {row : Option Nat} (h : Blk W g t cs) (hb : W.grownBy W' row) (hg : row ≠ some g) : Blk W' g t cs := (hb.block g h.lt (fun e => hg e.symm)).trans h
theorem own_off {α : Type} {S : Shape α} {t : TypeId} {v : Value} {l : List α} (h : OwnAt S t B W v l) {p : Addr} (hp : v.ownBlock ≠ some p.block) (x : Value) : OwnAt S t B (W.setCell p x) v l :=
 h.same fun g' hg' => Below.heap_setCell W p x g' (fun e => hp (by rw [hg', e]))
theorem below_row {row : Option Nat} (hg : W.grownBy W' row) (hr : ∀ i, row = some i → B ≤ i) (hB : B ≤ W.heap.size) : Below B W W' :=
 ⟨hg.os, hg.tape, hg.output, hg.size, fun i hi => hg.block i (by omega) (fun e => by have := hr i e.symm; omega)⟩
theorem apart_row {u v : Value} (h : Apart u v) : u.ownBlock = none ∨ u.ownBlock ≠ v.ownBlock := by
 cases hu : u.ownBlock with
 | none => exact .inl rfl
 | some x => exact .inr fun e => h x hu e.symm
theorem from_apart {α : Type} {S : Shape α} {t : TypeId} {u v v' : Value} {l : List α} (hu : OwnAt S t B W u l) (h : Apart u v) (hF : From W v' v) : Apart u v' := fun x e1 e2 => by
 rcases hF x e2 with h1 | h1
 ·have := (hu.lt e1).2; omega
 ·exact h x e1 h1
theorem from_off {v v' : Value} (hl : g < W.heap.size) (h : v.ownBlock ≠ some g) (hF : From W v' v) : v'.ownBlock ≠ some g := fun e => by
 rcases hF g e with h1 | h1
 ·omega
 ·exact h h1
theorem MK.mut3 (h : MK B W g k a b c) {l : List Nt} {v' : Value} (hO : OwnAt ntS 105 B W' v' l) (hg : W.grownBy W' a.ownBlock) (hF : From W v' a) :
  MK B (W'.setCell ⟨g, 3, none⟩ v') g { k with held := l } v' b c ∧ Below B W (W'.setCell ⟨g, 3, none⟩ v') := by
 have hb : Below B W W' := below_row hg (fun i e => (h.own.held.lt e).1) h.bW
 have hne := from_off h.box.lt h.off.1 hF
 have box1 : KBox W' g k a b c := blk_row h.box hg h.off.1
 have hb2 := hb.setCell (p := ⟨g, 3, none⟩) h.gB v'
 refine ⟨⟨box1.put 3 v', ⟨own_off hO hne v', own_off (World.ownsRow.kept h.own.marks hg (apart_row h.own.hm.symm)) h.off.2.1 v', own_off (World.ownsRow.kept h.own.inbox hg (apart_row h.own.hi.symm)) h.off.2.2 v', (from_apart h.own.marks h.own.hm.symm hF).symm, (from_apart h.own.inbox h.own.hi.symm hF).symm, h.own.mi⟩, ⟨hne, h.off.2.1, h.off.2.2⟩, h.gB, Nat.le_trans h.bW hb2.size⟩, hb2⟩
theorem MK.mut4 (h : MK B W g k a b c) {l : List Mk} {v' : Value} (hO : OwnAt mkS 108 B W' v' l) (hg : W.grownBy W' b.ownBlock) (hF : From W v' b) :
  MK B (W'.setCell ⟨g, 4, none⟩ v') g { k with marks := l } a v' c ∧ Below B W (W'.setCell ⟨g, 4, none⟩ v') := by
 have hb : Below B W W' := below_row hg (fun i e => (h.own.marks.lt e).1) h.bW
 have hne := from_off h.box.lt h.off.2.1 hF
 have box1 : KBox W' g k a b c := blk_row h.box hg h.off.2.1
 have hb2 := hb.setCell (p := ⟨g, 4, none⟩) h.gB v'
 refine ⟨⟨box1.put 4 v', ⟨own_off (World.ownsRow.kept h.own.held hg (apart_row h.own.hm)) h.off.1 v', own_off hO hne v', own_off (World.ownsRow.kept h.own.inbox hg (apart_row h.own.mi.symm)) h.off.2.2 v', from_apart h.own.held h.own.hm hF, h.own.hi, (from_apart h.own.inbox h.own.mi.symm hF).symm⟩, ⟨h.off.1, hne, h.off.2.2⟩, h.gB, Nat.le_trans h.bW hb2.size⟩, hb2⟩
theorem MK.mut5 (h : MK B W g k a b c) {l : List Nt} {v' : Value} (hO : OwnAt ntS 105 B W' v' l) (hg : W.grownBy W' c.ownBlock) (hF : From W v' c) :
  MK B (W'.setCell ⟨g, 5, none⟩ v') g { k with inbox := l } a b v' ∧ Below B W (W'.setCell ⟨g, 5, none⟩ v') := by
 have hb : Below B W W' := below_row hg (fun i e => (h.own.inbox.lt e).1) h.bW
 have hne := from_off h.box.lt h.off.2.2 hF
 have box1 : KBox W' g k a b c := blk_row h.box hg h.off.2.2
 have hb2 := hb.setCell (p := ⟨g, 5, none⟩) h.gB v'
 refine ⟨⟨box1.put 5 v', ⟨own_off (World.ownsRow.kept h.own.held hg (apart_row h.own.hi)) h.off.1 v', own_off (World.ownsRow.kept h.own.marks hg (apart_row h.own.mi)) h.off.2.1 v', own_off hO hne v', h.own.hm, from_apart h.own.held h.own.hi hF, from_apart h.own.marks h.own.mi hF⟩, ⟨h.off.1, h.off.2.1, hne⟩, h.gB, Nat.le_trans h.bW hb2.size⟩, hb2⟩
theorem MK.set1 (h : MK B W g k a b c) (v : Int) : MK B (W.setCell ⟨g, 1, none⟩ (.int .i64 v)) g { k with time := v } a b c ∧ Below B W (W.setCell ⟨g, 1, none⟩ (.int .i64 v)) := by
 have hb2 := (Below.refl B W).setCell (p := ⟨g, 1, none⟩) h.gB (.int .i64 v)
 exact ⟨⟨h.box.put 1 _, ⟨own_off h.own.held h.off.1 _, own_off h.own.marks h.off.2.1 _, own_off h.own.inbox h.off.2.2 _, h.own.hm, h.own.hi, h.own.mi⟩, h.off, h.gB, Nat.le_trans h.bW hb2.size⟩, hb2⟩
theorem MK.set2 (h : MK B W g k a b c) (v : Int) : MK B (W.setCell ⟨g, 2, none⟩ (.int .i64 v)) g { k with next := v } a b c ∧ Below B W (W.setCell ⟨g, 2, none⟩ (.int .i64 v)) := by
 have hb2 := (Below.refl B W).setCell (p := ⟨g, 2, none⟩) h.gB (.int .i64 v)
 exact ⟨⟨h.box.put 2 _, ⟨own_off h.own.held h.off.1 _, own_off h.own.marks h.off.2.1 _, own_off h.own.inbox h.off.2.2 _, h.own.hm, h.own.hi, h.own.mi⟩, h.off, h.gB, Nat.le_trans h.bW hb2.size⟩, hb2⟩
theorem MK.far (h : MK B W g k a b c) {p : Addr} (hg : g ≠ p.block) (ho : Off p.block a b c) (x : Value) : MK B (W.setCell p x) g k a b c :=
 ⟨h.box.far hg x, ⟨own_off h.own.held ho.1 x, own_off h.own.marks ho.2.1 x, own_off h.own.inbox ho.2.2 x, h.own.hm, h.own.hi, h.own.mi⟩, h.off, h.gB, by simpa using h.bW⟩
end
end Go.Proofs.YtckicpnnclbkpaaGreatDoor.kp

namespace Go.Proofs.YtckicpnnclbkpaaGreatDoor.dc
open Go.ChangeShapes Go.WideShapes Go.ChangeAt Go.RowKit
open nb ok wd
def Spells (l : List UInt8) (v : Int) : Prop := ∀ m : Int, 0 ≤ m → m ≤ 999 → l = dl m → v = m
def SpellPost (w : World) (l : List UInt8) (e : Ending) (w' : World) : Prop := ∃ v : Int, e = .returned (.int .i64 v) ∧ Spells l v ∧ Below w.heap.size w w'
theorem spells_not {l : List UInt8} {v : Int} (h : ∀ m : Int, 0 ≤ m → m ≤ 999 → l ≠ dl m) : Spells l v := fun m h0 h1 e => absurd e (h m h0 h1)
theorem not_len {l : List UInt8} (h : l.length < 1 ∨ 4 < l.length) : ∀ m : Int, 0 ≤ m → m ≤ 999 → l ≠ dl m := fun m _ h1 e => by
 have := dl_len h1
 rw [← e] at this
 omega
theorem not_digit {l : List UInt8} {c : UInt8} (hm : c ∈ l) (h : dg c = false) : ∀ m : Int, 0 ≤ m → m ≤ 999 → l ≠ dl m := fun m _ _ e => by
 have := List.all_eq_true.1 (dl_all m) c (e ▸ hm)
 rw [h] at this
 cases this
theorem spells_val {l : List UInt8} : Spells l (val 0 l : Int) := fun m h0 _ e => by
 rw [e]
 unfold dl
 rw [dd_val]
 omega
theorem not_val {l : List UInt8} (h : dl (val 0 l : Int) ≠ l) : ∀ m : Int, 0 ≤ m → m ≤ 999 → l ≠ dl m := fun m h0 h1 e => by
 have := spells_val m h0 h1 e
 rw [this] at h
 exact h e.symm
set_option maxHeartbeats 1000000 in
theorem dec3_any (s : ByteArray) (hs : s.size ≤ 1048576) (w : World) :
  Calls Tryz.prog 79 #[.string s] w (SpellPost w s.data.toList) := by
 by_cases h0 : s.size < 1
 ·have R := Lib.hid (spells_not (v := -1) (not_len (l := s.data.toList) (.inl (by rw [← Lib.size_eq]; exact h0))))
  have h0' : (s.size : Int) < 1 := by omega
  go_enter Tryz.func79, Tryz.ntmps79
  go_wp2_with fail
  go_ret
  exact ⟨-1, rfl, R.out, Below.refl _ _⟩
 by_cases h1 : 4 < s.size
 ·have R := Lib.hid (spells_not (v := -1) (not_len (l := s.data.toList) (.inr (by rw [← Lib.size_eq]; exact h1))))
  have h0' : ¬ (s.size : Int) < 1 := by omega
  have h1' : 4 < (s.size : Int) := by omega
  go_enter Tryz.func79, Tryz.ntmps79
  go_wp2_with fail
  go_ret
  exact ⟨-1, rfl, R.out, Below.refl _ _⟩
 have h0' : ¬ (s.size : Int) < 1 := by omega
 have h1' : ¬ 4 < (s.size : Int) := by omega
 go_enter Tryz.func79, Tryz.ntmps79
 go_wp2_with fail
 go_loop [3, 4] (fun x i => ∃ (k : Nat) (a : Int), k ≤ s.size ∧ i = .int .i64 k ∧ x = .int .i64 a ∧ 0 ≤ a ∧ a ≤ 9999 ∧ Hid (a = (val 0 (s.data.toList.take k) : Int) ∧ (s.data.toList.take k).all dg = true)) (fun _ i => s.size - (intOf i).toNat)
 case atStart => exact ⟨0, 0, by omega, rfl, rfl, by omega, by omega, rfl, rfl⟩
 case round =>
  obtain ⟨k, a, hk, rfl, rfl, a0, a1, HA⟩ := hrel
  by_cases hlt : k < s.size
  ·have HM := Lib.hid (show s[k] ∈ s.data.toList from by show s.data[k] ∈ s.data.toList; simp)
   by_cases d0 : (s[k].toNat : Int) < 48
   ·have R := Lib.hid (spells_not (v := -1) (not_digit HM.out (decide_eq_false (by omega))))
    go_wp2
    go_ret
    exact ⟨-1, rfl, R.out, Below.refl _ _⟩
   by_cases d1 : 57 < (s[k].toNat : Int)
   ·have R := Lib.hid (spells_not (v := -1) (not_digit HM.out (decide_eq_false (by omega))))
    go_wp2
    go_ret
    exact ⟨-1, rfl, R.out, Below.refl _ _⟩
   have HS : Hid (a * 10 + ((s[k].toNat : Int) - 48) = (val 0 (s.data.toList.take (k + 1)) : Int) ∧ (s.data.toList.take (k + 1)).all dg = true) := by
    obtain ⟨e1, e2⟩ := HA.out
    have hd : dg s[k] = true := decide_eq_true (by omega)
    rw [ok.take_snoc s k hlt, val_snoc, List.all_append, e2]
    refine ⟨by rw [e1]; omega, by simp [hd]⟩
   have hb : a * 10 + ((s[k].toNat : Int) - 48) ≤ 9999 := by
    obtain ⟨e1, e2⟩ := HS.out
    have hv := val_lt _ e2
    have hp : 10 ^ (s.data.toList.take (k + 1)).length ≤ 10 ^ 4 := Nat.pow_le_pow_right (by omega) (by rw [List.length_take]; omega)
    rw [e1]
    have : (10 : Nat) ^ 4 = 10000 := by decide
    omega
   go_wp2
   go_round
   case rel => exact ⟨k + 1, _, by omega, by go_num, rfl, by omega, hb, HS⟩
   case measure => simp [intOf]; omega
  ·have HE : Hid (a = (val 0 s.data.toList : Int)) := by
    have := HA.out.1
    rwa [List.take_of_length_le (by rw [← Lib.size_eq]; omega)] at this
   have HD := Lib.hid (fun W => dec_any a a0 a1 W)
   by_cases hq : str (dl a) = s
   ·have R := Lib.hid (show Spells s.data.toList a by rw [HE.out]; exact spells_val)
    rw [hq] at HD
    clear HA
    go_wp2_with fail
    refine (HD.out _).mono ?_
    rintro e w2 ⟨rfl, hB⟩
    go_wp2
    go_ret
    exact ⟨a, rfl, R.out, hB⟩
   ·have R := Lib.hid (spells_not (v := -1) (not_val (l := s.data.toList) (fun e => hq (by rw [HE.out, e, str_data]))))
    have hne := toList_ne hq
    generalize str (dl a) = x at HD hne
    clear HA hq
    go_wp2_with fail
    refine (HD.out _).mono ?_
    rintro e w2 ⟨rfl, hB⟩
    go_wp2
    go_ret
    exact ⟨-1, rfl, R.out, hB⟩
end Go.Proofs.YtckicpnnclbkpaaGreatDoor.dc

namespace Go.Proofs.YtckicpnnclbkpaaGreatDoor.dc
open Go.ChangeShapes Go.WideShapes Go.ChangeAt Go.RowKit
open nb ok
theorem below_drewN' {B : Nat} {a w : World} (h : Below B a w) (n : Nat) : Below B a (w.drewN n) := ⟨h.os, h.tape, h.output, h.size, h.block⟩
theorem word_parts {s : ByteArray} {i : Nat} (hi : s.data.toList[i]? = some 32) (hb : ∀ k, k < i → s.data.toList[k]? ≠ some 32) :
  s.extract 0 i = str (word s.data.toList).1 ∧ s.extract (i + 1) s.size = str (word s.data.toList).2 := by
 rw [word_at hi hb, Lib.extract_eq, Lib.extract_eq]
 refine ⟨by simp [str], ?_⟩
 unfold str
 congr 2
 show List.take (s.size - (i + 1)) (List.drop (i + 1) s.data.toList) = _
 rw [List.take_of_length_le (by rw [List.length_drop, ← Lib.size_eq]; exact Nat.le_refl _)]
theorem word_whole {s : ByteArray} (h : ∀ k : Nat, s.data.toList[k]? ≠ some 32) : s = str (word s.data.toList).1 ∧ (⟨#[]⟩ : ByteArray) = str (word s.data.toList).2 := by
 rw [word_none h]
 exact ⟨(str_data s).symm, rfl⟩
def WordPost (w : World) (s : ByteArray) (e : Ending) (w' : World) : Prop := e = .returned (.tuple #[.string (str (word s.data.toList).1), .string (str (word s.data.toList).2)]) ∧ Below w.heap.size w w'
def CutPost (w : World) (s : ByteArray) (e : Ending) (w' : World) : Prop := ∃ b, e = .returned (.tuple #[.string (str (word s.data.toList).1), .string (str (word s.data.toList).2), .bool b]) ∧ Below w.heap.size w w'
theorem idx_any (s : ByteArray) (w : World) : Calls Tryz.prog 210 #[.string s, .string ⟨#[32]⟩] w fun e w' => e = .returned (.int .i64 (Lib.indexByte s.data.toList 32)) ∧ w = w' :=
 (Tryz.stringslite_Index_one s 32 w).mono fun _ _ ⟨a, b⟩ => ⟨a, b.symm⟩
theorem cut_inner (s : ByteArray) (hs : s.size ≤ 1048576) (w : World) :
  Calls Tryz.prog 186 #[.string s, .string ⟨#[32]⟩] w (CutPost w s) := by
 by_cases hneg : Lib.indexByte s.data.toList 32 < 0
 ·have e1 : Lib.indexByte s.data.toList 32 = -1 := by have := Lib.indexByte_ge s.data.toList 32; omega
  have HW := Lib.hid (word_whole (Lib.indexByte_none e1))
  have HI := Lib.hid (fun W => (idx_any s W))
  rw [e1] at HI
  clear hneg e1
  go_enter Tryz.func186, Tryz.ntmps186
  go_wp2_with ((go_at_call 210; refine (HI.out _).mono ?_; rintro e w' ⟨rfl, rfl⟩))
  go_ret3
  exact ⟨false, by rw [← HW.out.1, ← HW.out.2]; rfl, Below.refl _ _⟩
 ·obtain ⟨o, ho⟩ := Int.eq_ofNat_of_zero_le (Int.not_lt.1 hneg)
  obtain ⟨h1, h2⟩ := Lib.indexByte_some ho
  have HW := Lib.hid (word_parts h1 h2)
  have HI := Lib.hid (fun W => (idx_any s W))
  rw [ho] at HI
  have hlt : o < s.size := by have := (List.getElem?_eq_some_iff.1 h1).1; rwa [← Lib.size_eq] at this
  clear hneg ho h1 h2
  have b0 : (0 : Int) ≤ (o : Int) := by omega
  have b1 : (o : Int) ≤ (s.size : Int) := by omega
  have b2 : IntKind.i64.wrap ((o : Int) + 1) = (o : Int) + 1 := by rw [IntKind.wrap_i64]; omega
  have b3 : (0 : Int) ≤ (o : Int) + 1 := by omega
  have b4 : (o : Int) + 1 ≤ (s.size : Int) := by omega
  have b5 : ((o : Int) + 1).toNat = o + 1 := by omega
  go_enter Tryz.func186, Tryz.ntmps186
  go_wp2_with ((go_at_call 210; refine (HI.out _).mono ?_; rintro e w' ⟨rfl, rfl⟩))
  go_quiet (fail)
  go_wp2
  go_ret3
  exact ⟨true, by rw [← HW.out.1, ← HW.out.2]; rfl, below_drewN' (Below.refl _ _) _⟩
theorem cut_any (s : ByteArray) (hs : s.size ≤ 1048576) (w : World) :
  Calls Tryz.prog 158 #[.string s, .string ⟨#[32]⟩] w (CutPost w s) := by
 have H := Lib.hid (fun W => cut_inner s hs W)
 go_enter Tryz.func158, Tryz.ntmps158
 go_wp2_with fail
 refine (H.out _).mono ?_
 rintro e w1 ⟨b, rfl, hB⟩
 go_wp2
 go_ret3
 exact ⟨b, rfl, hB⟩
theorem sword_any (s : ByteArray) (hs : s.size ≤ 1048576) (w : World) :
  Calls Tryz.prog 109 #[.string s] w (WordPost w s) := by
 go_enter Tryz.func109, Tryz.ntmps109
 go_wp2
 go_loop [4] (fun i => ∃ k : Nat, k ≤ s.size ∧ i = .int .i64 k ∧ Hid (∀ j, j < k → s.data.toList[j]? ≠ some 32)) (fun i => s.size - (intOf i).toNat)
 case atStart => exact ⟨0, by omega, rfl, fun j hj => absurd hj (by omega)⟩
 case round =>
  obtain ⟨k, hk, rfl, HA⟩ := hrel
  by_cases hlt : k < s.size
  ·have hat : s.data.toList[k]? = some s[k] := by rw [List.getElem?_eq_getElem (by rw [← Lib.size_eq]; exact hlt)]; rfl
   by_cases hc : s[k] = 32
   ·have HW := Lib.hid (word_parts (hat.trans (by rw [hc])) HA.out)
    have hcv : ((s[k].toNat : Int) == 32) = true := by rw [hc]; rfl
    have b0 : (0 : Int) ≤ (k : Int) := by omega
    have b1 : (k : Int) ≤ (s.size : Int) := by omega
    have b2 : IntKind.i64.wrap ((k : Int) + 1) = (k : Int) + 1 := by rw [IntKind.wrap_i64]; omega
    have b3 : (0 : Int) ≤ (k : Int) + 1 := by omega
    have b4 : (k : Int) + 1 ≤ (s.size : Int) := by omega
    have b5 : ((k : Int) + 1).toNat = k + 1 := by omega
    clear hat hc
    go_wp2
    go_quiet (fail)
    go_wp2
    go_ret2
    exact ⟨by rw [← HW.out.1, ← HW.out.2]; rfl, below_drewN' (Below.refl _ _) _⟩
   ·have R : Hid (∀ j, j < k + 1 → s.data.toList[j]? ≠ some 32) := fun j hj => by
     by_cases e : j = k
     ·subst e; rw [hat]; intro h; exact hc (Option.some.inj h)
     ·exact HA.out j (by omega)
    have hcv : ((s[k].toNat : Int) == 32) = false := by
     rw [beq_eq_false_iff_ne]
     intro e
     apply hc
     apply UInt8.toNat_inj.1
     have : s[k].toNat = 32 := by omega
     rw [this]; rfl
    clear hat hc
    go_wp2
    go_round
    case rel => exact ⟨k + 1, by omega, by go_num, R⟩
    case measure => simp [intOf]; omega
  ·have HW := Lib.hid (word_whole (s := s) (fun j e => by
    by_cases hj : j < k
    ·exact HA.out j hj e
    ·have := (List.getElem?_eq_some_iff.1 e).1
     rw [← Lib.size_eq] at this
     omega))
   go_wp2
   go_ret2
   exact ⟨by rw [← HW.out.1, ← HW.out.2]; rfl, Below.refl _ _⟩
end Go.Proofs.YtckicpnnclbkpaaGreatDoor.dc

namespace Go.Proofs.YtckicpnnclbkpaaGreatDoor.dc
open Go.ChangeShapes Go.WideShapes Go.ChangeAt Go.RowKit
open nb ok wd
theorem infoInt : (Tryz.prog.info? 3).map (fun i => (i.zero, i.size, i.bytes)) = some (some (.int .i64 0), 1, 8) := by kernel_rfl
def iv (l : List Int) : List Value := l.map (Value.int .i64)
theorem iv_snoc (l : List Int) (x : Int) : iv l ++ [.int .i64 x] = iv (l ++ [x]) := by simp [iv]
theorem iv_len (l : List Int) : (iv l).length = l.length := by simp [iv]
def NumsPost (w : World) (l : List UInt8) (e : Ending) (w' : World) : Prop :=
 ∃ (v : Value) (vs : List Int) (r : List UInt8), e = .returned (.tuple #[v, .string (str r)]) ∧ vs.length = 4 ∧ ow.Own 3 w w' v (iv vs) ∧ Inv l 4 vs r ∧ r.length ≤ l.length
set_option maxRecDepth 100000 in
set_option maxHeartbeats 1600000 in
theorem nums_any (s : ByteArray) (hs : s.size ≤ 1048576) (w : World) :
  Calls Tryz.prog 115 #[.string s, .int .i64 4] w (NumsPost w s.data.toList) := by
 obtain ⟨i0, hi, hz0, hz1, hz2⟩ := info_parts infoInt
 have hsz := Lib.hid (Lib.size_eq s)
 go_enter Tryz.func115, Tryz.ntmps115
 go_wp2
 go_loopw [0, 6, 7] (fun sv ov i wr => ∃ (k : Nat) (vs : List Int) (r : List UInt8), k ≤ 4 ∧ Hid (vs.length = k) ∧ i = .int .i64 k ∧ sv = .string (str r) ∧ ow.Own 3 w wr ov (iv vs) ∧ Hid (Inv s.data.toList k vs r) ∧ r.length ≤ s.size) (fun _ _ i _ => 4 - (intOf i).toNat)
 case atStart => exact ⟨0, [], s.data.toList, by omega, rfl, rfl, by rw [str_data], ow.Own.empty w, inv_start _, by rw [hsz.out]; exact Nat.le_refl _⟩
 case round =>
  obtain ⟨k, vs, r, hk, HL, rfl, rfl, hO, HI, hr⟩ := hrel
  have hbase := hO.2.size
  by_cases hk4 : k < 4
  ·have hwl := word_len r
   have HSt := Lib.hid (fun v (h : Spells (word r).1 v) => inv_step (v := v) hk4 HI.out h)
   have HW := Lib.hid (fun W => sword_any (str r) (by rw [str_size]; omega) W)
   have HD := Lib.hid (fun W => dec3_any (str (word r).1) (by rw [str_size]; omega) W)
   unfold WordPost at HW
   rw [data_str] at HW HD
   generalize word r = pq at HSt HW HD hwl
   obtain ⟨p, q⟩ := pq
   simp only at HSt HW HD hwl
   have hq : q.length ≤ s.size := by omega
   clear hwl HI
   go_wp2_with fail
   refine (HW.out _).mono ?_
   rintro e w1 ⟨rfl, hB1⟩
   have hO1 := hO.later hB1
   clear hO hB1 HW
   go_wp2_with fail
   refine (HD.out _).mono ?_
   rintro e w2 ⟨x, rfl, hsp, hB2⟩
   have hO2 := hO1.later hB2
   have HS := Lib.hid (HSt.out x hsp)
   have hlv : (iv vs).length ≤ 4 := by rw [iv_len, HL.out]; omega
   clear hO1 hB2 HD HSt hsp
   go_wp2_with (at_builtin; refine wpList_append_own _ rfl _ _ 160 rfl w.heap.size 3 i0 (.int .i64 0) 1 8 Tryz.underlying160 hi hz0 hz1 hz2 rfl (by decide) _ _ _ rfl (hO2.1.alloc _) ⟨w2.heap.size, 0, none⟩ 1 1 [.int .i64 x] rfl rfl ?c1 ?c2 ?c3 ?c4 ?c5 ?_)
   case c1 => exact cell_one_new _ _ _
   case c2 => intro y hy; simp at hy; subst hy; rfl
   case c3 => unfold maxLen; omega
   case c4 => omega
   case c5 => have := hO2.2.size; simp; omega
   intro v1 w3 hown1 hgrow1 _
   have R := hO2.more hown1 hgrow1
   rw [iv_snoc] at R
   have HR := Lib.hid R
   clear hown1 hgrow1 hO2 R
   go_wp2
   go_roundw
   case rel => exact ⟨k + 1, vs ++ [x], q, by omega, by show (vs ++ [x]).length = k + 1; rw [List.length_append, HL.out]; rfl, by go_num, rfl, HR.out, HS.out, hq⟩
   case measure => simp [intOf]; omega
  ·obtain rfl : k = 4 := by omega
   have H4 : Hid (r.length ≤ s.data.toList.length) := by show _ ≤ _; rw [← hsz.out]; exact hr
   go_wp2
   go_ret2
   exact ⟨_, vs, r, rfl, HL.out, hO, HI.out, H4.out⟩
end Go.Proofs.YtckicpnnclbkpaaGreatDoor.dc

