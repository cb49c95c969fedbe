/-
  Merged texts: KeepHeld, KeepLaw.
-/
import Derived.Test.YtjmmojjjopjdpaaGreatDoorGFnKeepOf19
import Derived.Test.YtjmmojjjopjdpaaGreatDoorGFnKeepOf10
/-
  Contracts of the laws' own helpers: markKeep, heldNoteS, heldMarkS, heldKeep: marks that were written are found again.
-/
namespace Go.Proofs.YtjmmojjjopjdpaaGreatDoor.kp
open Go.ChangeShapes Go.WideShapes Go.ChangeAt Go.RowKit
open Go.Proofs.YtjmmojjjopjdpaaGreatDoor.wd Go.Proofs.YtjmmojjjopjdpaaGreatDoor.ow Go.Proofs.YtjmmojjjopjdpaaGreatDoor.rl Go.Proofs.YtjmmojjjopjdpaaGreatDoor.ok Go.Proofs.YtjmmojjjopjdpaaGreatDoor.sl

def FoundPost (w : World) (y : Int) (e : Ending) (w' : World) : Prop := e = .returned (.int .i64 y) ∧ Below w.heap.size w w'

set_option maxRecDepth 100000 in
set_option maxHeartbeats 1600000 in
theorem heldN_any (w : World) (v : Value) (x : Int) (n : Nat) (h : SeesN w v (ntMs x n)) (hx : 1 ≤ x) (hn : x + 5 * n < 100000000) :
    Calls Tryz.prog 73 #[v, .int .i64 x] w (FoundPost w (x + 5 * n)) := by
  have HS := Lib.hid h
  obtain ⟨A, c, rfl, _⟩ := h
  have HL := Lib.hid (ntMs_len x n)
  rw [ntMs_len]
  go_enter Tryz.func73, Tryz.ntmps73
  go_wp2
  go_loopw [1, 5] (fun a i wr => ∃ (j : Nat) (y : Int), j ≤ n ∧ i = .int .i64 j ∧ a = .int .i64 y ∧ Hid (y = x + 5 * j) ∧ 1 ≤ y ∧ y + 5 * (n - j : Nat) < 100000000 ∧ Below w.heap.size w wr) (fun _ i _ => (n + 1 : Nat) - (intOf i).toNat)
  case atStart => exact ⟨0, x, by omega, rfl, rfl, by show x = x + 5 * ((0 : Nat) : Int); omega, hx, by omega, Below.refl _ _⟩
  case round =>
    obtain ⟨j, y, hj, rfl, rfl, HY, y0, y1, hB⟩ := hrel
    by_cases hjn : j < n
    · have ha : (ntMs x n)[j]? = some (ntM y) := by rw [ntMs_at hjn, HY.out]
      obtain ⟨g, c', e, hg, _, t0, t1, t2, t3, t4⟩ := note_at (HS.out.later hB) ha
      rw [HL.out] at e
      injection e with e1 e2 e3
      subst e1; subst e3
      change wr.cell? ⟨g, j * 5, none⟩ = some (.int .i64 y) at t0
      change wr.cell? ⟨g, j * 5 + 1, none⟩ = some (.int .i64 (y + 1)) at t1
      change wr.cell? ⟨g, j * 5 + 2, none⟩ = some (.int .i64 (y + 1 + 1)) at t2
      change wr.cell? ⟨g, j * 5 + 3, none⟩ = some (.int .i64 (y + 1 + 1 + 1)) at t3
      change wr.cell? ⟨g, j * 5 + 4, none⟩ = some (.string (mt (y + 1 + 1 + 1 + 1).toNat)) at t4
      have hj0 : (0 : Int) ≤ (j : Int) := by omega
      have hj1 : (j : Int) < (n : Int) := by omega
      have hz := hB.size
      have HY2 := Lib.hid (show y + 1 + 1 + 1 + 1 + 1 = x + 5 * ((j + 1 : Nat) : Int) by have := HY.out; omega)
      have HM := Lib.hid (fun V => mark_int (y + 1 + 1 + 1 + 1) (by omega) (by omega) V)
      clear ha
      generalize mt (y + 1 + 1 + 1 + 1).toNat = txt at t4 HM
      go_wp2_with fail
      go_region_held3 (fun w' => w'.cell? ⟨g, j * 5 + 4, none⟩ = some (.string txt)) (first | exact t4 | exact s1 | go_keep) ((go_at_call 139; refine (HM.out _).mono ?_; rintro e w2 ⟨rfl, hB2⟩; have s1 := (hB2.cell (p := ⟨g, j * 5 + 4, none⟩) hg).trans t4))
      have hB3 : Below w.heap.size w w2 := hB.trans (Below.mono ⟨hB2.os, hB2.tape, hB2.output, hB2.size, hB2.block⟩ hz)
      clear hB2 s1 t0 t1 t2 t3 t4
      go_wp2
      go_roundw
      case rel => exact ⟨j + 1, y + 1 + 1 + 1 + 1 + 1, by omega, by go_num, rfl, HY2.out, by omega, by omega, hB3⟩
      case measure => simp [intOf]; omega
    · obtain rfl : j = n := by omega
      go_wp2
      go_ret
      exact ⟨ow.ret_int HY.out, hB⟩

set_option maxRecDepth 100000 in
set_option maxHeartbeats 1600000 in
theorem heldM_any (w : World) (v : Value) (x : Int) (n : Nat) (h : SeesMk w v (mkMs x n)) (hx : 1 ≤ x) (hn : x + 3 * n < 100000000) :
    Calls Tryz.prog 74 #[v, .int .i64 x] w (FoundPost w (x + 3 * n)) := by
  have HS := Lib.hid h
  obtain ⟨A, c, rfl, _⟩ := h
  have HL := Lib.hid (mkMs_len x n)
  rw [mkMs_len]
  go_enter Tryz.func74, Tryz.ntmps74
  go_wp2
  go_loopw [1, 5] (fun a i wr => ∃ (j : Nat) (y : Int), j ≤ n ∧ i = .int .i64 j ∧ a = .int .i64 y ∧ Hid (y = x + 3 * j) ∧ 1 ≤ y ∧ y + 3 * (n - j : Nat) < 100000000 ∧ Below w.heap.size w wr) (fun _ i _ => (n + 1 : Nat) - (intOf i).toNat)
  case atStart => exact ⟨0, x, by omega, rfl, rfl, by show x = x + 3 * ((0 : Nat) : Int); omega, hx, by omega, Below.refl _ _⟩
  case round =>
    obtain ⟨j, y, hj, rfl, rfl, HY, y0, y1, hB⟩ := hrel
    by_cases hjn : j < n
    · have ha : (mkMs x n)[j]? = some (mkM y) := by rw [mkMs_at hjn, HY.out]
      obtain ⟨g, c', e, hg, _, t0, t1, t2⟩ := mark_at (HS.out.later hB) ha
      rw [HL.out] at e
      injection e with e1 e2 e3
      subst e1; subst e3
      change wr.cell? ⟨g, j * 3, none⟩ = some (.int .i64 y) at t0
      change wr.cell? ⟨g, j * 3 + 1, none⟩ = some (.int .i64 (y + 1)) at t1
      change wr.cell? ⟨g, j * 3 + 2, none⟩ = some (.int .i64 (y + 1 + 1)) at t2
      have hj0 : (0 : Int) ≤ (j : Int) := by omega
      have hj1 : (j : Int) < (n : Int) := by omega
      have HY2 := Lib.hid (show y + 1 + 1 + 1 = x + 3 * ((j + 1 : Nat) : Int) by have := HY.out; omega)
      clear ha
      go_wp2
      go_roundw
      case rel => exact ⟨j + 1, y + 1 + 1 + 1, by omega, by go_num, rfl, HY2.out, by omega, by omega, hB⟩
      case measure => simp [intOf]; omega
    · obtain rfl : j = n := by omega
      go_wp2
      go_ret
      exact ⟨ow.ret_int HY.out, hB⟩

/-- what marks a keep of these lengths -/
def kM (x : Int) (h m i : Nat) : Kp := ⟨0, 0, 0, ntMs x h, mkMs (x + 5 * h) m, ntMs (x + 5 * h + 3 * m) i⟩
def kN (x : Int) (h m i : Nat) : Int := x + 5 * h + 3 * m + 5 * i

set_option maxRecDepth 100000 in
set_option maxHeartbeats 1600000 in
theorem heldK_any (w : World) (a b c : Value) (p q r x : Int) (h m i : Nat) (hS : SeesK w (kM x h m i) a b c) (hx : 1 ≤ x) (hn : x + 5 * h + 3 * m + 5 * i < 100000000) :
    Calls Tryz.prog 28 #[kpV p q r a b c, .int .i64 x] w (FoundPost w (kN x h m i)) := by
  have k1 := Blk.new w 29 #[.int .i64 p, .int .i64 q, .int .i64 r, a, b, c]
  have hB0 := (Below.refl w.heap.size w).alloc (Nat.le_refl _) (.cells #[.int .i64 p, .int .i64 q, .int .i64 r, a, b, c] 29)
  have HS := Lib.hid hS
  have H1 := Lib.hid (fun V (hV : Below w.heap.size w V) => heldN_any V a x h (hS.held.later hV) hx (by omega))
  have H2 := Lib.hid (fun V (hV : Below w.heap.size w V) => heldM_any V b (x + 5 * h) m (hS.marks.later hV) (by omega) (by omega))
  have H3 := Lib.hid (fun V (hV : Below w.heap.size w V) => heldN_any V c (x + 5 * h + 3 * m) i (hS.inbox.later hV) (by omega) (by omega))
  have HN := Lib.hid (show kN x h m i = x + 5 * h + 3 * m + 5 * i from rfl)
  obtain ⟨y1, e1⟩ : ∃ y, y = x + 5 * (h : Int) := ⟨_, rfl⟩
  obtain ⟨y2, e2⟩ : ∃ y, y = x + 5 * (h : Int) + 3 * m := ⟨_, rfl⟩
  obtain ⟨y3, e3⟩ : ∃ y, y = x + 5 * (h : Int) + 3 * m + 5 * i := ⟨_, rfl⟩
  have b1 : 1 ≤ y1 := by omega
  have b2 : 1 ≤ y2 := by omega
  have b3 : 1 ≤ y3 := by omega
  rw [← e3] at H3 HN
  rw [← e2] at H2 H3
  rw [← e1] at H1 H2
  clear e1 e2 e3 hS
  rw [HN.out]
  clear HN
  go_enter Tryz.func28, Tryz.ntmps28
  go_wp2_with fail
  generalize w.heap.size = R at k1 ⊢
  generalize w.alloc (.cells #[.int .i64 p, .int .i64 q, .int .i64 r, a, b, c] 29) = V at k1 hB0 ⊢
  refine (H1.out _ hB0).mono ?_
  rintro e w1 ⟨rfl, hB1⟩
  have k2 := k1.below hB1 k1.lt
  have hB2 := hB0.trans (hB1.mono hB0.size)
  have d1 := k2.cell 4
  simp only [List.getElem?_toArray, List.getElem?_cons_zero, List.getElem?_cons_succ] at d1
  have n1 : ¬ y1 < 0 := by omega
  clear k1 hB0 hB1
  go_wp2_with fail
  refine (H2.out _ hB2).mono ?_
  rintro e w2 ⟨rfl, hB3⟩
  have k3 := k2.below hB3 k2.lt
  have hB4 := hB2.trans (hB3.mono hB2.size)
  clear d1
  have d2 := k3.cell 5
  simp only [List.getElem?_toArray, List.getElem?_cons_zero, List.getElem?_cons_succ] at d2
  have n2 : ¬ y2 < 0 := by omega
  clear k2 hB2 hB3
  go_wp2_with fail
  refine (H3.out _ hB4).mono ?_
  rintro e w3 ⟨rfl, hB5⟩
  have hB6 := hB4.trans (hB5.mono hB4.size)
  have n3 : ¬ y3 < 0 := by omega
  clear d2 k3 hB4 hB5
  go_wp2
  go_ret
  exact ⟨rfl, hB6⟩

/-- nothing old has turned but the three lists -/
structure Marked (w w' : World) (a b c : Value) : Prop where
  os : w'.os = w.os
  tape : w'.tape = w.tape
  output : w'.output = w.output
  size : w.heap.size ≤ w'.heap.size
  block : ∀ k, k < w.heap.size → a.ownBlock ≠ some k → b.ownBlock ≠ some k → c.ownBlock ≠ some k → w'.heap[k]? = w.heap[k]?
/-- three lists of the call's own, apart -/
structure Own3 (B : Nat) (W : World) (k : Kp) (a b c : Value) : Prop where
  held : OwnAt ntS 131 B W a k.held
  marks : OwnAt mkS 164 B W b k.marks
  inbox : OwnAt ntS 131 B W c k.inbox
  hm : Apart a b
  hi : Apart a c
  mi : Apart b c
theorem OwnK.three {w0 w : World} {k : Kp} {a b c : Value} (h : OwnK w0 w k a b c) : Own3 w0.heap.size w k a b c := ⟨h.held.1, h.marks.1, h.inbox.1, h.hm, h.hi, h.mi⟩
theorem Own3.sees {B : Nat} {W : World} {k : Kp} {a b c : Value} (h : Own3 B W k a b c) : SeesK W k a b c := ⟨h.held.sees, h.marks.sees, h.inbox.sees⟩

def MarkedPost (w : World) (B : Nat) (x : Int) (h m i : Nat) (a b c : Value) (e : Ending) (w' : World) : Prop := e = .returned (.int .i64 (kN x h m i)) ∧ Own3 B w' (kM x h m i) a b c ∧ Marked w w' a b c

set_option maxRecDepth 100000 in
set_option maxHeartbeats 1600000 in
theorem markK_any (w : World) (B : Nat) (k : Kp) (a b c : Value) (p q r x : Int) (hO : Own3 B w k a b c) (hx : 1 ≤ x) (hn : x + 5 * k.held.length + 3 * k.marks.length + 5 * k.inbox.length < 100000000) :
    Calls Tryz.prog 27 #[kpV p q r a b c, .int .i64 x] w (MarkedPost w B x k.held.length k.marks.length k.inbox.length a b c) := by
  have k1 := Blk.new w 29 #[.int .i64 p, .int .i64 q, .int .i64 r, a, b, c]
  have hB0 := (Below.refl w.heap.size w).alloc (Nat.le_refl _) (.cells #[.int .i64 p, .int .i64 q, .int .i64 r, a, b, c] 29)
  obtain ⟨h, eh⟩ : ∃ h, h = k.held.length := ⟨_, rfl⟩
  obtain ⟨m, em⟩ : ∃ m, m = k.marks.length := ⟨_, rfl⟩
  obtain ⟨i, ei⟩ : ∃ i, i = k.inbox.length := ⟨_, rfl⟩
  rw [← eh, ← em, ← ei] at hn ⊢
  have H1 := Lib.hid (fun V (hV : OwnAt ntS 131 B V a k.held) => markN_any hV x hx (by omega))
  have H2 := Lib.hid (fun V (hV : OwnAt mkS 164 B V b k.marks) => markM_any hV (x + 5 * h) (by omega) (by omega))
  have H3 := Lib.hid (fun V (hV : OwnAt ntS 131 B V c k.inbox) => markN_any hV (x + 5 * h + 3 * m) (by omega) (by omega))
  rw [← eh] at H1
  rw [← em] at H2
  rw [← ei] at H3
  have HN := Lib.hid (show kN x h m i = x + 5 * h + 3 * m + 5 * i from rfl)
  have HK := Lib.hid (fun W (p1 : OwnAt ntS 131 B W a (ntMs x h)) (p2 : OwnAt mkS 164 B W b (mkMs (x + 5 * h) m)) (p3 : OwnAt ntS 131 B W c (ntMs (x + 5 * h + 3 * m) i)) => show Own3 B W (kM x h m i) a b c from ⟨p1, p2, p3, hO.hm, hO.hi, hO.mi⟩)
  unfold MarkedN at H1 H3
  unfold MarkedM at H2
  obtain ⟨y1, e1⟩ : ∃ y, y = x + 5 * (h : Int) := ⟨_, rfl⟩
  obtain ⟨y2, e2⟩ : ∃ y, y = x + 5 * (h : Int) + 3 * m := ⟨_, rfl⟩
  obtain ⟨y3, e3⟩ : ∃ y, y = x + 5 * (h : Int) + 3 * m + 5 * i := ⟨_, rfl⟩
  rw [← e3] at H3 HN
  rw [← e2] at H2 H3 HK
  rw [← e1] at H1 H2 HK
  have HO := Lib.hid hO
  clear e1 e2 e3 eh em ei hO
  unfold MarkedPost
  rw [HN.out]
  clear HN hn
  generalize ntMs x h = l1 at H1 HK
  generalize mkMs y1 m = l2 at H2 HK
  generalize ntMs y2 i = l3 at H3 HK
  go_enter Tryz.func27, Tryz.ntmps27
  go_wp2_with fail
  have HR := Lib.hid (show w.heap.size ≤ w.heap.size from Nat.le_refl _)
  generalize hRR : w.heap.size = R at k1 HR ⊢
  have HRR := Lib.hid hRR
  clear hRR
  generalize w.alloc (.cells #[.int .i64 p, .int .i64 q, .int .i64 r, a, b, c] 29) = V at k1 hB0 ⊢
  refine (H1.out _ (HO.out.held.later hB0)).mono ?_
  rintro e w1 ⟨rfl, hA1, hG1⟩
  have k2 : Blk w1 R 29 #[.int .i64 p, .int .i64 q, .int .i64 r, a, b, c] := (hG1.block R k1.lt (fun e => by have := (HO.out.held.lt e.symm).2; rw [HRR.out] at this; omega)).trans k1
  have hb1 : OwnAt mkS 164 B w1 b k.marks := (HO.out.marks.later hB0).same (fun g hg => hG1.block g ((HO.out.marks.later hB0).lt hg).2 (fun e => HO.out.hm g e.symm hg))
  have hc1 : OwnAt ntS 131 B w1 c k.inbox := (HO.out.inbox.later hB0).same (fun g hg => hG1.block g ((HO.out.inbox.later hB0).lt hg).2 (fun e => HO.out.hi g e.symm hg))
  have d1 := k2.cell 4
  simp only [List.getElem?_toArray, List.getElem?_cons_zero, List.getElem?_cons_succ] at d1
  have HA1 := Lib.hid hA1
  have HG1 := Lib.hid hG1
  clear k1 hA1 hG1 H1
  go_wp2_with fail
  refine (H2.out _ hb1).mono ?_
  rintro e w2 ⟨rfl, hA2, hG2⟩
  have k3 : Blk w2 R 29 #[.int .i64 p, .int .i64 q, .int .i64 r, a, b, c] := (hG2.block R k2.lt (fun e => by have := (HO.out.marks.lt e.symm).2; rw [HRR.out] at this; omega)).trans k2
  have ha2 : OwnAt ntS 131 B w2 a l1 := HA1.out.same (fun g hg => hG2.block g (HA1.out.lt hg).2 (fun e => HO.out.hm g hg e.symm))
  have hc2 : OwnAt ntS 131 B w2 c k.inbox := hc1.same (fun g hg => hG2.block g (hc1.lt hg).2 (fun e => HO.out.mi g e.symm hg))
  clear d1
  have d2 := k3.cell 5
  simp only [List.getElem?_toArray, List.getElem?_cons_zero, List.getElem?_cons_succ] at d2
  have HA2 := Lib.hid hA2
  have HG2 := Lib.hid hG2
  clear k2 hA2 hG2 H2 hb1 hc1
  go_wp2_with fail
  refine (H3.out _ hc2).mono ?_
  rintro e w3 ⟨rfl, hA3, hG3⟩
  have ha3 : OwnAt ntS 131 B w3 a l1 := ha2.same (fun g hg => hG3.block g (ha2.lt hg).2 (fun e => HO.out.hi g hg e.symm))
  have hb3 : OwnAt mkS 164 B w3 b l2 := HA2.out.same (fun g hg => hG3.block g (HA2.out.lt hg).2 (fun e => HO.out.mi g hg e.symm))
  have HF := Lib.hid (HK.out _ ha3 hb3 hA3)
  have HG : Hid (Marked w w3 a b c) := ⟨hG3.os.trans (HG2.out.os.trans (HG1.out.os.trans hB0.os)), hG3.tape.trans (HG2.out.tape.trans (HG1.out.tape.trans hB0.tape)), hG3.output.trans (HG2.out.output.trans (HG1.out.output.trans hB0.output)), Nat.le_trans hB0.size (Nat.le_trans HG1.out.size (Nat.le_trans HG2.out.size hG3.size)), fun j hj na nb nc => by
    have j0 : j < V.heap.size := Nat.lt_of_lt_of_le hj hB0.size
    have j1 : j < w1.heap.size := Nat.lt_of_lt_of_le j0 HG1.out.size
    have j2 : j < w2.heap.size := Nat.lt_of_lt_of_le j1 HG2.out.size
    exact (hG3.block j j2 (fun e => nc e.symm)).trans ((HG2.out.block j j1 (fun e => nb e.symm)).trans ((HG1.out.block j j0 (fun e => na e.symm)).trans (hB0.block j hj)))⟩
  clear d2 k3 hA3 hG3 ha3 hb3 ha2 hc2
  go_wp2
  go_ret
  exact ⟨rfl, HF.out, HG.out⟩
end Go.Proofs.YtjmmojjjopjdpaaGreatDoor.kp

/-
  Words for the laws over what a keeper has: the lists of a keep that were written over by marks, beside the boxes of the law.
-/
namespace Go.Proofs.YtjmmojjjopjdpaaGreatDoor.kp
open Go.ChangeShapes Go.WideShapes Go.ChangeAt Go.RowKit
open Go.Proofs.YtjmmojjjopjdpaaGreatDoor.wd Go.Proofs.YtjmmojjjopjdpaaGreatDoor.ow Go.Proofs.YtjmmojjjopjdpaaGreatDoor.rl Go.Proofs.YtjmmojjjopjdpaaGreatDoor.ok Go.Proofs.YtjmmojjjopjdpaaGreatDoor.nb

section
variable {B R : Nat} {w w' W W' : World} {k k' : Kp} {a b c : Value}
theorem Own3.later (h : Own3 B W k a b c) (hb : Below W.heap.size W W') : Own3 B W' k a b c := ⟨h.held.later hb, h.marks.later hb, h.inbox.later hb, h.hm, h.hi, h.mi⟩
theorem Marked.below (h : Marked w w' a b c) (hO : Own3 B w k a b c) (hB : B ≤ w.heap.size) : Below B w w' :=
  ⟨h.os, h.tape, h.output, h.size, fun j hj => h.block j (by omega) (fun e => by have := (hO.held.lt e).1; omega) (fun e => by have := (hO.marks.lt e).1; omega) (fun e => by have := (hO.inbox.lt e).1; omega)⟩
/-- no list of the call's own lies at R -/
def Off (R : Nat) (a b c : Value) : Prop := a.ownBlock ≠ some R ∧ b.ownBlock ≠ some R ∧ c.ownBlock ≠ some R
theorem OwnK.off (h : OwnK w W k a b c) (hR : W.heap.size ≤ R) : Off R a b c :=
  ⟨fun e => by have := (h.held.lt e).2; omega, fun e => by have := (h.marks.lt e).2; omega, fun e => by have := (h.inbox.lt e).2; omega⟩
theorem OwnK.off' (h : OwnK w W k a b c) (hR : R < w.heap.size) : Off R a b c :=
  ⟨fun e => by have := (h.held.lt e).1; omega, fun e => by have := (h.marks.lt e).1; omega, fun e => by have := (h.inbox.lt e).1; omega⟩
theorem Marked.blk {t : TypeId} {cs : Array Value} (h : Marked w w' a b c) (hR : Blk w R t cs) (hf : Off R a b c) : Blk w' R t cs := (h.block R hR.lt hf.1 hf.2.1 hf.2.2).trans hR
/-- the box of a keep -/
abbrev KBox (W : World) (R : Nat) (k : Kp) (a b c : Value) : Prop := Blk W R 29 #[.int .i64 k.id, .int .i64 k.time, .int .i64 k.next, a, b, c]
theorem KBox.cells (h : KBox W R k a b c) : W.cell? ⟨R, 0, none⟩ = some (.int .i64 k.id) ∧ W.cell? ⟨R, 1, none⟩ = some (.int .i64 k.time) ∧ W.cell? ⟨R, 2, none⟩ = some (.int .i64 k.next) ∧ W.cell? ⟨R, 3, none⟩ = some a ∧ W.cell? ⟨R, 4, none⟩ = some b ∧ W.cell? ⟨R, 5, none⟩ = some c :=
  ⟨h.cell 0, h.cell 1, h.cell 2, h.cell 3, h.cell 4, h.cell 5⟩
end
theorem start_few (id : Int) : (startK id).held.length = 0 ∧ (startK id).marks.length = 0 ∧ (startK id).inbox.length = 0 := by
  unfold startK; split <;> exact ⟨rfl, rfl, rfl⟩
end Go.Proofs.YtjmmojjjopjdpaaGreatDoor.kp

