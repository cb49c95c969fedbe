/-
  Merged texts: SFresh, STake, SStart, ReadPlain.
-/
import Derived.Test.YtckicpnnclbkpaaGreatDoorGFnExactKeeperOk11
import Derived.Test.YtckicpnnclbkpaaGreatDoorGFnExactKeeperOk8
import Derived.Test.YtckicpnnclbkpaaGreatDoorGFnExactKeeperOk1
import Derived.Deep.Cut
namespace Go.Proofs.YtckicpnnclbkpaaGreatDoor.kp
open Go.ChangeShapes Go.WideShapes Go.ChangeAt Go.RowKit
open wd ow rl ok nb
def fresh (k : Kp) (x : Nt) : Bool := okNt x && decide (k.time < x.u) && !hasN k.held x.f x.n && !hasM k.marks x.f x.n && !hasN k.inbox x.f x.n
theorem fresh_f {k : Kp} {x : Nt} (h : okNt x = false ∨ ¬ k.time < x.u ∨ hasN k.held x.f x.n = true ∨ hasM k.marks x.f x.n = true ∨ hasN k.inbox x.f x.n = true) : fresh k x = false := by
 unfold fresh
 rcases h with h | h | h | h | h
 ·simp [h]
 ·rw [decide_eq_false h]; simp
 ·simp [h]
 ·simp [h]
 ·simp [h]
theorem fresh_t {k : Kp} {x : Nt} (h1 : okNt x = true) (h2 : k.time < x.u) (h3 : hasN k.held x.f x.n = false) (h4 : hasM k.marks x.f x.n = false) (h5 : hasN k.inbox x.f x.n = false) : fresh k x = true := by
 unfold fresh
 rw [h1, decide_eq_true h2, h3, h4, h5]
 rfl
structure FB (w V : World) (k : Kp) (a b c : Value) (x : Nt) : Prop where
 box : Blk V w.heap.size 39 #[.int .i64 k.id, .int .i64 k.time, .int .i64 k.next, a, b, c]
 nt : Blk V (w.heap.size + 1) 105 #[.int .i64 x.f, .int .i64 x.n, .int .i64 x.t, .int .i64 x.u, .string x.s]
 bel : Below w.heap.size w V
section
variable {w V V' : World} {k : Kp} {a b c : Value} {x : Nt}
theorem FB.new (w : World) (k : Kp) (a b c : Value) (x : Nt) : FB w ((w.alloc (.cells #[.int .i64 k.id, .int .i64 k.time, .int .i64 k.next, a, b, c] 39)).alloc (.cells #[.int .i64 x.f, .int .i64 x.n, .int .i64 x.t, .int .i64 x.u, .string x.s] 105)) k a b c x := by
 have k1 := Blk.new (w.alloc (.cells #[.int .i64 k.id, .int .i64 k.time, .int .i64 k.next, a, b, c] 39)) 105 #[.int .i64 x.f, .int .i64 x.n, .int .i64 x.t, .int .i64 x.u, .string x.s]
 simp only [World.size_alloc] at k1
 exact ⟨(Blk.new w _ _).alloc _, k1, ((Below.refl _ w).alloc (Nat.le_refl _) _).alloc (by simp) _⟩
theorem FB.later (h : FB w V k a b c x) (hb : Below V.heap.size V V') : FB w V' k a b c x := ⟨h.box.below hb h.box.lt, h.nt.below hb h.nt.lt, h.bel.trans (hb.mono h.bel.size)⟩
theorem FB.cells (h : FB w V k a b c x) : V.cell? ⟨w.heap.size, 1, none⟩ = some (.int .i64 k.time) ∧ V.cell? ⟨w.heap.size, 3, none⟩ = some a ∧ V.cell? ⟨w.heap.size, 4, none⟩ = some b ∧ V.cell? ⟨w.heap.size, 5, none⟩ = some c := ⟨h.box.cell 1, h.box.cell 3, h.box.cell 4, h.box.cell 5⟩
end
set_option maxRecDepth 100000 in
set_option maxHeartbeats 1600000 in
theorem fresh_any (w : World) (k : Kp) (a b c : Value) (x : Nt) (h : SeesK w k a b c) (hl : k.held.length ≤ 1048576 ∧ k.marks.length ≤ 1048576 ∧ k.inbox.length ≤ 1048576) (hx : x.s.size ≤ maxLen) :
  Calls Tryz.prog 151 #[kpV k.id k.time k.next a b c, ntV x] w (BoolK w (fresh k x)) := by
 obtain ⟨hl1, hl2, hl3⟩ := hl
 have hT := FB.new w k a b c x
 have H1 := Lib.hid (fun V => ok.sok_any x.f x.n x.t x.u x.s V hx)
 have H2 := Lib.hid (fun V (hV : Below w.heap.size w V) => ixN_any V a k.held x.f x.n (h.held.later hV) hl1)
 have H3 := Lib.hid (fun V (hV : Below w.heap.size w V) => ixM_any V b k.marks x.f x.n (h.marks.later hV) hl2)
 have H4 := Lib.hid (fun V (hV : Below w.heap.size w V) => ixN_any V c k.inbox x.f x.n (h.inbox.later hV) hl3)
 unfold ok.BoolPost note at H1
 unfold IsI at H2 H3 H4
 unfold ntV note
 clear h
 go_enter Tryz.func151, Tryz.ntmps151
 go_wp2_with fail
 generalize (w.alloc (.cells #[.int .i64 k.id, .int .i64 k.time, .int .i64 k.next, a, b, c] 39)).alloc (.cells #[.int .i64 x.f, .int .i64 x.n, .int .i64 x.t, .int .i64 x.u, .string x.s] 105) = V at hT ⊢
 refine (H1.out _).mono ?_
 rintro e w1 ⟨rfl, hB1⟩
 have hT1 := hT.later hB1
 obtain ⟨c1, c3, c4, c5⟩ := hT1.cells
 obtain ⟨n0, n1, n2, n3, n4⟩ := nt_cells hT1.nt
 have HT := Lib.hid hT1
 clear hT hT1 hB1 H1
 cases hb : okNt x with
 | false =>
  have HR := Lib.hid (fresh_f (k := k) (.inl hb))
  unfold okNt at hb
  rw [hb]
  go_wp2
  go_ret
  exact ⟨nb.ret_bool HR.out.symm, HT.out.bel⟩
 | true =>
 have HB := Lib.hid hb
 unfold okNt at hb
 rw [hb]
 clear hb
 by_cases hu : k.time < x.u
 ·go_wp2_with fail
  with_reducible refine (H2.out _ HT.out.bel).mono ?_
  rintro e w2 ⟨rfl, rfl⟩
  rcases ixN_cases k.held x.f x.n with ⟨hm, hi⟩ | ⟨hm, i, y, hi, _, _, _⟩
  ·rw [hi]
   clear hi
   go_wp2_with fail
   with_reducible refine (H3.out _ HT.out.bel).mono ?_
   rintro e w2 ⟨rfl, rfl⟩
   rcases ixM_cases k.marks x.f x.n with ⟨hm2, hi⟩ | ⟨hm2, i, y, hi, _, _, _⟩
   ·rw [hi]
    clear hi
    go_wp2_with fail
    with_reducible refine (H4.out _ HT.out.bel).mono ?_
    rintro e w2 ⟨rfl, rfl⟩
    rcases ixN_cases k.inbox x.f x.n with ⟨hm3, hi⟩ | ⟨hm3, i, y, hi, _, _, _⟩
    ·have HR := Lib.hid (fresh_t HB.out hu hm hm2 hm3)
     rw [hi]
     clear hi
     go_wp2
     go_ret
     exact ⟨nb.ret_bool HR.out.symm, HT.out.bel⟩
    ·have HR := Lib.hid (fresh_f (k := k) (x := x) (.inr (.inr (.inr (.inr hm3)))))
     rw [hi]
     have i9 : ¬ ((i : Nat) : Int) < 0 := by omega
     clear hi
     go_wp2
     go_ret
     exact ⟨nb.ret_bool HR.out.symm, HT.out.bel⟩
   ·have HR := Lib.hid (fresh_f (k := k) (x := x) (.inr (.inr (.inr (.inl hm2)))))
    rw [hi]
    have i9 : ¬ ((i : Nat) : Int) < 0 := by omega
    clear hi
    go_wp2
    go_ret
    exact ⟨nb.ret_bool HR.out.symm, HT.out.bel⟩
  ·have HR := Lib.hid (fresh_f (k := k) (x := x) (.inr (.inr (.inl hm))))
   rw [hi]
   have i9 : ¬ ((i : Nat) : Int) < 0 := by omega
   clear hi
   go_wp2
   go_ret
   exact ⟨nb.ret_bool HR.out.symm, HT.out.bel⟩
 ·have HR := Lib.hid (fresh_f (k := k) (x := x) (.inr (.inl hu)))
  go_wp2
  go_ret
  exact ⟨nb.ret_bool HR.out.symm, HT.out.bel⟩
end Go.Proofs.YtckicpnnclbkpaaGreatDoor.kp

namespace Go.Proofs.YtckicpnnclbkpaaGreatDoor.kp
open Go.ChangeShapes Go.WideShapes Go.ChangeAt Go.RowKit
open wd ow rl ok nb
def takeS (k : Kp) (x : Nt) : Kp := if fresh k x then (if x.t = k.id then { k with inbox := putN k.inbox x, marks := putM k.marks ⟨x.f, x.n, x.u⟩ } else { k with held := putN k.held x }) else k
def takeB (k : Kp) (x : Nt) : Bool := fresh k x && decide (((takeS k x).held.length : Int) + ((takeS k x).marks.length : Int) ≤ 12)
def From (w : World) (v v0 : Value) : Prop := ∀ g, v.ownBlock = some g → w.heap.size ≤ g ∨ v0.ownBlock = some g
theorem From.refl (w : World) (v : Value) : From w v v := fun _ h => .inr h
theorem From.own {α : Type} {S : Shape α} {t : TypeId} {B : Nat} {w W : World} {v v0 : Value} {l : List α} (h : OwnAt S t B W v l) (hB : w.heap.size ≤ B) : From w v v0 := fun g hg => .inl (Nat.le_trans hB (World.ownsRow.lt h g hg).1)
structure OutK (w w' : World) (k : Kp) (a b c vh vm vi : Value) : Prop where
 sees : SeesK w' k vh vm vi
 bel : Below w.heap.size w w'
 fh : From w vh a
 fm : From w vm b
 fi : From w vi c
def ResK (w : World) (k : Kp) (b : Bool) (a0 b0 c0 : Value) (e : Ending) (w' : World) : Prop := ∃ vh vm vi, e = .returned (.tuple #[kpV k.id k.time k.next vh vm vi, .bool b]) ∧ OutK w w' k a0 b0 c0 vh vm vi
theorem putN_len (l : List Nt) (x : Nt) : (putN l x).length = l.length + 1 := putL_len _ _ _
theorem putM_len (l : List Mk) (x : Mk) : (putM l x).length = l.length + 1 := putL_len _ _ _
structure TB (w V : World) (k : Kp) (a b c : Value) (x : Nt) : Prop where
 box : Blk V w.heap.size 39 #[.int .i64 k.id, .int .i64 k.time, .int .i64 k.next, a, b, c]
 nt : Blk V (w.heap.size + 1) 105 #[.int .i64 x.f, .int .i64 x.n, .int .i64 x.t, .int .i64 x.u, .string x.s]
 res : Blk V (w.heap.size + 1 + 1) 39 #[.int .i64 0, .int .i64 0, .int .i64 0, .slice none 0 0, .slice none 0 0, .slice none 0 0]
 bel : Below w.heap.size w V
section
variable {w V V' : World} {k : Kp} {a b c : Value} {x : Nt}
theorem TB.new (w : World) (k : Kp) (a b c : Value) (x : Nt) : TB w (((w.alloc (.cells #[.int .i64 k.id, .int .i64 k.time, .int .i64 k.next, a, b, c] 39)).alloc (.cells #[.int .i64 x.f, .int .i64 x.n, .int .i64 x.t, .int .i64 x.u, .string x.s] 105)).alloc (.cells #[.int .i64 0, .int .i64 0, .int .i64 0, .slice none 0 0, .slice none 0 0, .slice none 0 0] 39)) k a b c x := by
 have k1 := Blk.new (w.alloc (.cells #[.int .i64 k.id, .int .i64 k.time, .int .i64 k.next, a, b, c] 39)) 105 #[.int .i64 x.f, .int .i64 x.n, .int .i64 x.t, .int .i64 x.u, .string x.s]
 have k2 := Blk.new ((w.alloc (.cells #[.int .i64 k.id, .int .i64 k.time, .int .i64 k.next, a, b, c] 39)).alloc (.cells #[.int .i64 x.f, .int .i64 x.n, .int .i64 x.t, .int .i64 x.u, .string x.s] 105)) 39 #[.int .i64 0, .int .i64 0, .int .i64 0, .slice none 0 0, .slice none 0 0, .slice none 0 0]
 simp only [World.size_alloc] at k1 k2
 exact ⟨((Blk.new w _ _).alloc _).alloc _, k1.alloc _, k2, (((Below.refl _ w).alloc (Nat.le_refl _) _).alloc (by simp) _).alloc (by simp; omega) _⟩
theorem TB.later (h : TB w V k a b c x) (hb : Below V.heap.size V V') : TB w V' k a b c x := ⟨h.box.below hb h.box.lt, h.nt.below hb h.nt.lt, h.res.below hb h.res.lt, h.bel.trans (hb.mono h.bel.size)⟩
theorem TB.put3 (h : TB w V k a b c x) (y : Value) : TB w (V.setCell ⟨w.heap.size, 3, none⟩ y) k y b c x := ⟨h.box.put 3 y, h.nt.far (p := ⟨w.heap.size, 3, none⟩) (by show w.heap.size + 1 ≠ w.heap.size; omega) _, h.res.far (p := ⟨w.heap.size, 3, none⟩) (by show w.heap.size + 1 + 1 ≠ w.heap.size; omega) _, h.bel.setCell (p := ⟨w.heap.size, 3, none⟩) (Nat.le_refl _) _⟩
theorem TB.put4 (h : TB w V k a b c x) (y : Value) : TB w (V.setCell ⟨w.heap.size, 4, none⟩ y) k a y c x := ⟨h.box.put 4 y, h.nt.far (p := ⟨w.heap.size, 4, none⟩) (by show w.heap.size + 1 ≠ w.heap.size; omega) _, h.res.far (p := ⟨w.heap.size, 4, none⟩) (by show w.heap.size + 1 + 1 ≠ w.heap.size; omega) _, h.bel.setCell (p := ⟨w.heap.size, 4, none⟩) (Nat.le_refl _) _⟩
theorem TB.put5 (h : TB w V k a b c x) (y : Value) : TB w (V.setCell ⟨w.heap.size, 5, none⟩ y) k a b y x := ⟨h.box.put 5 y, h.nt.far (p := ⟨w.heap.size, 5, none⟩) (by show w.heap.size + 1 ≠ w.heap.size; omega) _, h.res.far (p := ⟨w.heap.size, 5, none⟩) (by show w.heap.size + 1 + 1 ≠ w.heap.size; omega) _, h.bel.setCell (p := ⟨w.heap.size, 5, none⟩) (Nat.le_refl _) _⟩
end
theorem seesK_drew {W : World} {k : Kp} {a b c : Value} (h : SeesK W k a b c) : SeesK W.drew k a b c := ⟨h.held, h.marks, h.inbox⟩
set_option maxRecDepth 100000 in
set_option maxHeartbeats 1000000 in
theorem take_any (w : World) (k : Kp) (a b c : Value) (x : Nt) (h : SeesK w k a b c) (hl : k.held.length ≤ 1048576 ∧ k.marks.length ≤ 1048576 ∧ k.inbox.length ≤ 1048576) (hx : x.s.size ≤ maxLen) :
  Calls Tryz.prog 112 #[kpV k.id k.time k.next a b c, ntV x] w (ResK w (takeS k x) (takeB k x) a b c) := by
 have HS := Lib.hid h
 have hT := TB.new w k a b c x
 have H1 := Lib.hid (fun V (hV : Below w.heap.size w V) => fresh_any V k a b c x (h.later hV) hl hx)
 have H2 := Lib.hid (fun V (hV : Below w.heap.size w V) => putN_any V a k.held x (h.held.later hV) hl.1)
 have H3 := Lib.hid (fun V (hV : Below w.heap.size w V) => putN_any V c k.inbox x (h.inbox.later hV) hl.2.2)
 have H4 := Lib.hid (fun V (hV : Below w.heap.size w V) => putM_any V b k.marks ⟨x.f, x.n, x.u⟩ (h.marks.later hV) hl.2.1)
 unfold BoolK ntV note at H1
 unfold ListN ntV note at H2 H3
 unfold ListM mkV mark at H4
 have HL := Lib.hid hl
 obtain ⟨Aa, ca, rfl, _⟩ := h.held
 obtain ⟨Ab, cb, rfl, _⟩ := h.marks
 obtain ⟨Ac, cc, rfl, _⟩ := h.inbox
 unfold ntV note
 clear h hl
 go_enter Tryz.func112, Tryz.ntmps112
 go_wp2_with fail
 generalize ((w.alloc (.cells #[.int .i64 k.id, .int .i64 k.time, .int .i64 k.next, .slice Aa k.held.length ca, .slice Ab k.marks.length cb, .slice Ac k.inbox.length cc] 39)).alloc (.cells #[.int .i64 x.f, .int .i64 x.n, .int .i64 x.t, .int .i64 x.u, .string x.s] 105)).alloc (.cells #[.int .i64 0, .int .i64 0, .int .i64 0, .slice none 0 0, .slice none 0 0, .slice none 0 0] 39) = V at hT ⊢
 with_reducible refine (H1.out _ hT.bel).mono ?_
 rintro e w1 ⟨rfl, hB1⟩
 have HT := Lib.hid (hT.later hB1)
 clear hT hB1 H1
 obtain ⟨b0, b1, b2, b3, b4, b5, _, _, _, g3, g4, g5⟩ := res_cells HT.out.box
 obtain ⟨r0, r1, r2, r3, r4, r5, f0, f1, f2, f3, f4, f5⟩ := res_cells HT.out.res
 obtain ⟨n0, n1, n2, n3, n4⟩ := nt_cells HT.out.nt
 cases hf : fresh k x with
 | false =>
  have HE := Lib.hid (show takeS k x = k by unfold takeS; rw [hf]; rfl)
  have HB := Lib.hid (show takeB k x = false by unfold takeB; rw [hf]; rfl)
  have HC := Lib.hid (put6_blk (a' := .int .i64 k.id) (b' := .int .i64 k.time) (c' := .int .i64 k.next) (d' := .slice Aa k.held.length ca) (e' := .slice Ab k.marks.length cb) (f' := .slice Ac k.inbox.length cc) HT.out.res)
  have HD := Lib.hid (put6_below (B := w.heap.size) (R := w.heap.size + 1 + 1) (by omega) HT.out.bel (.int .i64 k.id) (.int .i64 k.time) (.int .i64 k.next) (.slice Aa k.held.length ca) (.slice Ab k.marks.length cb) (.slice Ac k.inbox.length cc))
  go_wp2
  have x0 := HC.out.cell 0
  have x1 := HC.out.cell 1
  have x2 := HC.out.cell 2
  have x3 := HC.out.cell 3
  have x4 := HC.out.cell 4
  have x5 := HC.out.cell 5
  refine bodyPost_ret (v := .tuple #[kpV k.id k.time k.next (.slice Aa k.held.length ca) (.slice Ab k.marks.length cb) (.slice Ac k.inbox.length cc), .bool false]) (by simp [results, Tryz.results112, go_sem, x0, x1, x2, x3, x4, x5]) rfl ⟨_, _, _, by rw [HE.out, HB.out], ?_, HD.out, From.refl _ _, From.refl _ _, From.refl _ _⟩
  rw [HE.out]
  exact HS.out.later HD.out
 | true =>
  by_cases ht : x.t = k.id
  ·have kt : (x.t != k.id) = false := by simpa using ht
   have HE := Lib.hid (show takeS k x = { k with inbox := putN k.inbox x, marks := putM k.marks ⟨x.f, x.n, x.u⟩ } by unfold takeS; rw [if_pos hf, if_pos ht])
   have HB := Lib.hid (show takeB k x = decide ((k.held.length : Int) + ((putM k.marks ⟨x.f, x.n, x.u⟩).length : Int) ≤ 12) by unfold takeB; rw [HE.out, hf, Bool.true_and])
   have hln : (putM k.marks ⟨x.f, x.n, x.u⟩).length ≤ 1048577 := by have := HL.out.2.1; rw [putM_len]; omega
   have hl2 := HL.out.1
   clear hf ht H2
   go_wp2_with fail
   with_reducible refine (H3.out _ HT.out.bel).mono ?_
   rintro e w2 ⟨vi, rfl, hO⟩
   obtain ⟨A1, c1, rfl⟩ := OwnR.form hO
   have hT2 := HT.out.later hO.2
   have hz1 := HT.out.res.lt
   have hzz1 := hO.2.size
   have O1 : OwnAt ntS 105 w1.heap.size w2 (.slice A1 (putN k.inbox x).length c1) ((putN k.inbox x)) := hO.1
   clear b0 b1 b2 b3 b4 b5 g3 g4 g5 r0 r1 r2 r3 r4 r5 f0 f1 f2 f3 f4 f5 n0 n1 n2 n3 n4 HT
   obtain ⟨b0, b1, b2, b3, b4, b5, _, _, _, g3, g4, g5⟩ := res_cells hT2.box
   have HTn := Lib.hid (hT2.put5 (.slice A1 (putN k.inbox x).length c1))
   have P1 := Lib.hid (OwnAt.set O1 (p := ⟨w.heap.size, 5, none⟩) (by show w.heap.size < w1.heap.size; omega) (.slice A1 (putN k.inbox x).length c1))
   clear hT2 O1
   clear hO H3
   obtain ⟨n1, hn1⟩ : ∃ n, n = (putN k.inbox x).length := ⟨_, rfl⟩
   rw [← hn1] at HTn P1 ⊢
   clear hn1
   go_upto_region 7 with (fail)
   clear b0 b1 b2 b3 b4 b5 g3 g4 g5
   have z2 : (w2.setCell ⟨w.heap.size, 5, none⟩ (.slice A1 n1 c1)).heap.size = w2.heap.size := by simp
   have HZ := Lib.hid z2
   clear z2
   generalize w2.setCell ⟨w.heap.size, 5, none⟩ (.slice A1 n1 c1) = V2 at HTn P1 HZ ⊢
   have HT := HTn
   clear HTn
   obtain ⟨b0, b1, b2, b3, b4, b5, _, _, _, g3, g4, g5⟩ := res_cells HT.out.box
   obtain ⟨r0, r1, r2, r3, r4, r5, f0, f1, f2, f3, f4, f5⟩ := res_cells HT.out.res
   obtain ⟨n0, n2, n3, n4, n5⟩ := nt_cells HT.out.nt
   go_wp2_with fail
   with_reducible refine (H4.out _ HT.out.bel).mono ?_
   rintro e w3 ⟨vm, rfl, hO⟩
   obtain ⟨A2, c2, rfl⟩ := OwnR.form hO
   have hT2 := HT.out.later hO.2
   have hz2 := HT.out.res.lt
   have hzz2 := hO.2.size
   have O2 : OwnAt mkS 108 V2.heap.size w3 (.slice A2 (putM k.marks ⟨x.f, x.n, x.u⟩).length c2) ((putM k.marks ⟨x.f, x.n, x.u⟩)) := hO.1
   clear b0 b1 b2 b3 b4 b5 g3 g4 g5 r0 r1 r2 r3 r4 r5 f0 f1 f2 f3 f4 f5 n0 n2 n3 n4 n5 HT
   obtain ⟨b0, b1, b2, b3, b4, b5, _, _, _, g3, g4, g5⟩ := res_cells hT2.box
   have HTn := Lib.hid (hT2.put4 (.slice A2 (putM k.marks ⟨x.f, x.n, x.u⟩).length c2))
   have P2 := Lib.hid (OwnAt.set O2 (p := ⟨w.heap.size, 4, none⟩) (by show w.heap.size < V2.heap.size; omega) (.slice A2 (putM k.marks ⟨x.f, x.n, x.u⟩).length c2))
   clear hT2 O2
   have Q1 := Lib.hid (OwnAt.set (OwnAt.later P1.out hO.2) (p := ⟨w.heap.size, 4, none⟩) (by show w.heap.size < w1.heap.size; omega) (.slice A2 (putM k.marks ⟨x.f, x.n, x.u⟩).length c2))
   clear hO H4 P1
   obtain ⟨n2, hn2⟩ : ∃ n, n = (putM k.marks ⟨x.f, x.n, x.u⟩).length := ⟨_, rfl⟩
   rw [← hn2] at HB hln HTn P2 Q1 ⊢
   clear hn2
   go_upto_region 8 with (fail)
   clear b0 b1 b2 b3 b4 b5 g3 g4 g5
   generalize w3.setCell ⟨w.heap.size, 4, none⟩ (.slice A2 n2 c2) = V3 at HTn P2 Q1 ⊢
   have HC := Lib.hid (put6_blk (V := V3) (a' := .int .i64 k.id) (b' := .int .i64 k.time) (c' := .int .i64 k.next) (d' := (.slice Aa k.held.length ca)) (e' := (.slice A2 n2 c2)) (f' := (.slice A1 n1 c1)) HTn.out.res)
   have HD0 := Lib.hid (put6_below (V := V3) (B := w.heap.size) (R := w.heap.size + 1 + 1) (by omega) HTn.out.bel (.int .i64 k.id) (.int .i64 k.time) (.int .i64 k.next) (.slice Aa k.held.length ca) (.slice A2 n2 c2) (.slice A1 n1 c1))
   have HD := Lib.hid HD0.out.drew
   obtain ⟨b0, b1, b2, b3, b4, b5, _, _, _, g3, g4, g5⟩ := res_cells HTn.out.box
   obtain ⟨r0, r1, r2, r3, r4, r5, f0, f1, f2, f3, f4, f5⟩ := res_cells HTn.out.res
   have HG := Lib.hid (seesK_drew (show SeesK (put6 V3 (w.heap.size + 1 + 1) (.int .i64 k.id) (.int .i64 k.time) (.int .i64 k.next) (.slice Aa k.held.length ca) (.slice A2 n2 c2) (.slice A1 n1 c1)) { k with inbox := putN k.inbox x, marks := putM k.marks ⟨x.f, x.n, x.u⟩ } (.slice Aa k.held.length ca) (.slice A2 n2 c2) (.slice A1 n1 c1) from ⟨HS.out.held.later HD0.out, OwnAt.sees (OwnAt.put6 (W := V3) P2.out (R := w.heap.size + 1 + 1) (by omega) _ _ _ _ _ _), OwnAt.sees (OwnAt.put6 (W := V3) Q1.out (R := w.heap.size + 1 + 1) (by omega) _ _ _ _ _ _)⟩))
   have HZZ := Lib.hid (show ResK w (takeS k x) (takeB k x) (.slice Aa k.held.length ca) (.slice Ab k.marks.length cb) (.slice Ac k.inbox.length cc) (.returned (.tuple #[kpV k.id k.time k.next (.slice Aa k.held.length ca) (.slice A2 n2 c2) (.slice A1 n1 c1), .bool (decide ((k.held.length : Int) + (n2 : Int) ≤ 12))])) (put6 V3 (w.heap.size + 1 + 1) (.int .i64 k.id) (.int .i64 k.time) (.int .i64 k.next) (.slice Aa k.held.length ca) (.slice A2 n2 c2) (.slice A1 n1 c1)).drew from by
    rw [HE.out, HB.out]
    exact ⟨(.slice Aa k.held.length ca), (.slice A2 n2 c2), (.slice A1 n1 c1), rfl, HG.out, HD.out, From.refl _ _, From.own P2.out (by omega), From.own Q1.out (by omega)⟩)
   have i0 : IntKind.i64.wrap ((k.held.length : Int) + (n2 : Int)) = (k.held.length : Int) + (n2 : Int) := by rw [IntKind.wrap_i64]; omega
   go_region
   clear i0
   go_wp2
   have x0 := HC.out.cell 0
   have x1 := HC.out.cell 1
   have x2 := HC.out.cell 2
   have x3 := HC.out.cell 3
   have x4 := HC.out.cell 4
   have x5 := HC.out.cell 5
   refine bodyPost_ret (v := .tuple #[kpV k.id k.time k.next (.slice Aa k.held.length ca) (.slice A2 n2 c2) (.slice A1 n1 c1), .bool (decide ((k.held.length : Int) + (n2 : Int) ≤ 12))]) (by simp [results, Tryz.results112, go_sem, x0, x1, x2, x3, x4, x5]) rfl HZZ.out
  ·have kt : (x.t != k.id) = true := by simpa using ht
   have HE := Lib.hid (show takeS k x = { k with held := putN k.held x } by unfold takeS; rw [if_pos hf, if_neg ht])
   have HB := Lib.hid (show takeB k x = decide (((putN k.held x).length : Int) + (k.marks.length : Int) ≤ 12) by unfold takeB; rw [HE.out, hf, Bool.true_and])
   have hln : (putN k.held x).length ≤ 1048577 := by have := HL.out.1; rw [putN_len]; omega
   have hl2 := HL.out.2.1
   clear hf ht
   go_wp2_with fail
   with_reducible refine (H2.out _ HT.out.bel).mono ?_
   rintro e w2 ⟨vh, rfl, hO⟩
   obtain ⟨A1, c1, rfl⟩ := OwnR.form hO
   have hT2 := HT.out.later hO.2
   have hz1 := HT.out.res.lt
   have hzz1 := hO.2.size
   have O1 : OwnAt ntS 105 w1.heap.size w2 (.slice A1 (putN k.held x).length c1) ((putN k.held x)) := hO.1
   clear b0 b1 b2 b3 b4 b5 g3 g4 g5 r0 r1 r2 r3 r4 r5 f0 f1 f2 f3 f4 f5 n0 n1 n2 n3 n4 HT
   obtain ⟨b0, b1, b2, b3, b4, b5, _, _, _, g3, g4, g5⟩ := res_cells hT2.box
   have HTn := Lib.hid (hT2.put3 (.slice A1 (putN k.held x).length c1))
   have P1 := Lib.hid (OwnAt.set O1 (p := ⟨w.heap.size, 3, none⟩) (by show w.heap.size < w1.heap.size; omega) (.slice A1 (putN k.held x).length c1))
   clear hT2 O1
   clear hO H2
   obtain ⟨n1, hn1⟩ : ∃ n, n = (putN k.held x).length := ⟨_, rfl⟩
   rw [← hn1] at HB hln HTn P1 ⊢
   clear hn1
   go_upto_region 5 with (fail)
   clear b0 b1 b2 b3 b4 b5 g3 g4 g5
   generalize w2.setCell ⟨w.heap.size, 3, none⟩ (.slice A1 n1 c1) = V2 at HTn P1 ⊢
   have HC := Lib.hid (put6_blk (V := V2) (a' := .int .i64 k.id) (b' := .int .i64 k.time) (c' := .int .i64 k.next) (d' := (.slice A1 n1 c1)) (e' := (.slice Ab k.marks.length cb)) (f' := (.slice Ac k.inbox.length cc)) HTn.out.res)
   have HD0 := Lib.hid (put6_below (V := V2) (B := w.heap.size) (R := w.heap.size + 1 + 1) (by omega) HTn.out.bel (.int .i64 k.id) (.int .i64 k.time) (.int .i64 k.next) (.slice A1 n1 c1) (.slice Ab k.marks.length cb) (.slice Ac k.inbox.length cc))
   have HD := Lib.hid HD0.out.drew
   obtain ⟨b0, b1, b2, b3, b4, b5, _, _, _, g3, g4, g5⟩ := res_cells HTn.out.box
   obtain ⟨r0, r1, r2, r3, r4, r5, f0, f1, f2, f3, f4, f5⟩ := res_cells HTn.out.res
   have HG := Lib.hid (seesK_drew (show SeesK (put6 V2 (w.heap.size + 1 + 1) (.int .i64 k.id) (.int .i64 k.time) (.int .i64 k.next) (.slice A1 n1 c1) (.slice Ab k.marks.length cb) (.slice Ac k.inbox.length cc)) { k with held := putN k.held x } (.slice A1 n1 c1) (.slice Ab k.marks.length cb) (.slice Ac k.inbox.length cc) from ⟨OwnAt.sees (OwnAt.put6 (W := V2) P1.out (R := w.heap.size + 1 + 1) (by omega) _ _ _ _ _ _), HS.out.marks.later HD0.out, HS.out.inbox.later HD0.out⟩))
   have HZZ := Lib.hid (show ResK w (takeS k x) (takeB k x) (.slice Aa k.held.length ca) (.slice Ab k.marks.length cb) (.slice Ac k.inbox.length cc) (.returned (.tuple #[kpV k.id k.time k.next (.slice A1 n1 c1) (.slice Ab k.marks.length cb) (.slice Ac k.inbox.length cc), .bool (decide ((n1 : Int) + (k.marks.length : Int) ≤ 12))])) (put6 V2 (w.heap.size + 1 + 1) (.int .i64 k.id) (.int .i64 k.time) (.int .i64 k.next) (.slice A1 n1 c1) (.slice Ab k.marks.length cb) (.slice Ac k.inbox.length cc)).drew from by
    rw [HE.out, HB.out]
    exact ⟨(.slice A1 n1 c1), (.slice Ab k.marks.length cb), (.slice Ac k.inbox.length cc), rfl, HG.out, HD.out, From.own P1.out (by omega), From.refl _ _, From.refl _ _⟩)
   have i0 : IntKind.i64.wrap ((n1 : Int) + (k.marks.length : Int)) = (n1 : Int) + (k.marks.length : Int) := by rw [IntKind.wrap_i64]; omega
   go_region
   clear i0
   go_wp2
   have x0 := HC.out.cell 0
   have x1 := HC.out.cell 1
   have x2 := HC.out.cell 2
   have x3 := HC.out.cell 3
   have x4 := HC.out.cell 4
   have x5 := HC.out.cell 5
   refine bodyPost_ret (v := .tuple #[kpV k.id k.time k.next (.slice A1 n1 c1) (.slice Ab k.marks.length cb) (.slice Ac k.inbox.length cc), .bool (decide ((n1 : Int) + (k.marks.length : Int) ≤ 12))]) (by simp [results, Tryz.results112, go_sem, x0, x1, x2, x3, x4, x5]) rfl HZZ.out
end Go.Proofs.YtckicpnnclbkpaaGreatDoor.kp

namespace Go.Proofs.YtckicpnnclbkpaaGreatDoor.kp
open Go.ChangeShapes Go.WideShapes Go.ChangeAt Go.RowKit
open wd ow rl ok nb
def zeroK : Kp := ⟨0, 0, 0, [], [], []⟩
def startK (id : Int) : Kp := if inB id 0 3 then ⟨id, 0, 1, [], [], []⟩ else zeroK
theorem nil_own {w W : World} {k : Kp} (hB : Below w.heap.size w W) (h1 : k.held = []) (h2 : k.marks = []) (h3 : k.inbox = []) : OwnK w W k (.slice none 0 0) (.slice none 0 0) (.slice none 0 0) := by
 refine ⟨⟨?_, hB⟩, ⟨?_, hB⟩, ⟨?_, hB⟩, (fun g e => by cases e), (fun g e => by cases e), (fun g e => by cases e)⟩
 ·rw [h1]; exact World.ownsRow_nil _ _ _ _
 ·rw [h2]; exact World.ownsRow_nil _ _ _ _
 ·rw [h3]; exact World.ownsRow_nil _ _ _ _
set_option maxRecDepth 100000 in
theorem start_any (id : Int) (w : World) : Calls Tryz.prog 58 #[.int .i64 id] w (KeepPost w (startK id)) := by
 have H1 := Lib.hid (fun V => keeper_any id V)
 cases hb : inB id 0 3 with
 | false =>
  have HE := Lib.hid (show startK id = zeroK by unfold startK; rw [hb]; rfl)
  rw [hb] at H1
  go_enter Tryz.func58, Tryz.ntmps58
  go_wp2_with fail
  refine (H1.out _).mono ?_
  rintro e w1 ⟨rfl, rfl⟩
  go_wp2
  refine bodyPost_ret (v := kpV 0 0 0 (.slice none 0 0) (.slice none 0 0) (.slice none 0 0)) (by simp [results, Tryz.results58, go_sem]) rfl ⟨_, _, _, by rw [HE.out]; rfl, ?_⟩
  rw [HE.out]
  exact nil_own ((Below.refl _ _).alloc (Nat.le_refl _) _) rfl rfl rfl
 | true =>
  have HE := Lib.hid (show startK id = ⟨id, 0, 1, [], [], []⟩ by unfold startK; rw [hb]; rfl)
  rw [hb] at H1
  go_enter Tryz.func58, Tryz.ntmps58
  go_wp2_with fail
  refine (H1.out _).mono ?_
  rintro e w1 ⟨rfl, rfl⟩
  go_wp2
  refine bodyPost_ret (v := kpV id 0 1 (.slice none 0 0) (.slice none 0 0) (.slice none 0 0)) (by simp [results, Tryz.results58, go_sem]) rfl ⟨_, _, _, by rw [HE.out], ?_⟩
  rw [HE.out]
  exact nil_own ((Below.refl _ _).alloc (Nat.le_refl _) _) rfl rfl rfl
end Go.Proofs.YtckicpnnclbkpaaGreatDoor.kp

namespace Go.Proofs.YtckicpnnclbkpaaGreatDoor.dc
open nb ok
def sfx (f n t u : Int) (r : List UInt8) : Nat → List UInt8
 | 0 => wl f n t u r
 | 1 => dl n ++ 32 :: (dl t ++ 32 :: (dl u ++ 32 :: r))
 | 2 => dl t ++ 32 :: (dl u ++ 32 :: r)
 | 3 => dl u ++ 32 :: r
 | _ => r
def Inv (l : List UInt8) (k : Nat) (vs : List Int) (rest : List UInt8) : Prop :=
 ∀ f n t u (s : ByteArray), okN f n t u s = true → l = wl f n t u s.data.toList → vs = [f, n, t, u].take k ∧ rest = sfx f n t u s.data.toList k
theorem inv_start (l : List UInt8) : Inv l 0 [] l := fun _ _ _ _ _ _ e => ⟨rfl, e⟩
theorem inv_step {l : List UInt8} {k : Nat} {vs : List Int} {rest : List UInt8} {v : Int} (hk : k < 4) (h : Inv l k vs rest)
  (hv : ∀ m : Int, 0 ≤ m → m ≤ 999 → (word rest).1 = dl m → v = m) : Inv l (k + 1) (vs ++ [v]) (word rest).2 := by
 intro f n t u s ho e
 obtain ⟨⟨f0, f1⟩, ⟨n0, n1⟩, ⟨t0, t1⟩, ⟨u0, u1⟩, _, _⟩ := okN_parts ho
 obtain ⟨h1, h2⟩ := h f n t u s ho e
 match k, hk with
 | 0, _ =>
  have e2 : word rest = (dl f, sfx f n t u s.data.toList 1) := by rw [h2]; exact word_dl f _
  have hv' := hv f (by omega) (by omega) (by rw [e2])
  rw [hv', h1, e2]
  exact ⟨rfl, rfl⟩
 | 1, _ =>
  have e2 : word rest = (dl n, sfx f n t u s.data.toList 2) := by rw [h2]; exact word_dl n _
  have hv' := hv n (by omega) (by omega) (by rw [e2])
  rw [hv', h1, e2]
  exact ⟨rfl, rfl⟩
 | 2, _ =>
  have e2 : word rest = (dl t, sfx f n t u s.data.toList 3) := by rw [h2]; exact word_dl t _
  have hv' := hv t (by omega) (by omega) (by rw [e2])
  rw [hv', h1, e2]
  exact ⟨rfl, rfl⟩
 | 3, _ =>
  have e2 : word rest = (dl u, sfx f n t u s.data.toList 4) := by rw [h2]; exact word_dl u _
  have hv' := hv u (by omega) (by omega) (by rw [e2])
  rw [hv', h1, e2]
  exact ⟨rfl, rfl⟩
def NoNote (x : ByteArray) : Prop := ∀ f n t u (s : ByteArray), okN f n t u s = true → x ≠ wr f n t u s
def RD (x : ByteArray) (b : Bool) (f n t u : Int) (s : ByteArray) : Prop :=
 (b = true ∧ okN f n t u s = true ∧ x = wr f n t u s) ∨ (b = false ∧ f = 0 ∧ n = 0 ∧ t = 0 ∧ u = 0 ∧ s = ⟨#[]⟩ ∧ NoNote x)
theorem wr_data {x : ByteArray} {f n t u : Int} {s : ByteArray} (h : x = wr f n t u s) : x.data.toList = wl f n t u s.data.toList := by rw [h]; exact data_str _
theorem wl_ne (f n t u : Int) (r : List UInt8) : wl f n t u r ≠ [] := by unfold wl; simp
theorem wr_ne (f n t u : Int) (s : ByteArray) : wr f n t u s ≠ str [] := fun h => wl_ne _ _ _ _ _ (str_inj h)
theorem fin_note {x : ByteArray} {a b c d : Int} {r : List UInt8} (h : Inv x.data.toList 4 [a, b, c, d] r) {f n t u : Int} {s : ByteArray} (ho : okN f n t u s = true) (e : x = wr f n t u s) :
  a = f ∧ b = n ∧ c = t ∧ d = u ∧ str r = s := by
 obtain ⟨h1, h2⟩ := h f n t u s ho (wr_data e)
 simp at h1
 obtain ⟨rfl, rfl, rfl, rfl⟩ := h1
 exact ⟨rfl, rfl, rfl, rfl, by rw [h2]; exact str_data s⟩
theorem fin_bad {x : ByteArray} {a b c d : Int} {r : List UInt8} (h : Inv x.data.toList 4 [a, b, c, d] r) (ho : okN a b c d (str r) = false) : NoNote x := by
 intro f n t u s hok e
 obtain ⟨rfl, rfl, rfl, rfl, rfl⟩ := fin_note h hok e
 rw [ho] at hok
 cases hok
theorem fin_other {x : ByteArray} {a b c d : Int} {r : List UInt8} (h : Inv x.data.toList 4 [a, b, c, d] r) (hne : wr a b c d (str r) ≠ x) : NoNote x := by
 intro f n t u s hok e
 obtain ⟨rfl, rfl, rfl, rfl, rfl⟩ := fin_note h hok e
 exact hne e.symm
theorem no_empty : NoNote (str []) := fun f n t u s _ e => wr_ne f n t u s e.symm
theorem dl_inj {a b : Int} (ha : 0 ≤ a) (hb : 0 ≤ b) (h : dl a = dl b) : a = b := by
 have := congrArg (val 0) h
 unfold dl at this
 rw [dd_val, dd_val] at this
 omega
theorem wr_inj {f n t u f' n' t' u' : Int} {s s' : ByteArray} (h : okN f n t u s = true) (h' : okN f' n' t' u' s' = true) (e : wr f n t u s = wr f' n' t' u' s') :
  f = f' ∧ n = n' ∧ t = t' ∧ u = u' ∧ s = s' := by
 obtain ⟨⟨f0, f1⟩, ⟨n0, n1⟩, ⟨t0, t1⟩, ⟨u0, u1⟩, _, _⟩ := okN_parts h
 obtain ⟨⟨f0', f1'⟩, ⟨n0', n1'⟩, ⟨t0', t1'⟩, ⟨u0', u1'⟩, _, _⟩ := okN_parts h'
 have e0 := str_inj e
 have w0 := congrArg word e0
 unfold wl at w0
 rw [word_dl, word_dl] at w0
 obtain ⟨g0, e1⟩ := Prod.mk.inj w0
 have w1 := congrArg word e1
 rw [word_dl, word_dl] at w1
 obtain ⟨g1, e2⟩ := Prod.mk.inj w1
 have w2 := congrArg word e2
 rw [word_dl, word_dl] at w2
 obtain ⟨g2, e3⟩ := Prod.mk.inj w2
 have w3 := congrArg word e3
 rw [word_dl, word_dl] at w3
 obtain ⟨g3, e4⟩ := Prod.mk.inj w3
 exact ⟨dl_inj f0 f0' g0, dl_inj (by omega) (by omega) g1, dl_inj t0 t0' g2, dl_inj (by omega) (by omega) g3, by rw [← str_data s, e4, str_data]⟩
theorem rd_one {x : ByteArray} {b b' : Bool} {f n t u f' n' t' u' : Int} {s s' : ByteArray} (h : RD x b f n t u s) (h' : RD x b' f' n' t' u' s') :
  b = b' ∧ f = f' ∧ n = n' ∧ t = t' ∧ u = u' ∧ s = s' := by
 rcases h with ⟨rfl, ho, e⟩ | ⟨rfl, rfl, rfl, rfl, rfl, rfl, hn⟩
 ·rcases h' with ⟨rfl, ho', e'⟩ | ⟨rfl, _, _, _, _, _, hn'⟩
  ·exact ⟨rfl, wr_inj ho ho' (e.symm.trans e')⟩
  ·exact absurd e (hn' _ _ _ _ _ ho)
 ·rcases h' with ⟨rfl, ho', e'⟩ | ⟨rfl, rfl, rfl, rfl, rfl, rfl, _⟩
  ·exact absurd e' (hn _ _ _ _ _ ho')
  ·exact ⟨rfl, rfl, rfl, rfl, rfl, rfl⟩
end Go.Proofs.YtckicpnnclbkpaaGreatDoor.dc

