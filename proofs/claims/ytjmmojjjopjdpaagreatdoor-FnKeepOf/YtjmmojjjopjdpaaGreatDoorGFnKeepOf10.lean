/-
  Merged texts: STake, SStart, ReadPlain, DoPlain.
-/
import Derived.Test.YtjmmojjjopjdpaaGreatDoorGFnKeepOf9
import Derived.Test.YtjmmojjjopjdpaaGreatDoorGFnKeepOf1
import Derived.Deep.Cut
/-
  Contract of spec.l12Take: a message is taken in.
-/
namespace Go.Proofs.YtjmmojjjopjdpaaGreatDoor.kp
open Go.ChangeShapes Go.WideShapes Go.ChangeAt Go.RowKit
open Go.Proofs.YtjmmojjjopjdpaaGreatDoor.wd Go.Proofs.YtjmmojjjopjdpaaGreatDoor.ow Go.Proofs.YtjmmojjjopjdpaaGreatDoor.rl Go.Proofs.YtjmmojjjopjdpaaGreatDoor.ok Go.Proofs.YtjmmojjjopjdpaaGreatDoor.nb

/-- what comes of taking a message in; and whether it could be -/
def takeS (k : Kp) (x : Nt) : Kp := if fresh k x then (if x.t = k.id then { k with inbox := putN k.inbox x, marks := putM k.marks ⟨x.f, x.n, x.u⟩ } else { k with held := putN k.held x }) else k
def takeB (k : Kp) (x : Nt) : Bool := fresh k x && decide (((takeS k x).held.length : Int) + ((takeS k x).marks.length : Int) ≤ 12)
/-- a list lies where the old one lay, or in new memory -/
def From (w : World) (v v0 : Value) : Prop := ∀ g, v.ownBlock = some g → w.heap.size ≤ g ∨ v0.ownBlock = some g
theorem From.refl (w : World) (v : Value) : From w v v := fun _ h => .inr h
theorem From.own {α : Type} {S : Shape α} {t : TypeId} {B : Nat} {w W : World} {v v0 : Value} {l : List α} (h : OwnAt S t B W v l) (hB : w.heap.size ≤ B) : From w v v0 := fun g hg => .inl (Nat.le_trans hB (World.ownsRow.lt h g hg).1)
/-- what a keeper has, given back: how it reads, where it lies -/
structure OutK (w w' : World) (k : Kp) (a b c vh vm vi : Value) : Prop where
  sees : SeesK w' k vh vm vi
  bel : Below w.heap.size w w'
  fh : From w vh a
  fm : From w vm b
  fi : From w vi c
def ResK (w : World) (k : Kp) (b : Bool) (a0 b0 c0 : Value) (e : Ending) (w' : World) : Prop := ∃ vh vm vi, e = .returned (.tuple #[kpV k.id k.time k.next vh vm vi, .bool b]) ∧ OutK w w' k a0 b0 c0 vh vm vi

theorem putN_len (l : List Nt) (x : Nt) : (putN l x).length = l.length + 1 := putL_len _ _ _
theorem putM_len (l : List Mk) (x : Mk) : (putM l x).length = l.length + 1 := putL_len _ _ _
/-- the boxes, and the result's block -/
structure TB (w V : World) (k : Kp) (a b c : Value) (x : Nt) : Prop where
  box : Blk V w.heap.size 29 #[.int .i64 k.id, .int .i64 k.time, .int .i64 k.next, a, b, c]
  nt : Blk V (w.heap.size + 1) 131 #[.int .i64 x.f, .int .i64 x.n, .int .i64 x.t, .int .i64 x.u, .string x.s]
  res : Blk V (w.heap.size + 1 + 1) 29 #[.int .i64 0, .int .i64 0, .int .i64 0, .slice none 0 0, .slice none 0 0, .slice none 0 0]
  bel : Below w.heap.size w V
section
variable {w V V' : World} {k : Kp} {a b c : Value} {x : Nt}
theorem TB.new (w : World) (k : Kp) (a b c : Value) (x : Nt) : TB w (((w.alloc (.cells #[.int .i64 k.id, .int .i64 k.time, .int .i64 k.next, a, b, c] 29)).alloc (.cells #[.int .i64 x.f, .int .i64 x.n, .int .i64 x.t, .int .i64 x.u, .string x.s] 131)).alloc (.cells #[.int .i64 0, .int .i64 0, .int .i64 0, .slice none 0 0, .slice none 0 0, .slice none 0 0] 29)) k a b c x := by
  have k1 := Blk.new (w.alloc (.cells #[.int .i64 k.id, .int .i64 k.time, .int .i64 k.next, a, b, c] 29)) 131 #[.int .i64 x.f, .int .i64 x.n, .int .i64 x.t, .int .i64 x.u, .string x.s]
  have k2 := Blk.new ((w.alloc (.cells #[.int .i64 k.id, .int .i64 k.time, .int .i64 k.next, a, b, c] 29)).alloc (.cells #[.int .i64 x.f, .int .i64 x.n, .int .i64 x.t, .int .i64 x.u, .string x.s] 131)) 29 #[.int .i64 0, .int .i64 0, .int .i64 0, .slice none 0 0, .slice none 0 0, .slice none 0 0]
  simp only [World.size_alloc] at k1 k2
  exact ⟨((Blk.new w _ _).alloc _).alloc _, k1.alloc _, k2, (((Below.refl _ w).alloc (Nat.le_refl _) _).alloc (by simp) _).alloc (by simp; omega) _⟩
theorem TB.later (h : TB w V k a b c x) (hb : Below V.heap.size V V') : TB w V' k a b c x := ⟨h.box.below hb h.box.lt, h.nt.below hb h.nt.lt, h.res.below hb h.res.lt, h.bel.trans (hb.mono h.bel.size)⟩
theorem TB.put3 (h : TB w V k a b c x) (y : Value) : TB w (V.setCell ⟨w.heap.size, 3, none⟩ y) k y b c x := ⟨h.box.put 3 y, h.nt.far (p := ⟨w.heap.size, 3, none⟩) (by show w.heap.size + 1 ≠ w.heap.size; omega) _, h.res.far (p := ⟨w.heap.size, 3, none⟩) (by show w.heap.size + 1 + 1 ≠ w.heap.size; omega) _, h.bel.setCell (p := ⟨w.heap.size, 3, none⟩) (Nat.le_refl _) _⟩
theorem TB.put4 (h : TB w V k a b c x) (y : Value) : TB w (V.setCell ⟨w.heap.size, 4, none⟩ y) k a y c x := ⟨h.box.put 4 y, h.nt.far (p := ⟨w.heap.size, 4, none⟩) (by show w.heap.size + 1 ≠ w.heap.size; omega) _, h.res.far (p := ⟨w.heap.size, 4, none⟩) (by show w.heap.size + 1 + 1 ≠ w.heap.size; omega) _, h.bel.setCell (p := ⟨w.heap.size, 4, none⟩) (Nat.le_refl _) _⟩
theorem TB.put5 (h : TB w V k a b c x) (y : Value) : TB w (V.setCell ⟨w.heap.size, 5, none⟩ y) k a b y x := ⟨h.box.put 5 y, h.nt.far (p := ⟨w.heap.size, 5, none⟩) (by show w.heap.size + 1 ≠ w.heap.size; omega) _, h.res.far (p := ⟨w.heap.size, 5, none⟩) (by show w.heap.size + 1 + 1 ≠ w.heap.size; omega) _, h.bel.setCell (p := ⟨w.heap.size, 5, none⟩) (Nat.le_refl _) _⟩
end

theorem seesK_drew {W : World} {k : Kp} {a b c : Value} (h : SeesK W k a b c) : SeesK W.drew k a b c := ⟨h.held, h.marks, h.inbox⟩
theorem put6_far {V : World} {R g : Nat} {t : TypeId} {cs : Array Value} (hg : g ≠ R) (a b c d e f : Value) (h : Blk V g t cs) : Blk (put6 V R a b c d e f) g t cs :=
  (((((h.far (p := ⟨R, 0, none⟩) hg a).far (p := ⟨R, 1, none⟩) hg b).far (p := ⟨R, 2, none⟩) hg c).far (p := ⟨R, 3, none⟩) hg d).far (p := ⟨R, 4, none⟩) hg e).far (p := ⟨R, 5, none⟩) hg f

set_option maxRecDepth 100000 in
set_option maxHeartbeats 1000000 in
theorem take_any (w : World) (k : Kp) (a b c : Value) (x : Nt) (h : SeesK w k a b c) (hl : k.held.length ≤ 1048576 ∧ k.marks.length ≤ 1048576 ∧ k.inbox.length ≤ 1048576) (hx : x.s.size ≤ maxLen) :
    Calls Tryz.prog 172 #[kpV k.id k.time k.next a b c, ntV x] w (ResK w (takeS k x) (takeB k x) a b c) := by
  have HS := Lib.hid h
  have hT := TB.new w k a b c x
  have H1 := Lib.hid (fun V (hV : Below w.heap.size w V) => fresh_any V k a b c x (h.later hV) hl hx)
  have H2 := Lib.hid (fun V (hV : Below w.heap.size w V) => putN_any V a k.held x (h.held.later hV) hl.1)
  have H3 := Lib.hid (fun V (hV : Below w.heap.size w V) => putN_any V c k.inbox x (h.inbox.later hV) hl.2.2)
  have H4 := Lib.hid (fun V (hV : Below w.heap.size w V) => putM_any V b k.marks ⟨x.f, x.n, x.u⟩ (h.marks.later hV) hl.2.1)
  unfold BoolK ntV note at H1
  unfold ListN ntV note at H2 H3
  unfold ListM mkV mark at H4
  have HL := Lib.hid hl
  obtain ⟨Aa, ca, rfl, _⟩ := h.held
  obtain ⟨Ab, cb, rfl, _⟩ := h.marks
  obtain ⟨Ac, cc, rfl, _⟩ := h.inbox
  unfold ntV note
  clear h hl
  go_enter Tryz.func172, Tryz.ntmps172
  go_wp2_with fail
  generalize ((w.alloc (.cells #[.int .i64 k.id, .int .i64 k.time, .int .i64 k.next, .slice Aa k.held.length ca, .slice Ab k.marks.length cb, .slice Ac k.inbox.length cc] 29)).alloc (.cells #[.int .i64 x.f, .int .i64 x.n, .int .i64 x.t, .int .i64 x.u, .string x.s] 131)).alloc (.cells #[.int .i64 0, .int .i64 0, .int .i64 0, .slice none 0 0, .slice none 0 0, .slice none 0 0] 29) = V at hT ⊢
  with_reducible refine (H1.out _ hT.bel).mono ?_
  rintro e w1 ⟨rfl, hB1⟩
  have HT := Lib.hid (hT.later hB1)
  clear hT hB1 H1
  obtain ⟨b0, b1, b2, b3, b4, b5, _, _, _, g3, g4, g5⟩ := res_cells HT.out.box
  obtain ⟨r0, r1, r2, r3, r4, r5, f0, f1, f2, f3, f4, f5⟩ := res_cells HT.out.res
  obtain ⟨n0, n1, n2, n3, n4⟩ := nt_cells HT.out.nt
  cases hf : fresh k x with
  | false =>
    have HE := Lib.hid (show takeS k x = k by unfold takeS; rw [hf]; rfl)
    have HB := Lib.hid (show takeB k x = false by unfold takeB; rw [hf]; rfl)
    have HC := Lib.hid (put6_blk (a' := .int .i64 k.id) (b' := .int .i64 k.time) (c' := .int .i64 k.next) (d' := .slice Aa k.held.length ca) (e' := .slice Ab k.marks.length cb) (f' := .slice Ac k.inbox.length cc) HT.out.res)
    have HD := Lib.hid (put6_below (B := w.heap.size) (R := w.heap.size + 1 + 1) (by omega) HT.out.bel (.int .i64 k.id) (.int .i64 k.time) (.int .i64 k.next) (.slice Aa k.held.length ca) (.slice Ab k.marks.length cb) (.slice Ac k.inbox.length cc))
    go_wp2
    have x0 := HC.out.cell 0
    have x1 := HC.out.cell 1
    have x2 := HC.out.cell 2
    have x3 := HC.out.cell 3
    have x4 := HC.out.cell 4
    have x5 := HC.out.cell 5
    refine bodyPost_ret (v := .tuple #[kpV k.id k.time k.next (.slice Aa k.held.length ca) (.slice Ab k.marks.length cb) (.slice Ac k.inbox.length cc), .bool false]) (by simp [results, Tryz.results172, go_sem, x0, x1, x2, x3, x4, x5]) rfl ⟨_, _, _, by rw [HE.out, HB.out], ?_, HD.out, From.refl _ _, From.refl _ _, From.refl _ _⟩
    rw [HE.out]
    exact HS.out.later HD.out
  | true =>
    by_cases ht : x.t = k.id
    · have kt : (x.t != k.id) = false := by simpa using ht
      have HE := Lib.hid (show takeS k x = { k with inbox := putN k.inbox x, marks := putM k.marks ⟨x.f, x.n, x.u⟩ } by unfold takeS; rw [if_pos hf, if_pos ht])
      have HB := Lib.hid (show takeB k x = decide ((k.held.length : Int) + ((putM k.marks ⟨x.f, x.n, x.u⟩).length : Int) ≤ 12) by unfold takeB; rw [HE.out, hf, Bool.true_and])
      have hln : (putM k.marks ⟨x.f, x.n, x.u⟩).length ≤ 1048577 := by have := HL.out.2.1; rw [putM_len]; omega
      have hl2 := HL.out.1
      clear hf ht H2
      go_wp2_with fail
      with_reducible refine (H3.out _ HT.out.bel).mono ?_
      rintro e w2 ⟨vi, rfl, hO⟩
      obtain ⟨A1, c1, rfl⟩ := OwnR.form hO
      have hT2 := HT.out.later hO.2
      have hz1 := HT.out.res.lt
      have hzz1 := hO.2.size
      have O1 : OwnAt ntS 131 w1.heap.size w2 (.slice A1 (putN k.inbox x).length c1) ((putN k.inbox x)) := hO.1
      clear b0 b1 b2 b3 b4 b5 g3 g4 g5 r0 r1 r2 r3 r4 r5 f0 f1 f2 f3 f4 f5 n0 n1 n2 n3 n4 HT
      obtain ⟨b0, b1, b2, b3, b4, b5, _, _, _, g3, g4, g5⟩ := res_cells hT2.box
      have HTn := Lib.hid (hT2.put5 (.slice A1 (putN k.inbox x).length c1))
      have P1 := Lib.hid (OwnAt.set O1 (p := ⟨w.heap.size, 5, none⟩) (by show w.heap.size < w1.heap.size; omega) (.slice A1 (putN k.inbox x).length c1))
      clear hT2 O1
      clear hO H3
      obtain ⟨n1, hn1⟩ : ∃ n, n = (putN k.inbox x).length := ⟨_, rfl⟩
      rw [← hn1] at HTn P1 ⊢
      clear hn1
      go_upto_region 7 with (fail)
      clear b0 b1 b2 b3 b4 b5 g3 g4 g5
      have z2 : (w2.setCell ⟨w.heap.size, 5, none⟩ (.slice A1 n1 c1)).heap.size = w2.heap.size := by simp
      have HZ := Lib.hid z2
      clear z2
      generalize w2.setCell ⟨w.heap.size, 5, none⟩ (.slice A1 n1 c1) = V2 at HTn P1 HZ ⊢
      have HT := HTn
      clear HTn
      obtain ⟨b0, b1, b2, b3, b4, b5, _, _, _, g3, g4, g5⟩ := res_cells HT.out.box
      obtain ⟨r0, r1, r2, r3, r4, r5, f0, f1, f2, f3, f4, f5⟩ := res_cells HT.out.res
      obtain ⟨n0, n2, n3, n4, n5⟩ := nt_cells HT.out.nt
      go_wp2_with fail
      with_reducible refine (H4.out _ HT.out.bel).mono ?_
      rintro e w3 ⟨vm, rfl, hO⟩
      obtain ⟨A2, c2, rfl⟩ := OwnR.form hO
      have hT2 := HT.out.later hO.2
      have hz2 := HT.out.res.lt
      have hzz2 := hO.2.size
      have O2 : OwnAt mkS 164 V2.heap.size w3 (.slice A2 (putM k.marks ⟨x.f, x.n, x.u⟩).length c2) ((putM k.marks ⟨x.f, x.n, x.u⟩)) := hO.1
      clear b0 b1 b2 b3 b4 b5 g3 g4 g5 r0 r1 r2 r3 r4 r5 f0 f1 f2 f3 f4 f5 n0 n2 n3 n4 n5 HT
      obtain ⟨b0, b1, b2, b3, b4, b5, _, _, _, g3, g4, g5⟩ := res_cells hT2.box
      have HTn := Lib.hid (hT2.put4 (.slice A2 (putM k.marks ⟨x.f, x.n, x.u⟩).length c2))
      have P2 := Lib.hid (OwnAt.set O2 (p := ⟨w.heap.size, 4, none⟩) (by show w.heap.size < V2.heap.size; omega) (.slice A2 (putM k.marks ⟨x.f, x.n, x.u⟩).length c2))
      clear hT2 O2
      have Q1 := Lib.hid (OwnAt.set (OwnAt.later P1.out hO.2) (p := ⟨w.heap.size, 4, none⟩) (by show w.heap.size < w1.heap.size; omega) (.slice A2 (putM k.marks ⟨x.f, x.n, x.u⟩).length c2))
      clear hO H4 P1
      obtain ⟨n2, hn2⟩ : ∃ n, n = (putM k.marks ⟨x.f, x.n, x.u⟩).length := ⟨_, rfl⟩
      rw [← hn2] at HB hln HTn P2 Q1 ⊢
      clear hn2
      go_upto_region 8 with (fail)
      clear b0 b1 b2 b3 b4 b5 g3 g4 g5
      generalize w3.setCell ⟨w.heap.size, 4, none⟩ (.slice A2 n2 c2) = V3 at HTn P2 Q1 ⊢
      have HC := Lib.hid (put6_blk (V := V3) (a' := .int .i64 k.id) (b' := .int .i64 k.time) (c' := .int .i64 k.next) (d' := (.slice Aa k.held.length ca)) (e' := (.slice A2 n2 c2)) (f' := (.slice A1 n1 c1)) HTn.out.res)
      have HD0 := Lib.hid (put6_below (V := V3) (B := w.heap.size) (R := w.heap.size + 1 + 1) (by omega) HTn.out.bel (.int .i64 k.id) (.int .i64 k.time) (.int .i64 k.next) (.slice Aa k.held.length ca) (.slice A2 n2 c2) (.slice A1 n1 c1))
      have HD := Lib.hid HD0.out.drew
      obtain ⟨b0, b1, b2, b3, b4, b5, _, _, _, g3, g4, g5⟩ := res_cells HTn.out.box
      obtain ⟨r0, r1, r2, r3, r4, r5, f0, f1, f2, f3, f4, f5⟩ := res_cells HTn.out.res
      have HG := Lib.hid (seesK_drew (show SeesK (put6 V3 (w.heap.size + 1 + 1) (.int .i64 k.id) (.int .i64 k.time) (.int .i64 k.next) (.slice Aa k.held.length ca) (.slice A2 n2 c2) (.slice A1 n1 c1)) { k with inbox := putN k.inbox x, marks := putM k.marks ⟨x.f, x.n, x.u⟩ } (.slice Aa k.held.length ca) (.slice A2 n2 c2) (.slice A1 n1 c1) from ⟨HS.out.held.later HD0.out, OwnAt.sees (OwnAt.put6 (W := V3) P2.out (R := w.heap.size + 1 + 1) (by omega) _ _ _ _ _ _), OwnAt.sees (OwnAt.put6 (W := V3) Q1.out (R := w.heap.size + 1 + 1) (by omega) _ _ _ _ _ _)⟩))
      have HZZ := Lib.hid (show ResK w (takeS k x) (takeB k x) (.slice Aa k.held.length ca) (.slice Ab k.marks.length cb) (.slice Ac k.inbox.length cc) (.returned (.tuple #[kpV k.id k.time k.next (.slice Aa k.held.length ca) (.slice A2 n2 c2) (.slice A1 n1 c1), .bool (decide ((k.held.length : Int) + (n2 : Int) ≤ 12))])) (put6 V3 (w.heap.size + 1 + 1) (.int .i64 k.id) (.int .i64 k.time) (.int .i64 k.next) (.slice Aa k.held.length ca) (.slice A2 n2 c2) (.slice A1 n1 c1)).drew from by
        rw [HE.out, HB.out]
        exact ⟨(.slice Aa k.held.length ca), (.slice A2 n2 c2), (.slice A1 n1 c1), rfl, HG.out, HD.out, From.refl _ _, From.own P2.out (by omega), From.own Q1.out (by omega)⟩)
      have i0 : IntKind.i64.wrap ((k.held.length : Int) + (n2 : Int)) = (k.held.length : Int) + (n2 : Int) := by rw [IntKind.wrap_i64]; omega
      go_region
      clear i0
      go_wp2
      have x0 := HC.out.cell 0
      have x1 := HC.out.cell 1
      have x2 := HC.out.cell 2
      have x3 := HC.out.cell 3
      have x4 := HC.out.cell 4
      have x5 := HC.out.cell 5
      refine bodyPost_ret (v := .tuple #[kpV k.id k.time k.next (.slice Aa k.held.length ca) (.slice A2 n2 c2) (.slice A1 n1 c1), .bool (decide ((k.held.length : Int) + (n2 : Int) ≤ 12))]) (by simp [results, Tryz.results172, go_sem, x0, x1, x2, x3, x4, x5]) rfl HZZ.out
    · have kt : (x.t != k.id) = true := by simpa using ht
      have HE := Lib.hid (show takeS k x = { k with held := putN k.held x } by unfold takeS; rw [if_pos hf, if_neg ht])
      have HB := Lib.hid (show takeB k x = decide (((putN k.held x).length : Int) + (k.marks.length : Int) ≤ 12) by unfold takeB; rw [HE.out, hf, Bool.true_and])
      have hln : (putN k.held x).length ≤ 1048577 := by have := HL.out.1; rw [putN_len]; omega
      have hl2 := HL.out.2.1
      clear hf ht
      go_wp2_with fail
      with_reducible refine (H2.out _ HT.out.bel).mono ?_
      rintro e w2 ⟨vh, rfl, hO⟩
      obtain ⟨A1, c1, rfl⟩ := OwnR.form hO
      have hT2 := HT.out.later hO.2
      have hz1 := HT.out.res.lt
      have hzz1 := hO.2.size
      have O1 : OwnAt ntS 131 w1.heap.size w2 (.slice A1 (putN k.held x).length c1) ((putN k.held x)) := hO.1
      clear b0 b1 b2 b3 b4 b5 g3 g4 g5 r0 r1 r2 r3 r4 r5 f0 f1 f2 f3 f4 f5 n0 n1 n2 n3 n4 HT
      obtain ⟨b0, b1, b2, b3, b4, b5, _, _, _, g3, g4, g5⟩ := res_cells hT2.box
      have HTn := Lib.hid (hT2.put3 (.slice A1 (putN k.held x).length c1))
      have P1 := Lib.hid (OwnAt.set O1 (p := ⟨w.heap.size, 3, none⟩) (by show w.heap.size < w1.heap.size; omega) (.slice A1 (putN k.held x).length c1))
      clear hT2 O1
      clear hO H2
      obtain ⟨n1, hn1⟩ : ∃ n, n = (putN k.held x).length := ⟨_, rfl⟩
      rw [← hn1] at HB hln HTn P1 ⊢
      clear hn1
      go_upto_region 5 with (fail)
      clear b0 b1 b2 b3 b4 b5 g3 g4 g5
      generalize w2.setCell ⟨w.heap.size, 3, none⟩ (.slice A1 n1 c1) = V2 at HTn P1 ⊢
      have HC := Lib.hid (put6_blk (V := V2) (a' := .int .i64 k.id) (b' := .int .i64 k.time) (c' := .int .i64 k.next) (d' := (.slice A1 n1 c1)) (e' := (.slice Ab k.marks.length cb)) (f' := (.slice Ac k.inbox.length cc)) HTn.out.res)
      have HD0 := Lib.hid (put6_below (V := V2) (B := w.heap.size) (R := w.heap.size + 1 + 1) (by omega) HTn.out.bel (.int .i64 k.id) (.int .i64 k.time) (.int .i64 k.next) (.slice A1 n1 c1) (.slice Ab k.marks.length cb) (.slice Ac k.inbox.length cc))
      have HD := Lib.hid HD0.out.drew
      obtain ⟨b0, b1, b2, b3, b4, b5, _, _, _, g3, g4, g5⟩ := res_cells HTn.out.box
      obtain ⟨r0, r1, r2, r3, r4, r5, f0, f1, f2, f3, f4, f5⟩ := res_cells HTn.out.res
      have HG := Lib.hid (seesK_drew (show SeesK (put6 V2 (w.heap.size + 1 + 1) (.int .i64 k.id) (.int .i64 k.time) (.int .i64 k.next) (.slice A1 n1 c1) (.slice Ab k.marks.length cb) (.slice Ac k.inbox.length cc)) { k with held := putN k.held x } (.slice A1 n1 c1) (.slice Ab k.marks.length cb) (.slice Ac k.inbox.length cc) from ⟨OwnAt.sees (OwnAt.put6 (W := V2) P1.out (R := w.heap.size + 1 + 1) (by omega) _ _ _ _ _ _), HS.out.marks.later HD0.out, HS.out.inbox.later HD0.out⟩))
      have HZZ := Lib.hid (show ResK w (takeS k x) (takeB k x) (.slice Aa k.held.length ca) (.slice Ab k.marks.length cb) (.slice Ac k.inbox.length cc) (.returned (.tuple #[kpV k.id k.time k.next (.slice A1 n1 c1) (.slice Ab k.marks.length cb) (.slice Ac k.inbox.length cc), .bool (decide ((n1 : Int) + (k.marks.length : Int) ≤ 12))])) (put6 V2 (w.heap.size + 1 + 1) (.int .i64 k.id) (.int .i64 k.time) (.int .i64 k.next) (.slice A1 n1 c1) (.slice Ab k.marks.length cb) (.slice Ac k.inbox.length cc)).drew from by
        rw [HE.out, HB.out]
        exact ⟨(.slice A1 n1 c1), (.slice Ab k.marks.length cb), (.slice Ac k.inbox.length cc), rfl, HG.out, HD.out, From.own P1.out (by omega), From.refl _ _, From.refl _ _⟩)
      have i0 : IntKind.i64.wrap ((n1 : Int) + (k.marks.length : Int)) = (n1 : Int) + (k.marks.length : Int) := by rw [IntKind.wrap_i64]; omega
      go_region
      clear i0
      go_wp2
      have x0 := HC.out.cell 0
      have x1 := HC.out.cell 1
      have x2 := HC.out.cell 2
      have x3 := HC.out.cell 3
      have x4 := HC.out.cell 4
      have x5 := HC.out.cell 5
      refine bodyPost_ret (v := .tuple #[kpV k.id k.time k.next (.slice A1 n1 c1) (.slice Ab k.marks.length cb) (.slice Ac k.inbox.length cc), .bool (decide ((n1 : Int) + (k.marks.length : Int) ≤ 12))]) (by simp [results, Tryz.results172, go_sem, x0, x1, x2, x3, x4, x5]) rfl HZZ.out
end Go.Proofs.YtjmmojjjopjdpaaGreatDoor.kp

/-
  Contract of spec.KeepStart.
-/
namespace Go.Proofs.YtjmmojjjopjdpaaGreatDoor.kp
open Go.ChangeShapes Go.WideShapes Go.ChangeAt Go.RowKit
open Go.Proofs.YtjmmojjjopjdpaaGreatDoor.wd Go.Proofs.YtjmmojjjopjdpaaGreatDoor.ow Go.Proofs.YtjmmojjjopjdpaaGreatDoor.rl Go.Proofs.YtjmmojjjopjdpaaGreatDoor.ok Go.Proofs.YtjmmojjjopjdpaaGreatDoor.nb

def zeroK : Kp := ⟨0, 0, 0, [], [], []⟩
/-- what a keeper has at first -/
def startK (id : Int) : Kp := if inB id 0 3 then ⟨id, 0, 1, [], [], []⟩ else zeroK
theorem nil_own {w W : World} {k : Kp} (hB : Below w.heap.size w W) (h1 : k.held = []) (h2 : k.marks = []) (h3 : k.inbox = []) : OwnK w W k (.slice none 0 0) (.slice none 0 0) (.slice none 0 0) := by
  refine ⟨⟨?_, hB⟩, ⟨?_, hB⟩, ⟨?_, hB⟩, (fun g e => by cases e), (fun g e => by cases e), (fun g e => by cases e)⟩
  · rw [h1]; exact World.ownsRow_nil _ _ _ _
  · rw [h2]; exact World.ownsRow_nil _ _ _ _
  · rw [h3]; exact World.ownsRow_nil _ _ _ _

set_option maxRecDepth 100000 in
theorem start_any (id : Int) (w : World) : Calls Tryz.prog 17 #[.int .i64 id] w (KeepPost w (startK id)) := by
  have H1 := Lib.hid (fun V => keeper_any id V)
  cases hb : inB id 0 3 with
  | false =>
    have HE := Lib.hid (show startK id = zeroK by unfold startK; rw [hb]; rfl)
    rw [hb] at H1
    go_enter Tryz.func17, Tryz.ntmps17
    go_wp2_with fail
    refine (H1.out _).mono ?_
    rintro e w1 ⟨rfl, rfl⟩
    go_wp2
    refine bodyPost_ret (v := kpV 0 0 0 (.slice none 0 0) (.slice none 0 0) (.slice none 0 0)) (by simp [results, Tryz.results17, go_sem]) rfl ⟨_, _, _, by rw [HE.out]; rfl, ?_⟩
    rw [HE.out]
    exact nil_own ((Below.refl _ _).alloc (Nat.le_refl _) _) rfl rfl rfl
  | true =>
    have HE := Lib.hid (show startK id = ⟨id, 0, 1, [], [], []⟩ by unfold startK; rw [hb]; rfl)
    rw [hb] at H1
    go_enter Tryz.func17, Tryz.ntmps17
    go_wp2_with fail
    refine (H1.out _).mono ?_
    rintro e w1 ⟨rfl, rfl⟩
    go_wp2
    refine bodyPost_ret (v := kpV id 0 1 (.slice none 0 0) (.slice none 0 0) (.slice none 0 0)) (by simp [results, Tryz.results17, go_sem]) rfl ⟨_, _, _, by rw [HE.out], ?_⟩
    rw [HE.out]
    exact nil_own ((Below.refl _ _).alloc (Nat.le_refl _) _) rfl rfl rfl
end Go.Proofs.YtjmmojjjopjdpaaGreatDoor.kp

/-
  Plain mathematics of reading a message. Nothing here speaks of a program.
-/
namespace Go.Proofs.YtjmmojjjopjdpaaGreatDoor.dc
open Go.Proofs.YtjmmojjjopjdpaaGreatDoor.nb Go.Proofs.YtjmmojjjopjdpaaGreatDoor.ok

/-- what is left of a message's text behind k numbers -/
def sfx (f n t u : Int) (r : List UInt8) : Nat → List UInt8
  | 0 => wl f n t u r
  | 1 => dl n ++ 32 :: (dl t ++ 32 :: (dl u ++ 32 :: r))
  | 2 => dl t ++ 32 :: (dl u ++ 32 :: r)
  | 3 => dl u ++ 32 :: r
  | _ => r
/-- what has been read of a text: if the text is a message's, its first numbers, and the rest -/
def Inv (l : List UInt8) (k : Nat) (vs : List Int) (rest : List UInt8) : Prop :=
  ∀ f n t u (s : ByteArray), okN f n t u s = true → l = wl f n t u s.data.toList → vs = [f, n, t, u].take k ∧ rest = sfx f n t u s.data.toList k
theorem inv_start (l : List UInt8) : Inv l 0 [] l := fun _ _ _ _ _ _ e => ⟨rfl, e⟩
theorem inv_step {l : List UInt8} {k : Nat} {vs : List Int} {rest : List UInt8} {v : Int} (hk : k < 4) (h : Inv l k vs rest)
    (hv : ∀ m : Int, 0 ≤ m → m ≤ 999 → (word rest).1 = dl m → v = m) : Inv l (k + 1) (vs ++ [v]) (word rest).2 := by
  intro f n t u s ho e
  obtain ⟨⟨f0, f1⟩, ⟨n0, n1⟩, ⟨t0, t1⟩, ⟨u0, u1⟩, _, _⟩ := okN_parts ho
  obtain ⟨h1, h2⟩ := h f n t u s ho e
  match k, hk with
  | 0, _ =>
    have e2 : word rest = (dl f, sfx f n t u s.data.toList 1) := by rw [h2]; exact word_dl f _
    have hv' := hv f (by omega) (by omega) (by rw [e2])
    rw [hv', h1, e2]
    exact ⟨rfl, rfl⟩
  | 1, _ =>
    have e2 : word rest = (dl n, sfx f n t u s.data.toList 2) := by rw [h2]; exact word_dl n _
    have hv' := hv n (by omega) (by omega) (by rw [e2])
    rw [hv', h1, e2]
    exact ⟨rfl, rfl⟩
  | 2, _ =>
    have e2 : word rest = (dl t, sfx f n t u s.data.toList 3) := by rw [h2]; exact word_dl t _
    have hv' := hv t (by omega) (by omega) (by rw [e2])
    rw [hv', h1, e2]
    exact ⟨rfl, rfl⟩
  | 3, _ =>
    have e2 : word rest = (dl u, sfx f n t u s.data.toList 4) := by rw [h2]; exact word_dl u _
    have hv' := hv u (by omega) (by omega) (by rw [e2])
    rw [hv', h1, e2]
    exact ⟨rfl, rfl⟩

/-- the text is no message's -/
def NoNote (x : ByteArray) : Prop := ∀ f n t u (s : ByteArray), okN f n t u s = true → x ≠ wr f n t u s
/-- what NoteRead is to answer -/
def RD (x : ByteArray) (b : Bool) (f n t u : Int) (s : ByteArray) : Prop :=
  (b = true ∧ okN f n t u s = true ∧ x = wr f n t u s) ∨ (b = false ∧ f = 0 ∧ n = 0 ∧ t = 0 ∧ u = 0 ∧ s = ⟨#[]⟩ ∧ NoNote x)

theorem wr_data {x : ByteArray} {f n t u : Int} {s : ByteArray} (h : x = wr f n t u s) : x.data.toList = wl f n t u s.data.toList := by rw [h]; exact data_str _
theorem wl_ne (f n t u : Int) (r : List UInt8) : wl f n t u r ≠ [] := by unfold wl; simp
theorem wr_ne (f n t u : Int) (s : ByteArray) : wr f n t u s ≠ str [] := fun h => wl_ne _ _ _ _ _ (str_inj h)

/-- four numbers and a rest, read: a message's, if the text is one's -/
theorem fin_note {x : ByteArray} {a b c d : Int} {r : List UInt8} (h : Inv x.data.toList 4 [a, b, c, d] r) {f n t u : Int} {s : ByteArray} (ho : okN f n t u s = true) (e : x = wr f n t u s) :
    a = f ∧ b = n ∧ c = t ∧ d = u ∧ str r = s := by
  obtain ⟨h1, h2⟩ := h f n t u s ho (wr_data e)
  simp at h1
  obtain ⟨rfl, rfl, rfl, rfl⟩ := h1
  exact ⟨rfl, rfl, rfl, rfl, by rw [h2]; exact str_data s⟩
theorem fin_bad {x : ByteArray} {a b c d : Int} {r : List UInt8} (h : Inv x.data.toList 4 [a, b, c, d] r) (ho : okN a b c d (str r) = false) : NoNote x := by
  intro f n t u s hok e
  obtain ⟨rfl, rfl, rfl, rfl, rfl⟩ := fin_note h hok e
  rw [ho] at hok
  cases hok
theorem fin_other {x : ByteArray} {a b c d : Int} {r : List UInt8} (h : Inv x.data.toList 4 [a, b, c, d] r) (hne : wr a b c d (str r) ≠ x) : NoNote x := by
  intro f n t u s hok e
  obtain ⟨rfl, rfl, rfl, rfl, rfl⟩ := fin_note h hok e
  exact hne e.symm
theorem no_empty : NoNote (str []) := fun f n t u s _ e => wr_ne f n t u s e.symm

theorem dl_inj {a b : Int} (ha : 0 ≤ a) (hb : 0 ≤ b) (h : dl a = dl b) : a = b := by
  have := congrArg (val 0) h
  unfold dl at this
  rw [dd_val, dd_val] at this
  omega
theorem wr_inj {f n t u f' n' t' u' : Int} {s s' : ByteArray} (h : okN f n t u s = true) (h' : okN f' n' t' u' s' = true) (e : wr f n t u s = wr f' n' t' u' s') :
    f = f' ∧ n = n' ∧ t = t' ∧ u = u' ∧ s = s' := by
  obtain ⟨⟨f0, f1⟩, ⟨n0, n1⟩, ⟨t0, t1⟩, ⟨u0, u1⟩, _, _⟩ := okN_parts h
  obtain ⟨⟨f0', f1'⟩, ⟨n0', n1'⟩, ⟨t0', t1'⟩, ⟨u0', u1'⟩, _, _⟩ := okN_parts h'
  have e0 := str_inj e
  have w0 := congrArg word e0
  unfold wl at w0
  rw [word_dl, word_dl] at w0
  obtain ⟨g0, e1⟩ := Prod.mk.inj w0
  have w1 := congrArg word e1
  rw [word_dl, word_dl] at w1
  obtain ⟨g1, e2⟩ := Prod.mk.inj w1
  have w2 := congrArg word e2
  rw [word_dl, word_dl] at w2
  obtain ⟨g2, e3⟩ := Prod.mk.inj w2
  have w3 := congrArg word e3
  rw [word_dl, word_dl] at w3
  obtain ⟨g3, e4⟩ := Prod.mk.inj w3
  exact ⟨dl_inj f0 f0' g0, dl_inj (by omega) (by omega) g1, dl_inj t0 t0' g2, dl_inj (by omega) (by omega) g3, by rw [← str_data s, e4, str_data]⟩
theorem rd_one {x : ByteArray} {b b' : Bool} {f n t u f' n' t' u' : Int} {s s' : ByteArray} (h : RD x b f n t u s) (h' : RD x b' f' n' t' u' s') :
    b = b' ∧ f = f' ∧ n = n' ∧ t = t' ∧ u = u' ∧ s = s' := by
  rcases h with ⟨rfl, ho, e⟩ | ⟨rfl, rfl, rfl, rfl, rfl, rfl, hn⟩
  · rcases h' with ⟨rfl, ho', e'⟩ | ⟨rfl, _, _, _, _, _, hn'⟩
    · exact ⟨rfl, wr_inj ho ho' (e.symm.trans e')⟩
    · exact absurd e (hn' _ _ _ _ _ ho)
  · rcases h' with ⟨rfl, ho', e'⟩ | ⟨rfl, rfl, rfl, rfl, rfl, rfl, _⟩
    · exact absurd e' (hn _ _ _ _ _ ho')
    · exact ⟨rfl, rfl, rfl, rfl, rfl, rfl⟩
end Go.Proofs.YtjmmojjjopjdpaaGreatDoor.dc

/-
  Plain: what a record does to what a keeper has; a record's text. Nothing here speaks of a program.
-/
namespace Go.Proofs.YtjmmojjjopjdpaaGreatDoor.kp
open Go.Proofs.YtjmmojjjopjdpaaGreatDoor.nb Go.Proofs.YtjmmojjjopjdpaaGreatDoor.ok Go.Proofs.YtjmmojjjopjdpaaGreatDoor.dc

def cutL {α : Type} (l : List α) (i : Nat) : List α := l.take i ++ l.drop (i + 1)
theorem cutL_len {α : Type} {l : List α} {i : Nat} (h : i < l.length) : (cutL l i).length + 1 = l.length := by
  unfold cutL; simp [List.length_take, List.length_drop]; omega
def timeS (k : Kp) (t : Int) : Kp := { k with time := t, held := k.held.filter (fun x => decide (t < x.u)), marks := k.marks.filter (fun x => decide (t < x.u)) }
def letS (k : Kp) (i : Nat) (m : Mk) : Kp := { k with held := cutL k.held i, marks := putM k.marks m }
def eatS (k : Kp) (i : Nat) : Kp := { k with inbox := cutL k.inbox i }
def isM (m : Mk) (x : Nt) : Bool := x.f == m.f && x.n == m.n && x.u == m.u

inductive Rc where
  | time (v : Int)
  | next (v : Int)
  | own (x : Nt)
  | take (x : Nt)
  | held (x : Nt)
  | inbox (x : Nt)
  | lets (m : Mk)
  | eat (m : Mk)
  | mark (m : Mk)

def kwTime : List UInt8 := [116, 105, 109, 101]
def kwNext : List UInt8 := [110, 101, 120, 116]
def kwOwn : List UInt8 := [111, 119, 110]
def kwTake : List UInt8 := [116, 97, 107, 101]
def kwHeld : List UInt8 := [104, 101, 108, 100]
def kwInbox : List UInt8 := [105, 110, 98, 111, 120]
def kwLet : List UInt8 := [108, 101, 116]
def kwEat : List UInt8 := [101, 97, 116]
def kwMark : List UInt8 := [109, 97, 114, 107]
def m3 (f n u : Int) : List UInt8 := dl f ++ 32 :: (dl n ++ 32 :: dl u)
def kw : Rc → List UInt8
  | .time _ => kwTime
  | .next _ => kwNext
  | .own _ => kwOwn
  | .take _ => kwTake
  | .held _ => kwHeld
  | .inbox _ => kwInbox
  | .lets _ => kwLet
  | .eat _ => kwEat
  | .mark _ => kwMark
def wlN (x : Nt) : List UInt8 := wl x.f x.n x.t x.u x.s.data.toList
def m3M (m : Mk) : List UInt8 := m3 m.f m.n m.u
def body : Rc → List UInt8
  | .time v => dl v
  | .next v => dl v
  | .own x => wlN x
  | .take x => wlN x
  | .held x => wlN x
  | .inbox x => wlN x
  | .lets m => m3M m
  | .eat m => m3M m
  | .mark m => m3M m
def rcL (r : Rc) : List UInt8 := kw r ++ 32 :: body r
def rcOk : Rc → Prop
  | .time v => 0 ≤ v ∧ v ≤ 999
  | .next v => 0 ≤ v ∧ v ≤ 999
  | .own x => okNt x = true
  | .take x => okNt x = true
  | .held x => okNt x = true
  | .inbox x => okNt x = true
  | .lets m => okMk m = true
  | .eat m => okMk m = true
  | .mark m => okMk m = true

def takeO (k : Kp) (x : Nt) : Option Kp := if takeB k x = true then some (takeS k x) else none
def applyS (k : Kp) : Rc → Option Kp
  | .time v => if k.time < v then some (timeS k v) else none
  | .next v => if k.next < v then some { k with next := v } else none
  | .own x => if x.f = k.id ∧ x.n = k.next then takeO { k with next := k.next + 1 } x else none
  | .take x => if x.f = k.id then none else takeO k x
  | .held x => if hasN k.held x.f x.n = true ∨ hasN k.inbox x.f x.n = true then none else some { k with held := putN k.held x }
  | .inbox x => if hasN k.held x.f x.n = true ∨ hasN k.inbox x.f x.n = true then none else some { k with inbox := putN k.inbox x }
  | .lets m => match k.held.findIdx? (isM m) with
    | some i => some (letS k i m)
    | none => none
  | .eat m => match k.inbox.findIdx? (isM m) with
    | some i => some (eatS k i)
    | none => none
  | .mark m => if hasM k.marks m.f m.n = true then none else some { k with marks := putM k.marks m }

theorem kw_blank (r : Rc) : ∀ c ∈ kw r, c ≠ 32 := by cases r <;> simp only [kw] <;> decide
theorem word_rcL (r : Rc) : word (rcL r) = (kw r, body r) := word_append (kw_blank r)
theorem word_back {l a b : List UInt8} (h : word l = (a, b)) (hb : b ≠ []) : l = a ++ 32 :: b := by
  induction l generalizing a b with
  | nil => cases h; exact absurd rfl hb
  | cons c l ih =>
    by_cases hc : c = 32
    · subst hc; rw [word_blank] at h; cases h; rfl
    · rw [word_cons hc] at h
      obtain ⟨h1, h2⟩ := Prod.mk.inj h
      rw [← h1, List.cons_append]
      congr 1
      exact ih (a := (word l).1) (b := b) (by rw [← h2]) hb
theorem dl_ne (v : Int) : dl v ≠ [] := fun h => by
  have := dd_all v.toNat
  unfold dl at h
  by_cases h1 : v.toNat < 10
  · rw [Lib.decDigits_one h1] at h; cases h
  · rw [dd_step (by omega)] at h; simp at h
theorem m3_ne (f n u : Int) : m3 f n u ≠ [] := by unfold m3; simp
theorem okMk_parts {m : Mk} (h : okMk m = true) : (0 ≤ m.f ∧ m.f ≤ 3) ∧ (1 ≤ m.n ∧ m.n ≤ 99) ∧ 1 ≤ m.u ∧ m.u ≤ 999 := by
  unfold okMk at h
  simp only [Bool.and_eq_true] at h
  exact ⟨of_decide_eq_true h.1.1, of_decide_eq_true h.1.2, of_decide_eq_true h.2⟩
theorem m3_inj {f n u f' n' u' : Int} (hf : 0 ≤ f) (hn : 0 ≤ n) (hu : 0 ≤ u) (hf' : 0 ≤ f') (hn' : 0 ≤ n') (hu' : 0 ≤ u') (e : m3 f n u = m3 f' n' u') : f = f' ∧ n = n' ∧ u = u' := by
  have w0 := congrArg word e
  unfold m3 at w0
  rw [word_dl, word_dl] at w0
  obtain ⟨g0, e1⟩ := Prod.mk.inj w0
  have w1 := congrArg word e1
  rw [word_dl, word_dl] at w1
  obtain ⟨g1, e2⟩ := Prod.mk.inj w1
  exact ⟨dl_inj hf hf' g0, dl_inj hn hn' g1, dl_inj hu hu' e2⟩
theorem wlN_inj {x y : Nt} (h : okNt x = true) (h' : okNt y = true) (e : wlN x = wlN y) : x = y := by
  obtain ⟨h1, h2, h3, h4, h5⟩ := wr_inj h h' (show wr x.f x.n x.t x.u x.s = wr y.f y.n y.t y.u y.s from congrArg str e)
  cases x; cases y
  simp at h1 h2 h3 h4 h5
  rw [h1, h2, h3, h4, h5]
theorem m3M_inj {x y : Mk} (h : okMk x = true) (h' : okMk y = true) (e : m3M x = m3M y) : x = y := by
  obtain ⟨a1, a2, a3⟩ := okMk_parts h
  obtain ⟨b1, b2, b3⟩ := okMk_parts h'
  obtain ⟨h1, h2, h3⟩ := m3_inj (by omega) (by omega) (by omega) (by omega) (by omega) (by omega) e
  cases x; cases y
  simp at h1 h2 h3
  rw [h1, h2, h3]
theorem rcL_inj {r r' : Rc} (h : rcOk r) (h' : rcOk r') (e : rcL r = rcL r') : r = r' := by
  have w0 := congrArg word e
  rw [word_rcL, word_rcL] at w0
  obtain ⟨e1, e2⟩ := Prod.mk.inj w0
  cases r <;> cases r' <;> first
    | (exfalso; simp only [kw] at e1; revert e1; decide)
    | (congr 1; exact dl_inj h.1 h'.1 e2)
    | (congr 1; exact wlN_inj h h' e2)
    | (congr 1; exact m3M_inj h h' e2)

/-- nothing that the record says can be done -/
def NoDo (k : Kp) (l : List UInt8) : Prop := ∀ r x, rcOk r → l = rcL r → applyS k r = some x → okK x = false
/-- what comes of a record -/
def Does (k : Kp) (l : List UInt8) (k' : Kp) (b : Bool) : Prop :=
  (b = true ∧ ∃ r, rcOk r ∧ l = rcL r ∧ applyS k r = some k' ∧ okK k' = true) ∨ (b = false ∧ k' = k ∧ NoDo k l)
def DoK (k : Kp) (l : List UInt8) (k' : Kp) (b : Bool) : Prop := (okK k = false ∧ k' = zeroK ∧ b = false) ∨ (okK k = true ∧ Does k l k' b)
theorem does_one {k : Kp} {l : List UInt8} {k1 k2 : Kp} {b1 b2 : Bool} (h1 : Does k l k1 b1) (h2 : Does k l k2 b2) : k1 = k2 ∧ b1 = b2 := by
  rcases h1 with ⟨rfl, r, ho, e, ha, hk⟩ | ⟨rfl, rfl, hn⟩
  · rcases h2 with ⟨rfl, r', ho', e', ha', hk'⟩ | ⟨rfl, rfl, hn'⟩
    · have := rcL_inj ho ho' (e.symm.trans e')
      subst this
      rw [ha] at ha'
      exact ⟨Option.some.inj ha', rfl⟩
    · rw [hn' r k1 ho e ha] at hk; cases hk
  · rcases h2 with ⟨rfl, r', ho', e', ha', hk'⟩ | ⟨rfl, rfl, hn'⟩
    · rw [hn r' k2 ho' e' ha'] at hk'; cases hk'
    · exact ⟨rfl, rfl⟩
theorem doK_one {k : Kp} {l : List UInt8} {k1 k2 : Kp} {b1 b2 : Bool} (h1 : DoK k l k1 b1) (h2 : DoK k l k2 b2) : k1 = k2 ∧ b1 = b2 := by
  rcases h1 with ⟨h, rfl, rfl⟩ | ⟨h, h1⟩
  · rcases h2 with ⟨_, rfl, rfl⟩ | ⟨h', _⟩
    · exact ⟨rfl, rfl⟩
    · rw [h] at h'; cases h'
  · rcases h2 with ⟨h', _, _⟩ | ⟨_, h2⟩
    · rw [h] at h'; cases h'
    · exact does_one h1 h2

/-- what is told of a record's doing, ahead of looking what came of it -/
def RecP (k : Kp) (l : List UInt8) (k' : Kp) (b : Bool) : Prop :=
  (b = true ∧ ∃ r, rcOk r ∧ l = rcL r ∧ applyS k r = some k') ∨ ((b = false ∨ okK k' = false) ∧ NoDo k l)
theorem recP_t {k : Kp} {l : List UInt8} {k' : Kp} (h : RecP k l k' true) (ho : okK k' = true) : Does k l k' true := by
  rcases h with ⟨_, r, h1, h2, h3⟩ | ⟨h | h, _⟩
  · exact .inl ⟨rfl, r, h1, h2, h3, ho⟩
  · cases h
  · rw [h] at ho; cases ho
theorem recP_bad {k : Kp} {l : List UInt8} {k' : Kp} {b : Bool} (h : RecP k l k' b) (ho : okK k' = false) : Does k l k false := by
  refine .inr ⟨rfl, rfl, ?_⟩
  rcases h with ⟨_, r, h1, h2, h3⟩ | ⟨_, h⟩
  · intro r' x hr' e' ha
    have := rcL_inj h1 hr' (h2.symm.trans e')
    subst this
    rw [h3] at ha
    rw [← Option.some.inj ha]
    exact ho
  · exact h
theorem recP_f {k : Kp} {l : List UInt8} {k' : Kp} (h : RecP k l k' false) : Does k l k false := by
  refine .inr ⟨rfl, rfl, ?_⟩
  rcases h with ⟨h, _⟩ | ⟨_, h⟩
  · cases h
  · exact h

/-- no such word: nothing to do -/
theorem nodo_word {k : Kp} {l : List UInt8} (h : ∀ r : Rc, kw r ≠ (word l).1) : NoDo k l := fun r x _ e _ => by
  exfalso
  apply h r
  rw [e, word_rcL]
/-- the record's word and the rest are known -/
theorem nodo_of {k : Kp} {l : List UInt8} (h : ∀ r x, rcOk r → kw r = (word l).1 → body r = (word l).2 → applyS k r = some x → okK x = false) : NoDo k l := fun r x hr e ha =>
  h r x hr (by rw [e, word_rcL]) (by rw [e, word_rcL]) ha

theorem okK_parts {k : Kp} (h : okK k = true) : inB k.id 0 3 = true ∧ inB k.time 0 999 = true ∧ inB k.next 1 100 = true ∧ okNts k.held 6 = true ∧ okMks k.marks = true ∧ okNts k.inbox 6 = true ∧ k.held.all (heldOk k) = true ∧ k.marks.all (markOk k) = true ∧ k.inbox.all (inOk k) = true := by
  unfold okK at h
  simp only [Bool.and_eq_true] at h
  obtain ⟨⟨⟨⟨⟨⟨⟨⟨a, b⟩, c⟩, d⟩, e⟩, f⟩, g⟩, i⟩, j⟩ := h
  exact ⟨a, b, c, d, e, f, g, i, j⟩
theorem okNts_parts {l : List Nt} {m : Nat} (h : okNts l m = true) : l.length ≤ m ∧ ∀ i, i < l.length → ordN l i = true := by
  unfold okNts at h
  rw [Bool.and_eq_true] at h
  exact ⟨of_decide_eq_true h.1, allI_iff.1 h.2⟩
theorem okMks_parts {l : List Mk} (h : okMks l = true) : l.length ≤ 12 ∧ ∀ i, i < l.length → ordM l i = true := by
  unfold okMks at h
  rw [Bool.and_eq_true] at h
  exact ⟨of_decide_eq_true h.1, allI_iff.1 h.2⟩
theorem less_trans {a b c d e f : Int} (h1 : less a b c d = true) (h2 : less c d e f = true) : less a b e f = true := by
  unfold less at *
  have h1 := of_decide_eq_true h1
  have h2 := of_decide_eq_true h2
  exact decide_eq_true (by omega)
theorem less_irr {a b : Int} : less a b a b = false := decide_eq_false (by omega)
theorem ordN_ok {l : List Nt} {i : Nat} {x : Nt} (h : ordN l i = true) (hx : l[i]? = some x) : okNt x = true := by
  unfold ordN at h
  rw [hx] at h
  simp only [Bool.and_eq_true] at h
  exact h.1
theorem ordM_ok {l : List Mk} {i : Nat} {x : Mk} (h : ordM l i = true) (hx : l[i]? = some x) : okMk x = true := by
  unfold ordM at h
  rw [hx] at h
  simp only [Bool.and_eq_true] at h
  exact h.1
theorem okNts_mem {l : List Nt} {m : Nat} (h : okNts l m = true) {x : Nt} (hx : x ∈ l) : okNt x = true := by
  obtain ⟨i, hi, rfl⟩ := List.mem_iff_getElem.1 hx
  exact ordN_ok ((okNts_parts h).2 i hi) (List.getElem?_eq_getElem hi)
theorem okMks_mem {l : List Mk} (h : okMks l = true) {x : Mk} (hx : x ∈ l) : okMk x = true := by
  obtain ⟨i, hi, rfl⟩ := List.mem_iff_getElem.1 hx
  exact ordM_ok ((okMks_parts h).2 i hi) (List.getElem?_eq_getElem hi)
theorem okNts_lt {l : List Nt} {m : Nat} (h : okNts l m = true) : ∀ (j i : Nat) (x y : Nt), i < j → l[i]? = some x → l[j]? = some y → less x.f x.n y.f y.n = true := by
  intro j
  induction j with
  | zero => intro i x y h; omega
  | succ j ih =>
    intro i x y hij hx hy
    have hj : j + 1 < l.length := (List.getElem?_eq_some_iff.1 hy).1
    have hz : l[j]? = some l[j] := List.getElem?_eq_getElem (by omega)
    have ho := (okNts_parts h).2 (j + 1) hj
    rw [ordN_succ hy hz, Bool.and_eq_true] at ho
    by_cases e : i = j
    · subst e
      rw [hz] at hx
      cases hx
      exact ho.2
    · exact less_trans (ih i x l[j] (by omega) hx hz) ho.2
/-- a message is told by its source and its number -/
theorem okNts_one {l : List Nt} {m : Nat} (h : okNts l m = true) {i j : Nat} {x y : Nt} (hx : l[i]? = some x) (hy : l[j]? = some y) (hf : x.f = y.f) (hn : x.n = y.n) : i = j := by
  rcases Nat.lt_trichotomy i j with hl | e | hl
  · have := okNts_lt h j i x y hl hx hy
    rw [hf, hn, less_irr] at this; cases this
  · exact e
  · have := okNts_lt h i j y x hl hy hx
    rw [hf, hn, less_irr] at this; cases this
theorem isM_iff {m : Mk} {x : Nt} : isM m x = true ↔ x.f = m.f ∧ x.n = m.n ∧ x.u = m.u := by
  unfold isM
  rw [Bool.and_eq_true, Bool.and_eq_true, beq_iff_eq, beq_iff_eq, beq_iff_eq, and_assoc]
theorem findM_some {l : List Nt} {q : Nat} (h : okNts l q = true) {m : Mk} {i : Nat} {x : Nt} (hx : l[i]? = some x) (hm : isM m x = true) : l.findIdx? (isM m) = some i := by
  rw [List.findIdx?_eq_some_iff_getElem]
  obtain ⟨hi, e⟩ := List.getElem?_eq_some_iff.1 hx
  refine ⟨hi, by rw [e]; exact hm, fun j hj hp => ?_⟩
  obtain ⟨a, b, _⟩ := isM_iff.1 hm
  obtain ⟨a', b', _⟩ := isM_iff.1 hp
  have := okNts_one h (i := j) (j := i) (List.getElem?_eq_getElem (by omega)) hx (a'.trans a.symm) (b'.trans b.symm)
  omega
theorem findM_none {l : List Nt} {m : Mk} (h : ∀ x ∈ l, isM m x = false) : l.findIdx? (isM m) = none := by
  rw [List.findIdx?_eq_none_iff]
  intro x hx
  exact h x hx
/-- the place by source and number alone: the same, where the time is the same; else there is none -/
theorem ixN_isM {l : List Nt} {q : Nat} (h : okNts l q = true) {m : Mk} : (ixN l m.f m.n = -1 → l.findIdx? (isM m) = none) ∧ ∀ (i : Nat) (x : Nt), ixN l m.f m.n = (i : Nat) → l[i]? = some x → (x.u = m.u → l.findIdx? (isM m) = some i) ∧ (x.u ≠ m.u → l.findIdx? (isM m) = none) := by
  rcases ixN_cases l m.f m.n with ⟨hn, he⟩ | ⟨hn, i, x, he, hx, hf, hnn⟩
  · refine ⟨fun _ => findM_none fun y hy => ?_, fun i x e => by rw [he] at e; omega⟩
    unfold hasN at hn
    rw [List.any_eq_false] at hn
    have := hn y hy
    unfold isM
    rw [Bool.eq_false_iff.2 this]; rfl
  · refine ⟨fun e => by rw [he] at e; omega, fun j y e hy => ?_⟩
    have hij : i = j := by rw [he] at e; omega
    subst hij
    rw [hx] at hy
    cases hy
    refine ⟨fun hu => findM_some h hx (isM_iff.2 ⟨hf, hnn, hu⟩), fun hu => findM_none fun y hy => ?_⟩
    obtain ⟨j, hj, rfl⟩ := List.mem_iff_getElem.1 hy
    rw [Bool.eq_false_iff]
    intro hp
    obtain ⟨a, b, c⟩ := isM_iff.1 hp
    have := okNts_one h (i := j) (j := i) (List.getElem?_eq_getElem hj) hx (a.trans hf.symm) (b.trans hnn.symm)
    subst this
    rw [List.getElem?_eq_getElem hj] at hx
    rw [Option.some.inj hx] at c
    exact hu c
/-- what is in a list of messages has a mark that is in order -/
theorem okNt_mk {x : Nt} (h : okNt x = true) : okMk ⟨x.f, x.n, x.u⟩ = true := by
  obtain ⟨h1, h2, _, h4, _, _⟩ := okN_parts h
  unfold okMk
  rw [inB_iff.2 (by omega), inB_iff.2 (by omega), inB_iff.2 (by omega)]
  rfl
theorem findM_ok {l : List Nt} {q : Nat} (h : okNts l q = true) {m : Mk} {i : Nat} (hi : l.findIdx? (isM m) = some i) : okMk m = true ∧ ∃ x, l[i]? = some x ∧ isM m x = true := by
  rw [List.findIdx?_eq_some_iff_getElem] at hi
  obtain ⟨hl, hp, _⟩ := hi
  obtain ⟨a, b, c⟩ := isM_iff.1 hp
  have := okNt_mk (okNts_mem h (List.getElem_mem hl))
  rw [a, b, c] at this
  exact ⟨this, l[i], List.getElem?_eq_getElem hl, hp⟩
end Go.Proofs.YtjmmojjjopjdpaaGreatDoor.kp

