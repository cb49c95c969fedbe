/-
  Merged texts: SCopy, STime, RecPost.
-/
import Derived.Test.YtjmmojjjopjdpaaGreatDoorGFnKeepOf9
import Derived.Test.YtjmmojjjopjdpaaGreatDoorGFnKeepOf10
import Derived.Test.YtjmmojjjopjdpaaGreatDoorGFnKeepOf11
import Derived.Deep.Cut
/-
  Contract of spec.l12Copy: the same, of the call's own.
-/
namespace Go.Proofs.YtjmmojjjopjdpaaGreatDoor.kp
open Go.ChangeShapes Go.WideShapes Go.ChangeAt Go.RowKit
open Go.Proofs.YtjmmojjjopjdpaaGreatDoor.wd Go.Proofs.YtjmmojjjopjdpaaGreatDoor.ow Go.Proofs.YtjmmojjjopjdpaaGreatDoor.rl Go.Proofs.YtjmmojjjopjdpaaGreatDoor.ok Go.Proofs.YtjmmojjjopjdpaaGreatDoor.nb

/-- the box of the argument, the result's block -/
structure CB (w V : World) (k : Kp) (a b c : Value) : Prop where
  box : Blk V w.heap.size 29 #[.int .i64 k.id, .int .i64 k.time, .int .i64 k.next, a, b, c]
  res : Blk V (w.heap.size + 1) 29 #[.int .i64 0, .int .i64 0, .int .i64 0, .slice none 0 0, .slice none 0 0, .slice none 0 0]
  bel : Below w.heap.size w V
  sz : w.heap.size + 2 ≤ V.heap.size
section
variable {w V V' : World} {k : Kp} {a b c : Value}
theorem CB.new (w : World) (k : Kp) (a b c : Value) : CB w ((w.alloc (.cells #[.int .i64 k.id, .int .i64 k.time, .int .i64 k.next, a, b, c] 29)).alloc (.cells #[.int .i64 0, .int .i64 0, .int .i64 0, .slice none 0 0, .slice none 0 0, .slice none 0 0] 29)) k a b c := by
  have k1 := Blk.new (w.alloc (.cells #[.int .i64 k.id, .int .i64 k.time, .int .i64 k.next, a, b, c] 29)) 29 #[.int .i64 0, .int .i64 0, .int .i64 0, .slice none 0 0, .slice none 0 0, .slice none 0 0]
  simp only [World.size_alloc] at k1
  exact ⟨(Blk.new w _ _).alloc _, k1, ((Below.refl _ w).alloc (Nat.le_refl _) _).alloc (by simp) _, by simp⟩
theorem CB.later (h : CB w V k a b c) (hb : Below V.heap.size V V') : CB w V' k a b c := ⟨h.box.below hb h.box.lt, h.res.below hb h.res.lt, h.bel.trans (hb.mono h.bel.size), Nat.le_trans h.sz hb.size⟩
theorem CB.grew {α : Type} {S : Shape α} {t : TypeId} {B : Nat} {v : Value} {l : List α} (h : CB w V k a b c) (hO : OwnAt S t B V v l) (hB : w.heap.size + 2 ≤ B) (hBV : B ≤ V.heap.size) (hg : V.grownBy V' v.ownBlock) : CB w V' k a b c := by
  have hb := hO.below hg hBV
  exact ⟨h.box.below hb (by omega), h.res.below hb (by omega), h.bel.trans (hb.mono (by omega)), Nat.le_trans h.sz hg.size⟩
theorem CB.put3 (h : CB w V k a b c) (x : Value) : CB w (V.setCell ⟨w.heap.size, 3, none⟩ x) k x b c := ⟨h.box.put 3 x, h.res.far (p := ⟨w.heap.size, 3, none⟩) (by show w.heap.size + 1 ≠ w.heap.size; omega) _, h.bel.setCell (p := ⟨w.heap.size, 3, none⟩) (Nat.le_refl _) _, by simpa using h.sz⟩
theorem CB.put4 (h : CB w V k a b c) (x : Value) : CB w (V.setCell ⟨w.heap.size, 4, none⟩ x) k a x c := ⟨h.box.put 4 x, h.res.far (p := ⟨w.heap.size, 4, none⟩) (by show w.heap.size + 1 ≠ w.heap.size; omega) _, h.bel.setCell (p := ⟨w.heap.size, 4, none⟩) (Nat.le_refl _) _, by simpa using h.sz⟩
theorem CB.put5 (h : CB w V k a b c) (x : Value) : CB w (V.setCell ⟨w.heap.size, 5, none⟩ x) k a b x := ⟨h.box.put 5 x, h.res.far (p := ⟨w.heap.size, 5, none⟩) (by show w.heap.size + 1 ≠ w.heap.size; omega) _, h.bel.setCell (p := ⟨w.heap.size, 5, none⟩) (Nat.le_refl _) _, by simpa using h.sz⟩
end
theorem OwnAt.form {α : Type} {S : Shape α} {t : TypeId} {B : Nat} {W : World} {v : Value} {l : List α} (h : OwnAt S t B W v l) : ∃ A c, v = .slice A l.length c := by
  rcases h.2 with ⟨rfl, hn⟩ | ⟨g, cap, cur, rfl, _⟩
  · exact ⟨none, 0, by rw [hn]⟩
  · exact ⟨_, cap, rfl⟩
theorem OwnAt.ltW {α : Type} {S : Shape α} {t : TypeId} {B : Nat} {W : World} {v : Value} {l : List α} (h : OwnAt S t B W v l) {g : Nat} (hg : v.ownBlock = some g) : B ≤ g ∧ g < W.heap.size := World.ownsRow.lt h g hg
/-- what an append to an empty list of the call's own gives -/
theorem ownAt_of {α : Type} {S : Shape α} {t : TypeId} {B n : Nat} {W : World} {v : Value} {l : List α} (h : W.ownsRow B t S.n v n ([] ++ l.flatMap S.f)) (hn : n = l.length) : OwnAt S t B W v l := by
  subst hn
  exact h

set_option maxRecDepth 100000 in
set_option maxHeartbeats 1600000 in
theorem copyK_any (w : World) (k : Kp) (a b c : Value) (h : SeesK w k a b c) (hl : k.held.length ≤ 1048576 ∧ k.marks.length ≤ 1048576 ∧ k.inbox.length ≤ 1048576) :
    Calls Tryz.prog 111 #[kpV k.id k.time k.next a b c] w (KeepPost w k) := by
  obtain ⟨hl1, hl2, hl3⟩ := hl
  obtain ⟨i0, hi, hz0, hz1, hz2⟩ := info_parts infoNote
  obtain ⟨j0, hj, hy0, hy1, hy2⟩ := info_parts infoMark
  obtain ⟨Aa, ca, rfl, _⟩ := h.held
  obtain ⟨Ab, cb, rfl, _⟩ := h.marks
  obtain ⟨Ac, cc, rfl, _⟩ := h.inbox
  have HS := Lib.hid h
  have HT := Lib.hid (CB.new w k (.slice Aa k.held.length ca) (.slice Ab k.marks.length cb) (.slice Ac k.inbox.length cc))
  clear h
  go_enter Tryz.func111, Tryz.ntmps111
  go_upto_region 1 with (fail)
  generalize (w.alloc (.cells #[.int .i64 k.id, .int .i64 k.time, .int .i64 k.next, .slice Aa k.held.length ca, .slice Ab k.marks.length cb, .slice Ac k.inbox.length cc] 29)).alloc (.cells #[.int .i64 0, .int .i64 0, .int .i64 0, .slice none 0 0, .slice none 0 0, .slice none 0 0] 29) = V at HT ⊢
  obtain ⟨_, _, _, b3, b4, b5, _, _, _, g3, g4, g5⟩ := res_cells HT.out.box
  have hs1 := HT.out.sz
  have lb1 := HT.out.box.lt
  have PA1 := SeesR.part ((HS.out.held.later HT.out.bel).later ((Below.refl _ V).alloc (Nat.le_refl _) (.cells #[] 131)))
  have ON1 := ownAt_new (S := ntS) (t := 131) (B := V.heap.size) V (Nat.le_refl _)
  go_wp2_with (at_builtin; refine wpList_append_recs ntS (by decide) rfl _ _ 26 rfl V.heap.size 131 i0 _ 48 Tryz.underlying26 hi hz0 hz1 hz2 rfl _ 0 [] rfl ON1 Aa _ ca k.held rfl rfl PA1 ?e3 ?e4 ?e5 ?_)
  case e3 => unfold maxLen; omega
  case e4 => omega
  case e5 => simp
  intro v1 w1 hown hgrow
  have O1 : OwnAt ntS 131 V.heap.size w1 v1 k.held := hown
  have hT1 := (HT.out.later ((Below.refl _ V).alloc (Nat.le_refl _) (.cells #[] 131))).grew ON1 hs1 (by simp) hgrow
  have hsz1 : V.heap.size + 1 ≤ w1.heap.size := by have := hgrow.size; simpa using this
  obtain ⟨A1, c1, e1⟩ := OwnAt.form O1
  subst e1
  have L1 : ∀ g, (Value.slice A1 k.held.length c1).ownBlock = some g → V.heap.size ≤ g ∧ g < w1.heap.size := fun g hg => OwnAt.ltW O1 hg
  have P1 := OwnAt.set O1 (p := ⟨w.heap.size, 3, none⟩) (by show w.heap.size < V.heap.size; omega) (.slice A1 k.held.length c1)
  clear b3 b4 b5 g3 g4 g5
  obtain ⟨_, _, _, b3, b4, b5, _, _, _, g3, g4, g5⟩ := res_cells hT1.box
  have z1 : (w1.setCell ⟨w.heap.size, 3, none⟩ (.slice A1 k.held.length c1)).heap.size = w1.heap.size := by simp
  have HTn := Lib.hid (hT1.put3 (.slice A1 k.held.length c1))
  have HP1 := Lib.hid P1
  have HL1 := Lib.hid L1
  have HZ1 := Lib.hid z1
  clear hown hgrow ON1 PA1 O1 P1 hT1 HT L1 z1
  go_upto_region 2 with (fail)
  clear b3 b4 b5 g3 g4 g5
  generalize w1.setCell ⟨w.heap.size, 3, none⟩ (.slice A1 k.held.length c1) = V2 at HTn HP1 HZ1 ⊢
  have HT := HTn
  clear HTn
  obtain ⟨_, _, _, b3, b4, b5, _, _, _, g3, g4, g5⟩ := res_cells HT.out.box
  have hs2 := HT.out.sz
  have lb2 := HT.out.box.lt
  have PA2 := SeesR.part ((HS.out.marks.later HT.out.bel).later ((Below.refl _ V2).alloc (Nat.le_refl _) (.cells #[] 164)))
  have ON2 := ownAt_new (S := mkS) (t := 164) (B := V2.heap.size) V2 (Nat.le_refl _)
  go_wp2_with (at_builtin; refine wpList_append_recs mkS (by decide) rfl _ _ 27 rfl V2.heap.size 164 j0 _ 24 Tryz.underlying27 hj hy0 hy1 hy2 rfl _ 0 [] rfl ON2 Ab _ cb k.marks rfl rfl PA2 ?e3 ?e4 ?e5 ?_)
  case e3 => unfold maxLen; omega
  case e4 => omega
  case e5 => simp
  intro v2 w2 hown hgrow
  have O2 : OwnAt mkS 164 V2.heap.size w2 v2 k.marks := hown
  have hT2 := (HT.out.later ((Below.refl _ V2).alloc (Nat.le_refl _) (.cells #[] 164))).grew ON2 hs2 (by simp) hgrow
  have hsz2 : V2.heap.size + 1 ≤ w2.heap.size := by have := hgrow.size; simpa using this
  obtain ⟨A2, c2, e2⟩ := OwnAt.form O2
  subst e2
  have L2 : ∀ g, (Value.slice A2 k.marks.length c2).ownBlock = some g → V2.heap.size ≤ g ∧ g < w2.heap.size := fun g hg => OwnAt.ltW O2 hg
  have P2 := OwnAt.set O2 (p := ⟨w.heap.size, 4, none⟩) (by show w.heap.size < V2.heap.size; omega) (.slice A2 k.marks.length c2)
  clear b3 b4 b5 g3 g4 g5
  obtain ⟨_, _, _, b3, b4, b5, _, _, _, g3, g4, g5⟩ := res_cells hT2.box
  have z2 : (w2.setCell ⟨w.heap.size, 4, none⟩ (.slice A2 k.marks.length c2)).heap.size = w2.heap.size := by simp
  have HTn := Lib.hid (hT2.put4 (.slice A2 k.marks.length c2))
  have HP2 := Lib.hid P2
  have HL2 := Lib.hid L2
  have HZ2 := Lib.hid z2
  have Q1 : OwnAt ntS 131 V.heap.size w2 (.slice A1 k.held.length c1) k.held := (HP1.out.alloc (.cells #[] 164)).same (fun g hg => hgrow.block g (OwnAt.ltW (HP1.out.alloc _) hg).2 (fun e => by
    injection e with e
    change g = V2.heap.size at e
    have := (OwnAt.ltW HP1.out hg).2
    omega))
  have R1 := Lib.hid (OwnAt.set Q1 (p := ⟨w.heap.size, 4, none⟩) (by show w.heap.size < V.heap.size; omega) (.slice A2 k.marks.length c2))
  have X12 : Apart (.slice A1 k.held.length c1) (.slice A2 k.marks.length c2) := fun g p q => by
    have h1 := (HL1.out g p).2
    have h2 := (HL2.out g q).1
    rw [HZ1.out] at h2
    omega
  have HX12 := Lib.hid X12
  have HM2 := Lib.hid (show V.heap.size ≤ V2.heap.size by rw [HZ1.out]; omega)
  clear hown hgrow ON2 PA2 O2 P2 hT2 HT L2 z2 HP1 Q1 X12
  go_upto_region 3 with (fail)
  clear b3 b4 b5 g3 g4 g5
  generalize w2.setCell ⟨w.heap.size, 4, none⟩ (.slice A2 k.marks.length c2) = V3 at HTn HP2 R1 HZ2 ⊢
  have HT := HTn
  clear HTn
  obtain ⟨_, _, _, b3, b4, b5, _, _, _, g3, g4, g5⟩ := res_cells HT.out.box
  have hs3 := HT.out.sz
  have lb3 := HT.out.box.lt
  have PA3 := SeesR.part ((HS.out.inbox.later HT.out.bel).later ((Below.refl _ V3).alloc (Nat.le_refl _) (.cells #[] 131)))
  have ON3 := ownAt_new (S := ntS) (t := 131) (B := V3.heap.size) V3 (Nat.le_refl _)
  go_wp2_with (at_builtin; refine wpList_append_recs ntS (by decide) rfl _ _ 26 rfl V3.heap.size 131 i0 _ 48 Tryz.underlying26 hi hz0 hz1 hz2 rfl _ 0 [] rfl ON3 Ac _ cc k.inbox rfl rfl PA3 ?e3 ?e4 ?e5 ?_)
  case e3 => unfold maxLen; omega
  case e4 => omega
  case e5 => simp
  intro v3 w3 hown hgrow
  have O3 : OwnAt ntS 131 V3.heap.size w3 v3 k.inbox := hown
  have hT3 := (HT.out.later ((Below.refl _ V3).alloc (Nat.le_refl _) (.cells #[] 131))).grew ON3 hs3 (by simp) hgrow
  have hsz3 : V3.heap.size + 1 ≤ w3.heap.size := by have := hgrow.size; simpa using this
  obtain ⟨A3, c3, e3⟩ := OwnAt.form O3
  subst e3
  have L3 : ∀ g, (Value.slice A3 k.inbox.length c3).ownBlock = some g → V3.heap.size ≤ g ∧ g < w3.heap.size := fun g hg => OwnAt.ltW O3 hg
  have P3 := OwnAt.set O3 (p := ⟨w.heap.size, 5, none⟩) (by show w.heap.size < V3.heap.size; omega) (.slice A3 k.inbox.length c3)
  clear b3 b4 b5 g3 g4 g5
  obtain ⟨_, _, _, b3, b4, b5, _, _, _, g3, g4, g5⟩ := res_cells hT3.box
  have z3 : (w3.setCell ⟨w.heap.size, 5, none⟩ (.slice A3 k.inbox.length c3)).heap.size = w3.heap.size := by simp
  have HTn := Lib.hid (hT3.put5 (.slice A3 k.inbox.length c3))
  have HP3 := Lib.hid P3
  have HL3 := Lib.hid L3
  have HZ3 := Lib.hid z3
  have Q1 : OwnAt ntS 131 V.heap.size w3 (.slice A1 k.held.length c1) k.held := (R1.out.alloc (.cells #[] 131)).same (fun g hg => hgrow.block g (OwnAt.ltW (R1.out.alloc _) hg).2 (fun e => by
    injection e with e
    change g = V3.heap.size at e
    have := (OwnAt.ltW R1.out hg).2
    omega))
  have Q2 : OwnAt mkS 164 V2.heap.size w3 (.slice A2 k.marks.length c2) k.marks := (HP2.out.alloc (.cells #[] 131)).same (fun g hg => hgrow.block g (OwnAt.ltW (HP2.out.alloc _) hg).2 (fun e => by
    injection e with e
    change g = V3.heap.size at e
    have := (OwnAt.ltW HP2.out hg).2
    omega))
  have hm2 := HM2.out
  have U1 := OwnAt.put6 (OwnAt.set Q1 (p := ⟨w.heap.size, 5, none⟩) (by show w.heap.size < V.heap.size; omega) (.slice A3 k.inbox.length c3)) (R := w.heap.size + 1) (by omega) (.int .i64 k.id) (.int .i64 k.time) (.int .i64 k.next) (.slice A1 k.held.length c1) (.slice A2 k.marks.length c2) (.slice A3 k.inbox.length c3)
  have U2 := OwnAt.put6 (OwnAt.set Q2 (p := ⟨w.heap.size, 5, none⟩) (by show w.heap.size < V2.heap.size; omega) (.slice A3 k.inbox.length c3)) (R := w.heap.size + 1) (by omega) (.int .i64 k.id) (.int .i64 k.time) (.int .i64 k.next) (.slice A1 k.held.length c1) (.slice A2 k.marks.length c2) (.slice A3 k.inbox.length c3)
  have U3 := OwnAt.put6 P3 (R := w.heap.size + 1) (by omega) (.int .i64 k.id) (.int .i64 k.time) (.int .i64 k.next) (.slice A1 k.held.length c1) (.slice A2 k.marks.length c2) (.slice A3 k.inbox.length c3)
  have X13 : Apart (.slice A1 k.held.length c1) (.slice A3 k.inbox.length c3) := fun g p q => by
    have h1 := (HL1.out g p).2
    have h2 := (HL3.out g q).1
    have h3 := HZ1.out
    have h4 := HZ2.out
    omega
  have X23 : Apart (.slice A2 k.marks.length c2) (.slice A3 k.inbox.length c3) := fun g p q => by
    have h1 := (HL2.out g p).2
    have h2 := (HL3.out g q).1
    have h4 := HZ2.out
    omega
  have hv3 : w.heap.size + 2 ≤ V3.heap.size := hs3
  obtain ⟨q0, q1, q2, q3, q4, q5, _, _, _, _, _, _⟩ := res_cells HTn.out.box
  obtain ⟨r0, r1, r2, r3, r4, r5, f0, f1, f2, f3, f4, f5⟩ := res_cells HTn.out.res
  have HC := Lib.hid (put6_blk (a' := .int .i64 k.id) (b' := .int .i64 k.time) (c' := .int .i64 k.next) (d' := .slice A1 k.held.length c1) (e' := .slice A2 k.marks.length c2) (f' := .slice A3 k.inbox.length c3) HTn.out.res)
  have HE := Lib.hid (put6_below (B := w.heap.size) (R := w.heap.size + 1) (Nat.le_succ _) HTn.out.bel (.int .i64 k.id) (.int .i64 k.time) (.int .i64 k.next) (.slice A1 k.held.length c1) (.slice A2 k.marks.length c2) (.slice A3 k.inbox.length c3))
  have HU := Lib.hid (show _ ∧ _ ∧ _ from ⟨OwnAt.down U1 (show w.heap.size ≤ V.heap.size by omega), OwnAt.down U2 (show w.heap.size ≤ V2.heap.size by omega), OwnAt.down U3 (show w.heap.size ≤ V3.heap.size by omega)⟩)
  have HX := Lib.hid (show _ ∧ _ ∧ _ from ⟨HX12.out, X13, X23⟩)
  clear hown hgrow ON3 PA3 O3 P3 hT3 HT L3 z3 Q1 Q2 U1 U2 U3 X13 X23 R1 HP2 HP3
  go_wp2
  have x0 := HC.out.cell 0
  have x1 := HC.out.cell 1
  have x2 := HC.out.cell 2
  have x3 := HC.out.cell 3
  have x4 := HC.out.cell 4
  have x5 := HC.out.cell 5
  refine bodyPost_ret (v := kpV k.id k.time k.next (.slice A1 k.held.length c1) (.slice A2 k.marks.length c2) (.slice A3 k.inbox.length c3)) (by simp [results, Tryz.results111, go_sem, x0, x1, x2, x3, x4, x5]) rfl ⟨_, _, _, rfl, ⟨HU.out.1, HE.out⟩, ⟨HU.out.2.1, HE.out⟩, ⟨HU.out.2.2, HE.out⟩, HX.out.1, HX.out.2.1, HX.out.2.2⟩
end Go.Proofs.YtjmmojjjopjdpaaGreatDoor.kp

/-
  Contract of spec.l12Time: what is over goes.
-/
namespace Go.Proofs.YtjmmojjjopjdpaaGreatDoor.kp
open Go.ChangeShapes Go.WideShapes Go.ChangeAt Go.RowKit
open Go.Proofs.YtjmmojjjopjdpaaGreatDoor.wd Go.Proofs.YtjmmojjjopjdpaaGreatDoor.ow Go.Proofs.YtjmmojjjopjdpaaGreatDoor.rl Go.Proofs.YtjmmojjjopjdpaaGreatDoor.ok Go.Proofs.YtjmmojjjopjdpaaGreatDoor.nb

def RetK (w : World) (k : Kp) (a0 b0 c0 : Value) (e : Ending) (w' : World) : Prop := ∃ vh vm vi, e = .returned (kpV k.id k.time k.next vh vm vi) ∧ OutK w w' k a0 b0 c0 vh vm vi
section
variable {w V V' : World} {k : Kp} {a b c : Value}
theorem CB.put1 (h : CB w V k a b c) (t : Int) : CB w (V.setCell ⟨w.heap.size, 1, none⟩ (.int .i64 t)) { k with time := t } a b c := ⟨h.box.put 1 _, h.res.far (p := ⟨w.heap.size, 1, none⟩) (by show w.heap.size + 1 ≠ w.heap.size; omega) _, h.bel.setCell (p := ⟨w.heap.size, 1, none⟩) (Nat.le_refl _) _, by simpa using h.sz⟩
theorem CB.more {α : Type} {S : Shape α} {t : TypeId} {B : Nat} {v : Value} {l : List α} {o : Obj} (h : CB w V k a b c) (hO : OwnAt S t B V v l) (hB : w.heap.size + 2 ≤ B) (hBV : B ≤ V.heap.size) (hg : (V.alloc o).grownBy V' v.ownBlock) : CB w V' k a b c :=
  (h.later ((Below.refl _ V).alloc (Nat.le_refl _) o)).grew (hO.alloc o) hB (by simp; omega) hg
end
theorem filter_on {α : Type} {l : List α} {p : α → Bool} {k : Nat} {x : α} (hx : l[k]? = some x) (hp : p x = true) : (l.take (k + 1)).filter p = (l.take k).filter p ++ [x] := by rw [take_on hx, List.filter_append]; simp [hp]
theorem filter_off {α : Type} {l : List α} {p : α → Bool} {k : Nat} {x : α} (hx : l[k]? = some x) (hp : p x = false) : (l.take (k + 1)).filter p = (l.take k).filter p := by rw [take_on hx, List.filter_append]; simp [hp]
theorem filter_end {α : Type} {l : List α} {p : α → Bool} {k : Nat} (h : l.length ≤ k) : (l.take k).filter p = l.filter p := by rw [List.take_of_length_le h]
theorem filter_short {α : Type} {l : List α} {p : α → Bool} (k : Nat) : ((l.take k).filter p).length ≤ k := Nat.le_trans (List.length_filter_le _ _) (by rw [List.length_take]; omega)

set_option maxRecDepth 100000 in
set_option maxHeartbeats 1600000 in
theorem time_any (w : World) (k : Kp) (a b c : Value) (t : Int) (h : SeesK w k a b c) (hl : k.held.length ≤ 1048576 ∧ k.marks.length ≤ 1048576 ∧ k.inbox.length ≤ 1048576) :
    Calls Tryz.prog 170 #[kpV k.id k.time k.next a b c, .int .i64 t] w (RetK w (timeS k t) a b c) := by
  obtain ⟨hl1, hl2, hl3⟩ := hl
  obtain ⟨i0, hi, hz0, hz1, hz2⟩ := info_parts infoNote
  obtain ⟨j0, hj, hy0, hy1, hy2⟩ := info_parts infoMark
  obtain ⟨Aa, ca, rfl, _⟩ := h.held
  obtain ⟨Ab, cb, rfl, _⟩ := h.marks
  obtain ⟨Ac, cc, rfl, _⟩ := h.inbox
  have HS := Lib.hid h
  have HT := Lib.hid (CB.new w k (.slice Aa k.held.length ca) (.slice Ab k.marks.length cb) (.slice Ac k.inbox.length cc))
  have HE := Lib.hid (show timeS k t = { k with time := t, held := k.held.filter (fun x => decide (t < x.u)), marks := k.marks.filter (fun x => decide (t < x.u)) } from rfl)
  clear h
  go_enter Tryz.func170, Tryz.ntmps170
  go_upto_region 1 with (fail)
  generalize (w.alloc (.cells #[.int .i64 k.id, .int .i64 k.time, .int .i64 k.next, .slice Aa k.held.length ca, .slice Ab k.marks.length cb, .slice Ac k.inbox.length cc] 29)).alloc (.cells #[.int .i64 0, .int .i64 0, .int .i64 0, .slice none 0 0, .slice none 0 0, .slice none 0 0] 29) = V at HT ⊢
  have hs1 := HT.out.sz
  have HT1 := Lib.hid (HT.out.later ((Below.refl _ V).alloc (Nat.le_refl _) (.cells #[] 131)))
  have HO1 := Lib.hid (ownAt_new (S := ntS) (t := 131) (B := w.heap.size + 2) V hs1)
  clear HT
  go_wp2
  go_loopw [5, 6] (fun ov i wr => ∃ (j : Nat) (out : List Nt), j ≤ k.held.length ∧ i = .int .i64 j ∧ Hid (out = (k.held.take j).filter (fun x => decide (t < x.u))) ∧ Hid (CB w wr k (.slice Aa k.held.length ca) (.slice Ab k.marks.length cb) (.slice Ac k.inbox.length cc)) ∧ Hid (OwnAt ntS 131 (w.heap.size + 2) wr ov out)) (fun _ i _ => (k.held.length + 1 : Nat) - (intOf i).toNat)
  case atStart => exact ⟨0, [], by omega, rfl, rfl, HT1, HO1⟩
  case round =>
    obtain ⟨j, out, hj1, rfl, HQ, HT, HO⟩ := hrel
    clear HT1 HO1 hs1
    have hsz := HT.out.sz
    have hlen : out.length ≤ j := by rw [HQ.out]; exact filter_short _
    obtain ⟨_, _, _, b3, b4, b5, _, _, _, g3, g4, g5⟩ := res_cells HT.out.box
    by_cases hjl : j < k.held.length
    · have hx : k.held[j]? = some k.held[j] := List.getElem?_eq_getElem hjl
      have hc := note_at (HS.out.held.later HT.out.bel) hx
      generalize k.held[j] = y at hx hc
      obtain ⟨g, c', e, hg, _, t0, t1, t2, t3, t4⟩ := hc
      injection e with e1 e2 e3
      subst e1; subst e3
      have hk0 : (0 : Int) ≤ (j : Int) := by omega
      have hk1 : (j : Int) < (k.held.length : Int) := by omega
      by_cases hu : t < y.u
      · have HQ2 := Lib.hid (show out ++ [y] = (k.held.take (j + 1)).filter (fun x => decide (t < x.u)) by rw [HQ.out]; exact (filter_on hx (decide_eq_true hu)).symm)
        clear hx
        go_wp2_with (at_builtin; refine wpList_append_recs ntS (by decide) rfl _ _ 26 rfl (w.heap.size + 2) 131 i0 _ 48 Tryz.underlying26 hi hz0 hz1 hz2 rfl _ _ _ rfl (HO.out.alloc _) (some ⟨wr.heap.size, 0, none⟩) 1 1 [y] rfl rfl (part_one wr y rfl) ?e3 ?e4 ?e5 ?_)
        case e3 => (show out.length + 1 ≤ maxLen); unfold maxLen; omega
        case e4 => (show (out.length + 1) * 48 ≤ 140737488355328); omega
        case e5 => first | omega | (simp; omega)
        intro v8 w8 hown hgrow
        have HT8 := Lib.hid (HT.out.more HO.out (Nat.le_refl _) hsz hgrow)
        have HO8 := Lib.hid (OwnAt.grew (l := out) (y := y) hown rfl)
        clear hown hgrow b3 b4 b5 g3 g4 g5 t0 t1 t2 t3 t4
        go_wp2
        go_roundw
        case rel => first | exact ⟨j + 1, _, by omega, by go_num, HQ2, HT8, HO8⟩ | ((repeat apply Exists.intro); refine And.intro ?_ rfl; exact ⟨j + 1, _, by omega, by go_num, HQ2, HT8, HO8⟩)
        case measure => simp [intOf]; omega
      · have HQ2 := Lib.hid (show out = (k.held.take (j + 1)).filter (fun x => decide (t < x.u)) by rw [HQ.out]; exact (filter_off hx (decide_eq_false hu)).symm)
        clear hx
        go_wp2
        go_roundw
        case rel => first | exact ⟨j + 1, _, by omega, by go_num, HQ2, HT, HO⟩ | ((repeat apply Exists.intro); refine And.intro ?_ rfl; exact ⟨j + 1, _, by omega, by go_num, HQ2, HT, HO⟩)
        case measure => simp [intOf]; omega
    · have HQH := Lib.hid (show out = k.held.filter (fun x => decide (t < x.u)) by rw [HQ.out]; exact filter_end (by omega))
      obtain ⟨Ah, ch, hvh⟩ := OwnAt.form HO.out
      obtain ⟨nh, hnh⟩ : ∃ n, n = out.length := ⟨_, rfl⟩
      rw [← hnh] at hvh
      subst hvh
      clear hnh hlen HQ
      obtain ⟨wr0, rfl⟩ : ∃ x, x = wr := ⟨wr, rfl⟩
      have HT1 := Lib.hid (HT.out.later ((Below.refl _ wr0).alloc (Nat.le_refl _) (.cells #[] 164)))
      have HO1 := Lib.hid (ownAt_new (S := mkS) (t := 164) (B := wr0.heap.size) wr0 (Nat.le_refl _))
      have HH1 := Lib.hid (HO.out.alloc (.cells #[] 164))
      have HLt := Lib.hid (fun g (hg : (Value.slice Ah nh ch).ownBlock = some g) => (OwnAt.ltW HO.out hg).2)
      have hzA : wr0.heap.size ≤ (wr0.alloc (.cells #[] 164)).heap.size := by simp
      clear HT HO
      have hk1 : ¬ (j : Int) < (k.held.length : Int) := by omega
      go_wp2
      clear b3 b4 b5 g3 g4 g5
      go_loopw [7, 8] (fun ov i wr => ∃ (j : Nat) (outm : List Mk), j ≤ k.marks.length ∧ i = .int .i64 j ∧ Hid (outm = (k.marks.take j).filter (fun x => decide (t < x.u))) ∧ Hid (CB w wr k (.slice Aa k.held.length ca) (.slice Ab k.marks.length cb) (.slice Ac k.inbox.length cc)) ∧ Hid (OwnAt mkS 164 wr0.heap.size wr ov outm) ∧ Hid (OwnAt ntS 131 (w.heap.size + 2) wr (.slice Ah nh ch) out) ∧ wr0.heap.size ≤ wr.heap.size) (fun _ i _ => (k.marks.length + 1 : Nat) - (intOf i).toNat)
      case atStart => exact ⟨0, [], by omega, rfl, rfl, HT1, HO1, HH1, hzA⟩
      case round =>
        obtain ⟨j2, outm, hj2, rfl, HQ, HT, HO, HH, hzz⟩ := hrel
        clear HT1 HO1 HH1 hzA
        have hsz2 := HT.out.sz
        have hlen : outm.length ≤ j2 := by rw [HQ.out]; exact filter_short _
        obtain ⟨b0, b1, b2, b3, b4, b5, g0, g1, g2, g3, g4, g5⟩ := res_cells HT.out.box
        by_cases hjl2 : j2 < k.marks.length
        · have hx : k.marks[j2]? = some k.marks[j2] := List.getElem?_eq_getElem hjl2
          have hc := mark_at (HS.out.marks.later HT.out.bel) hx
          generalize k.marks[j2] = y at hx hc
          obtain ⟨g, c', e, hg, _, t0, t1, t2⟩ := hc
          injection e with e1 e2 e3
          subst e1; subst e3
          have hk0 : (0 : Int) ≤ (j2 : Int) := by omega
          have hk2 : (j2 : Int) < (k.marks.length : Int) := by omega
          by_cases hu : t < y.u
          · have HQ2 := Lib.hid (show outm ++ [y] = (k.marks.take (j2 + 1)).filter (fun x => decide (t < x.u)) by rw [HQ.out]; exact (filter_on hx (decide_eq_true hu)).symm)
            clear hx
            go_wp2_with (at_builtin; refine wpList_append_recs mkS (by decide) rfl _ _ 27 rfl wr0.heap.size 164 j0 _ 24 Tryz.underlying27 hj hy0 hy1 hy2 rfl _ _ _ rfl (HO.out.alloc _) (some ⟨wr.heap.size, 0, none⟩) 1 1 [y] rfl rfl (part_one wr y rfl) ?e3 ?e4 ?e5 ?_)
            case e3 => (show outm.length + 1 ≤ maxLen); unfold maxLen; omega
            case e4 => (show (outm.length + 1) * 24 ≤ 140737488355328); omega
            case e5 => first | omega | (simp; omega)
            intro v8 w8 hown hgrow
            have HT8 := Lib.hid (HT.out.more HO.out (by omega) hzz hgrow)
            have HO8 := Lib.hid (OwnAt.grew (l := outm) (y := y) hown rfl)
            have HH8 := Lib.hid ((HH.out.alloc _).same (fun g hg => hgrow.block g (OwnAt.ltW (HH.out.alloc _) hg).2 (fun e => by
              have h1 := HLt.out g hg
              have h2 := (OwnAt.ltW HO.out e.symm).1
              omega)))
            have hz8 : wr0.heap.size ≤ w8.heap.size := by have := hgrow.size; simp at this; omega
            clear hown hgrow b0 b1 b2 b3 b4 b5 g0 g1 g2 g3 g4 g5 t0 t1 t2
            go_wp2
            go_roundw
            case rel => first | exact ⟨j2 + 1, _, by omega, by go_num, HQ2, HT8, HO8, HH8, hz8⟩ | ((repeat apply Exists.intro); refine And.intro ?_ rfl; exact ⟨j2 + 1, _, by omega, by go_num, HQ2, HT8, HO8, HH8, hz8⟩)
            case measure => simp [intOf]; omega
          · have HQ2 := Lib.hid (show outm = (k.marks.take (j2 + 1)).filter (fun x => decide (t < x.u)) by rw [HQ.out]; exact (filter_off hx (decide_eq_false hu)).symm)
            clear hx
            go_wp2
            go_roundw
            case rel => first | exact ⟨j2 + 1, _, by omega, by go_num, HQ2, HT, HO, HH, hzz⟩ | ((repeat apply Exists.intro); refine And.intro ?_ rfl; exact ⟨j2 + 1, _, by omega, by go_num, HQ2, HT, HO, HH, hzz⟩)
            case measure => simp [intOf]; omega
        · have HQM := Lib.hid (show outm = k.marks.filter (fun x => decide (t < x.u)) by rw [HQ.out]; exact filter_end (by omega))
          obtain ⟨Am, cm, hvm⟩ := OwnAt.form HO.out
          obtain ⟨nm, hnm⟩ : ∃ n, n = outm.length := ⟨_, rfl⟩
          rw [← hnm] at hvm
          subst hvm
          clear hnm hlen HQ
          have hk2 : ¬ (j2 : Int) < (k.marks.length : Int) := by omega
          have hw0 : w.heap.size + 2 ≤ wr0.heap.size := hsz
          have HTn := Lib.hid (((HT.out.put1 t).put3 (.slice Ah nh ch)).put4 (.slice Am nm cm))
          have P1 := OwnAt.set (OwnAt.set (OwnAt.set HH.out (p := ⟨w.heap.size, 1, none⟩) (by show w.heap.size < w.heap.size + 2; omega) (.int .i64 t)) (p := ⟨w.heap.size, 3, none⟩) (by show w.heap.size < w.heap.size + 2; omega) (.slice Ah nh ch)) (p := ⟨w.heap.size, 4, none⟩) (by show w.heap.size < w.heap.size + 2; omega) (.slice Am nm cm)
          have P2 := OwnAt.set (OwnAt.set (OwnAt.set HO.out (p := ⟨w.heap.size, 1, none⟩) (by show w.heap.size < wr0.heap.size; omega) (.int .i64 t)) (p := ⟨w.heap.size, 3, none⟩) (by show w.heap.size < wr0.heap.size; omega) (.slice Ah nh ch)) (p := ⟨w.heap.size, 4, none⟩) (by show w.heap.size < wr0.heap.size; omega) (.slice Am nm cm)
          have HP1 := Lib.hid P1
          have HP2 := Lib.hid P2
          clear P1 P2 HT HO HH
          go_upto_region 16 with (fail)
          clear b0 b1 b2 b3 b4 b5 g0 g1 g2 g3 g4 g5
          generalize ((wr.setCell ⟨w.heap.size, 1, none⟩ (.int .i64 t)).setCell ⟨w.heap.size, 3, none⟩ (.slice Ah nh ch)).setCell ⟨w.heap.size, 4, none⟩ (.slice Am nm cm) = V3 at HTn HP1 HP2 ⊢
          obtain ⟨b0, b1, b2, b3, b4, b5, _, _, _, _, _, _⟩ := res_cells HTn.out.box
          obtain ⟨r0, r1, r2, r3, r4, r5, f0, f1, f2, f3, f4, f5⟩ := res_cells HTn.out.res
          have HC := Lib.hid (put6_blk (V := V3) (a' := .int .i64 k.id) (b' := .int .i64 t) (c' := .int .i64 k.next) (d' := .slice Ah nh ch) (e' := .slice Am nm cm) (f' := .slice Ac k.inbox.length cc) HTn.out.res)
          have HD := Lib.hid (put6_below (V := V3) (B := w.heap.size) (R := w.heap.size + 1) (by omega) HTn.out.bel (.int .i64 k.id) (.int .i64 t) (.int .i64 k.next) (.slice Ah nh ch) (.slice Am nm cm) (.slice Ac k.inbox.length cc))
          have HG := Lib.hid (show SeesK (put6 V3 (w.heap.size + 1) (.int .i64 k.id) (.int .i64 t) (.int .i64 k.next) (.slice Ah nh ch) (.slice Am nm cm) (.slice Ac k.inbox.length cc)) { k with time := t, held := out, marks := outm } (.slice Ah nh ch) (.slice Am nm cm) (.slice Ac k.inbox.length cc) from
            ⟨OwnAt.sees (OwnAt.put6 (W := V3) HP1.out (R := w.heap.size + 1) (by omega) _ _ _ _ _ _), OwnAt.sees (OwnAt.put6 (W := V3) HP2.out (R := w.heap.size + 1) (by omega) _ _ _ _ _ _), HS.out.inbox.later HD.out⟩)
          rw [HQH.out, HQM.out, ← HE.out] at HG
          have HF1 := Lib.hid (From.own (w := w) (v0 := .slice Aa k.held.length ca) HP1.out (by omega))
          have HF2 := Lib.hid (From.own (w := w) (v0 := .slice Ab k.marks.length cb) HP2.out (by omega))
          clear HTn HP1 HP2
          go_wp2
          have x0 := HC.out.cell 0
          have x1 := HC.out.cell 1
          have x2 := HC.out.cell 2
          have x3 := HC.out.cell 3
          have x4 := HC.out.cell 4
          have x5 := HC.out.cell 5
          refine bodyPost_ret (v := kpV k.id t k.next (.slice Ah nh ch) (.slice Am nm cm) (.slice Ac k.inbox.length cc)) (by simp [results, Tryz.results170, go_sem, x0, x1, x2, x3, x4, x5]) rfl ⟨_, _, _, rfl, HG.out, HD.out, HF1.out, HF2.out, From.refl _ _⟩
end Go.Proofs.YtjmmojjjopjdpaaGreatDoor.kp

/-
  Words for the doing of a record: sizes; what is told behind it.
-/
namespace Go.Proofs.YtjmmojjjopjdpaaGreatDoor.kp
open Go.ChangeShapes Go.WideShapes Go.ChangeAt Go.RowKit
open Go.Proofs.YtjmmojjjopjdpaaGreatDoor.wd Go.Proofs.YtjmmojjjopjdpaaGreatDoor.ow Go.Proofs.YtjmmojjjopjdpaaGreatDoor.rl Go.Proofs.YtjmmojjjopjdpaaGreatDoor.ok Go.Proofs.YtjmmojjjopjdpaaGreatDoor.nb Go.Proofs.YtjmmojjjopjdpaaGreatDoor.dc

/-- no list is long, no text is -/
structure Sz (n : Nat) (k : Kp) : Prop where
  h : k.held.length ≤ n
  m : k.marks.length ≤ n
  i : k.inbox.length ≤ n
  ht : ∀ x ∈ k.held, x.s.size ≤ 1048576
  it : ∀ x ∈ k.inbox, x.s.size ≤ 1048576
theorem Sz.few {n : Nat} {k : Kp} (h : Sz n k) (hn : n ≤ 1048576) : k.held.length ≤ 1048576 ∧ k.marks.length ≤ 1048576 ∧ k.inbox.length ≤ 1048576 := ⟨Nat.le_trans h.h hn, Nat.le_trans h.m hn, Nat.le_trans h.i hn⟩
theorem Sz.texts {n : Nat} {k : Kp} (h : Sz n k) : (∀ x ∈ k.held, x.s.size ≤ maxLen) ∧ ∀ x ∈ k.inbox, x.s.size ≤ maxLen :=
  ⟨fun x hx => Nat.le_trans (h.ht x hx) (by unfold maxLen; omega), fun x hx => Nat.le_trans (h.it x hx) (by unfold maxLen; omega)⟩
theorem okNt_size {x : Nt} (h : okNt x = true) : x.s.size ≤ 1048576 := by
  obtain ⟨_, _, _, _, h5, _⟩ := okN_parts h
  omega
theorem sz_ok {k : Kp} (h : okK k = true) : Sz 12 k := by
  obtain ⟨_, _, _, h4, h5, h6, _⟩ := okK_parts h
  exact ⟨by have := (okNts_parts h4).1; omega, (okMks_parts h5).1, by have := (okNts_parts h6).1; omega, fun x hx => okNt_size (okNts_mem h4 hx), fun x hx => okNt_size (okNts_mem h6 hx)⟩
theorem Sz.up {n m : Nat} {k : Kp} (h : Sz n k) (hn : n ≤ m) : Sz m k := ⟨Nat.le_trans h.h hn, Nat.le_trans h.m hn, Nat.le_trans h.i hn, h.ht, h.it⟩
theorem mem_putL {α : Type} {p : α → Bool} {l : List α} {x y : α} (h : y ∈ putL p l x) : y = x ∨ y ∈ l := by
  unfold putL at h
  rw [List.mem_append, List.mem_cons] at h
  rcases h with h | h | h
  · exact .inr (List.mem_of_mem_take h)
  · exact .inl h
  · exact .inr (List.mem_of_mem_drop h)
theorem mem_cutL {α : Type} {l : List α} {i : Nat} {y : α} (h : y ∈ cutL l i) : y ∈ l := by
  unfold cutL at h
  rw [List.mem_append] at h
  rcases h with h | h
  · exact List.mem_of_mem_take h
  · exact List.mem_of_mem_drop h
theorem cutL_le {α : Type} (l : List α) (i : Nat) : (cutL l i).length ≤ l.length := by
  unfold cutL
  rw [List.length_append, List.length_take, List.length_drop]
  omega
section
variable {n : Nat} {k : Kp}
theorem sz_time (h : Sz n k) (v : Int) : Sz n (timeS k v) :=
  ⟨Nat.le_trans (List.length_filter_le _ _) h.h, Nat.le_trans (List.length_filter_le _ _) h.m, h.i, fun x hx => h.ht x (List.mem_filter.1 hx).1, h.it⟩
theorem sz_held (h : Sz n k) {x : Nt} (hx : x.s.size ≤ 1048576) : Sz (n + 1) { k with held := putN k.held x } :=
  ⟨by show (putN k.held x).length ≤ _; rw [putN_len]; exact Nat.succ_le_succ h.h, Nat.le_succ_of_le h.m, Nat.le_succ_of_le h.i, fun y hy => by rcases mem_putL hy with rfl | h'; exact hx; exact h.ht y h', h.it⟩
theorem sz_inbox (h : Sz n k) {x : Nt} (hx : x.s.size ≤ 1048576) : Sz (n + 1) { k with inbox := putN k.inbox x } :=
  ⟨Nat.le_succ_of_le h.h, Nat.le_succ_of_le h.m, by show (putN k.inbox x).length ≤ _; rw [putN_len]; exact Nat.succ_le_succ h.i, h.ht, fun y hy => by rcases mem_putL hy with rfl | h'; exact hx; exact h.it y h'⟩
theorem sz_mark (h : Sz n k) (m : Mk) : Sz (n + 1) { k with marks := putM k.marks m } :=
  ⟨Nat.le_succ_of_le h.h, by show (putM k.marks m).length ≤ _; rw [putM_len]; exact Nat.succ_le_succ h.m, Nat.le_succ_of_le h.i, h.ht, h.it⟩
theorem sz_next (h : Sz n k) (v : Int) : Sz n { k with next := v } := ⟨h.h, h.m, h.i, h.ht, h.it⟩
theorem sz_take (h : Sz n k) {x : Nt} (hx : x.s.size ≤ 1048576) : Sz (n + 1) (takeS k x) := by
  unfold takeS
  split
  · split
    · have h1 := sz_inbox h hx
      have h2 := sz_mark h ⟨x.f, x.n, x.u⟩
      exact ⟨h1.h, h2.m, h1.i, h1.ht, h1.it⟩
    · exact sz_held h hx
  · exact h.up (Nat.le_succ _)
theorem sz_let (h : Sz n k) (i : Nat) (m : Mk) : Sz (n + 1) (letS k i m) :=
  ⟨Nat.le_succ_of_le (Nat.le_trans (cutL_le _ _) h.h), (sz_mark h m).m, Nat.le_succ_of_le h.i, fun y hy => h.ht y (mem_cutL hy), h.it⟩
theorem sz_eat (h : Sz n k) (i : Nat) : Sz n (eatS k i) :=
  ⟨h.h, h.m, Nat.le_trans (cutL_le _ _) h.i, h.ht, fun y hy => h.it y (mem_cutL hy)⟩
end
theorem CB.put2 {w V : World} {k : Kp} {a b c : Value} (h : CB w V k a b c) (v : Int) : CB w (V.setCell ⟨w.heap.size, 2, none⟩ (.int .i64 v)) { k with next := v } a b c := ⟨h.box.put 2 _, h.res.far (p := ⟨w.heap.size, 2, none⟩) (by show w.heap.size + 1 ≠ w.heap.size; omega) _, h.bel.setCell (p := ⟨w.heap.size, 2, none⟩) (Nat.le_refl _) _, by simpa using h.sz⟩
def RecPost (w : World) (k : Kp) (l : List UInt8) (e : Ending) (w' : World) : Prop := ∃ (k' : Kp) (b : Bool), RecP k l k' b ∧ Sz 14 k' ∧ ∃ vh vm vi, e = .returned (.tuple #[kpV k'.id k'.time k'.next vh vm vi, .bool b]) ∧ SeesK w' k' vh vm vi ∧ Below w.heap.size w w'
theorem sees_set {α : Type} {S : Shape α} {W : World} {v : Value} {l : List α} (p : Addr) (x : Value) (h : SeesR S W v l) (hp : v.ownBlock ≠ some p.block) : SeesR S (W.setCell p x) v l := by
  obtain ⟨A, c, rfl, hc⟩ := h
  refine ⟨A, c, rfl, ?_⟩
  rcases hc with hc | ⟨g, rfl, hg, hcell⟩
  · exact .inl hc
  · refine .inr ⟨g, rfl, by simpa using hg, fun i y hy j u hu => ?_⟩
    have e : (W.setCell p x).cell? ⟨g, i * S.n + j, none⟩ = W.cell? ⟨g, i * S.n + j, none⟩ := by
      apply World.cell?_setCell_other
      intro e
      apply hp
      rw [e]
      rfl
    rw [e]
    exact hcell i y hy j u hu
theorem sees_blk {α : Type} {S : Shape α} {W : World} {v : Value} {l : List α} (h : SeesR S W v l) {g : Nat} (hg : v.ownBlock = some g) : g < W.heap.size := by
  obtain ⟨A, c, rfl, hc⟩ := h
  rcases hc with ⟨rfl, _⟩ | ⟨g', rfl, hg', _⟩
  · cases hg
  · injection hg with hg
    exact hg ▸ hg'
theorem sees_put6 {α : Type} {S : Shape α} {W : World} {v : Value} {l : List α} {R : Nat} (h : SeesR S W v l) (hp : v.ownBlock ≠ some R) (a b c d e f : Value) : SeesR S (put6 W R a b c d e f) v l :=
  sees_set ⟨R, 5, none⟩ f (sees_set ⟨R, 4, none⟩ e (sees_set ⟨R, 3, none⟩ d (sees_set ⟨R, 2, none⟩ c (sees_set ⟨R, 1, none⟩ b (sees_set ⟨R, 0, none⟩ a h hp) hp) hp) hp) hp) hp
theorem From.ne {α : Type} {S : Shape α} {w0 w : World} {v v0 : Value} {l : List α} {R : Nat} (h : From w v v0) (hs : SeesR S w0 v0 l) (h0 : w0.heap.size ≤ R) (h1 : R < w.heap.size) : v.ownBlock ≠ some R := fun e => by
  rcases h R e with h | h
  · omega
  · have := sees_blk hs h
    omega
/-- what a call gave back, behind the result's block being written -/
theorem OutK.put6 {w0 w w' : World} {k0 k : Kp} {a b c vh vm vi : Value} {R : Nat} (h : OutK w w' k a b c vh vm vi) (hs : SeesK w0 k0 a b c) (h0 : w0.heap.size ≤ R) (h1 : R < w.heap.size) (x0 x1 x2 x3 x4 x5 : Value) : SeesK (put6 w' R x0 x1 x2 x3 x4 x5) k vh vm vi :=
  ⟨sees_put6 h.sees.held (h.fh.ne hs.held h0 h1) _ _ _ _ _ _, sees_put6 h.sees.marks (h.fm.ne hs.marks h0 h1) _ _ _ _ _ _, sees_put6 h.sees.inbox (h.fi.ne hs.inbox h0 h1) _ _ _ _ _ _⟩
theorem cell_set {W : World} {g i R j : Nat} (h : g ≠ R) (x : Value) : (W.setCell ⟨R, j, none⟩ x).cell? ⟨g, i, none⟩ = W.cell? ⟨g, i, none⟩ := by
  apply World.cell?_setCell_other
  intro e
  injection e with e
  exact h e.symm
theorem cell_put6 {W : World} {g i R : Nat} (h : g ≠ R) (a b c d e f : Value) : (put6 W R a b c d e f).cell? ⟨g, i, none⟩ = W.cell? ⟨g, i, none⟩ := by
  unfold put6
  rw [cell_set h, cell_set h, cell_set h, cell_set h, cell_set h, cell_set h]
theorem kpV_eq {k k' : Kp} (h : k = k') (a b c : Value) : kpV k.id k.time k.next a b c = kpV k'.id k'.time k'.next a b c := by rw [h]
end Go.Proofs.YtjmmojjjopjdpaaGreatDoor.kp

