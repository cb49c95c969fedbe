/-
  Merged texts: IDo, LawK.
-/
import Derived.Test.YtgihbilpimempabGreatDoorGFnExactKeepDo45
import Derived.Test.YtgihbilpimempabGreatDoorGFnExactKeepDo25
import Derived.Test.YtgihbilpimempabGreatDoorGFnExactKeepDo7
/-
  Contract of impl.KeepDo.
-/
namespace Go.Proofs.YtgihbilpimempabGreatDoor.kp
open Go.ChangeShapes Go.WideShapes Go.ChangeAt Go.RowKit
open Go.Proofs.YtgihbilpimempabGreatDoor.wd Go.Proofs.YtgihbilpimempabGreatDoor.ow Go.Proofs.YtgihbilpimempabGreatDoor.rl Go.Proofs.YtgihbilpimempabGreatDoor.ok Go.Proofs.YtgihbilpimempabGreatDoor.nb Go.Proofs.YtgihbilpimempabGreatDoor.nx Go.Proofs.YtgihbilpimempabGreatDoor.dc

/-- a keep that was worked on is the call's own -/
theorem MK.ownK {w V : World} {g : Nat} {k : Kp} {a b c : Value} (h : MK w.heap.size V g k a b c) (hB : Below w.heap.size w V) : OwnK w V k a b c :=
  ⟨⟨h.own.held, hB⟩, ⟨h.own.marks, hB⟩, ⟨h.own.inbox, hB⟩, h.own.hm, h.own.hi, h.own.mi⟩
/-- a keep of the call's own, put into a block -/
theorem OwnK.toMK {w V : World} {k : Kp} {a b c : Value} (h : OwnK w V k a b c) : MK w.heap.size (V.alloc (.cells #[.int .i64 k.id, .int .i64 k.time, .int .i64 k.next, a, b, c] 29)) V.heap.size k a b c := by
  have hb := (Below.refl V.heap.size V).alloc (Nat.le_refl _) (.cells #[.int .i64 k.id, .int .i64 k.time, .int .i64 k.next, a, b, c] 29)
  exact ⟨Blk.new V _ _, (h.three).later hb, h.off (Nat.le_refl _), h.bel.size, Nat.le_trans h.bel.size hb.size⟩

theorem CB.below1 {w V V' : World} {k : Kp} {a b c : Value} {B : Nat} (h : CB w V k a b c) (hb : Below B V V') (hB : w.heap.size + 2 ≤ B) : CB w V' k a b c :=
  ⟨h.box.below hb (by omega), h.res.below hb (by omega), h.bel.trans (hb.mono (by omega)), Nat.le_trans h.sz hb.size⟩

set_option maxRecDepth 100000 in
set_option maxHeartbeats 4000000 in
theorem ikeepDo_any (w : World) (k : Kp) (a b c : Value) (l : List UInt8) (hs : l.length ≤ 1048576) (h : SeesK w k a b c) (hl : k.held.length ≤ 1048576 ∧ k.marks.length ≤ 1048576 ∧ k.inbox.length ≤ 1048576) (hz : (∀ x ∈ k.held, x.s.size ≤ maxLen) ∧ ∀ x ∈ k.inbox, x.s.size ≤ maxLen) (hTab : Tab w) (hErr : Errs w) :
    Calls Tryz.prog 10 #[kpV k.id k.time k.next a b c, .string (str l)] w (DoPost w k l) := by
  have HS := Lib.hid h
  have HO := Lib.hid (fun V (hV : Below w.heap.size w V) => ikeepOk_any V k a b c (h.later hV) hl hz)
  have HK := Lib.hid (fun V (hV : Below w.heap.size w V) => icopyK_any V k a b c (h.later hV) hl)
  unfold BoolK at HO
  unfold KeepPost at HK
  obtain ⟨Aa, ca, rfl, _⟩ := h.held
  obtain ⟨Ab, cb, rfl, _⟩ := h.marks
  obtain ⟨Ac, cc, rfl, _⟩ := h.inbox
  have HT := Lib.hid (CB.new w k (.slice Aa k.held.length ca) (.slice Ab k.marks.length cb) (.slice Ac k.inbox.length cc))
  clear h
  cases hok : okK k with
  | false =>
    have hP : DoK k l zeroK false := .inl ⟨hok, rfl, rfl⟩
    have HP := Lib.hid hP
    clear hP
    rw [hok] at HO
    clear hok HK
    generalize str l = s
    go_enter Tryz.func10, Tryz.ntmps10
    go_upto_region 1 with (fail)
    generalize (w.alloc (.cells #[.int .i64 k.id, .int .i64 k.time, .int .i64 k.next, .slice Aa k.held.length ca, .slice Ab k.marks.length cb, .slice Ac k.inbox.length cc] 29)).alloc (.cells #[.int .i64 0, .int .i64 0, .int .i64 0, .slice none 0 0, .slice none 0 0, .slice none 0 0] 29) = V at HT ⊢
    obtain ⟨b0, b1, b2, b3, b4, b5, g0, g1, g2, g3, g4, g5⟩ := res_cells HT.out.box
    obtain ⟨r0, r1, r2, r3, r4, r5, f0, f1, f2, f3, f4, f5⟩ := res_cells HT.out.res
    go_wp2_with fail
    refine (HO.out _ HT.out.bel).mono ?_
    rintro e w1 ⟨rfl, hB1⟩
    have HT1 := Lib.hid (HT.out.later hB1)
    clear HT hB1 HO
    clear b0 b1 b2 b3 b4 b5 g0 g1 g2 g3 g4 g5 r0 r1 r2 r3 r4 r5 f0 f1 f2 f3 f4 f5
    obtain ⟨b0, b1, b2, b3, b4, b5, g0, g1, g2, g3, g4, g5⟩ := res_cells HT1.out.box
    obtain ⟨r0, r1, r2, r3, r4, r5, f0, f1, f2, f3, f4, f5⟩ := res_cells HT1.out.res
    have HC := Lib.hid (put6_blk (V := w1) (a' := .int .i64 0) (b' := .int .i64 0) (c' := .int .i64 0) (d' := .slice none 0 0) (e' := .slice none 0 0) (f' := .slice none 0 0) HT1.out.res)
    have HD := Lib.hid (put6_below (V := w1) (B := w.heap.size) (R := w.heap.size + 1) (by omega) HT1.out.bel (.int .i64 0) (.int .i64 0) (.int .i64 0) (.slice none 0 0) (.slice none 0 0) (.slice none 0 0))
    go_wp2
    have x0 := HC.out.cell 0
    have x1 := HC.out.cell 1
    have x2 := HC.out.cell 2
    have x3 := HC.out.cell 3
    have x4 := HC.out.cell 4
    have x5 := HC.out.cell 5
    refine bodyPost_ret (v := .tuple #[kpV 0 0 0 (.slice none 0 0) (.slice none 0 0) (.slice none 0 0), .bool false]) (by simp [results, Tryz.results10, go_sem, x0, x1, x2, x3, x4, x5]) rfl ⟨zeroK, false, _, _, _, rfl, HP.out, ⟨Nat.zero_le _, Nat.zero_le _, Nat.zero_le _, (fun _ h => by cases h), (fun _ h => by cases h)⟩, nil_own HD.out rfl rfl rfl⟩
  | true =>
    have HOK := Lib.hid hok
    rw [hok] at HO
    clear hok
    have HAp := Lib.hid (fun B V g a b c (hM : MK B V g k a b c) hT hE => apply_any B V g k a b c l hs hM HOK.out hT hE)
    unfold ApP at HAp
    generalize str l = s at HAp ⊢
    go_enter Tryz.func10, Tryz.ntmps10
    go_upto_region 1 with (fail)
    generalize (w.alloc (.cells #[.int .i64 k.id, .int .i64 k.time, .int .i64 k.next, .slice Aa k.held.length ca, .slice Ab k.marks.length cb, .slice Ac k.inbox.length cc] 29)).alloc (.cells #[.int .i64 0, .int .i64 0, .int .i64 0, .slice none 0 0, .slice none 0 0, .slice none 0 0] 29) = V at HT ⊢
    obtain ⟨b0, b1, b2, b3, b4, b5, g0, g1, g2, g3, g4, g5⟩ := res_cells HT.out.box
    go_wp2_with fail
    refine (HO.out _ HT.out.bel).mono ?_
    rintro e w1 ⟨rfl, hB1⟩
    have HT1 := Lib.hid (HT.out.later hB1)
    clear HT hB1 HO
    clear b0 b1 b2 b3 b4 b5 g0 g1 g2 g3 g4 g5
    obtain ⟨b0, b1, b2, b3, b4, b5, g0, g1, g2, g3, g4, g5⟩ := res_cells HT1.out.box
    go_wp2_with fail
    refine (HK.out _ HT1.out.bel).mono ?_
    rintro e w2 ⟨vh, vm, vi, rfl, hO2⟩
    have HT2 := Lib.hid (HT1.out.later hO2.bel)
    obtain ⟨A2, c2, rfl⟩ := OwnR.form hO2.held
    obtain ⟨B2, d2, rfl⟩ := OwnR.form hO2.marks
    obtain ⟨C2, e2, rfl⟩ := OwnR.form hO2.inbox
    have hM := hO2.toMK
    have B3 := (Below.refl w2.heap.size w2).alloc (Nat.le_refl _) (.cells #[.int .i64 k.id, .int .i64 k.time, .int .i64 k.next, .slice A2 k.held.length c2, .slice B2 k.marks.length d2, .slice C2 k.inbox.length e2] 29)
    have HT3 := Lib.hid (HT2.out.later B3)
    have HM := Lib.hid hM
    have HL1 := Lib.hid HT1.out.sz
    have HF1 := Lib.hid (hO2.bel.trans (B3.mono hO2.bel.size))
    clear b0 b1 b2 b3 b4 b5 g0 g1 g2 g3 g4 g5 HT2 hO2 hM B3
    go_upto_region 4 with (fail)
    generalize w2.alloc (.cells #[.int .i64 k.id, .int .i64 k.time, .int .i64 k.next, .slice A2 k.held.length c2, .slice B2 k.marks.length d2, .slice C2 k.inbox.length e2] 29) = V3 at HT3 HM HF1 ⊢
    generalize w2.heap.size = g at HM ⊢
    have hbel := HT3.out.bel
    go_wp2_with fail
    refine (HAp.out w1.heap.size V3 g _ _ _ HM.out (hTab.later hbel) (hErr.later hbel)).mono ?_
    rintro e w4 (⟨k', a', b', c', rfl, hd, hM4, hB4⟩ | ⟨rfl, hd, hB4⟩)
    · have HP := Lib.hid (show DoK k l k' true from .inr ⟨HOK.out, hd⟩)
      have hok' := does_ok hd
      have HZZ := Lib.hid ((sz_ok hok').up (show 12 ≤ 14 by omega))
      have HT4 := Lib.hid (HT3.out.below1 hB4 HL1.out)
      obtain ⟨r0, r1, r2, r3, r4, r5, f0, f1, f2, f3, f4, f5⟩ := res_cells HT4.out.res
      obtain ⟨k0, k1, k2, k3, k4, k5⟩ := KBox.cells hM4.box
      obtain ⟨A4, c4, rfl⟩ := OwnAt.form hM4.own.held
      obtain ⟨B4, d4, rfl⟩ := OwnAt.form hM4.own.marks
      obtain ⟨C4, e4, rfl⟩ := OwnAt.form hM4.own.inbox
      have HC := Lib.hid (put6_blk (V := w4) (a' := .int .i64 k'.id) (b' := .int .i64 k'.time) (c' := .int .i64 k'.next) (d' := .slice A4 k'.held.length c4) (e' := .slice B4 k'.marks.length d4) (f' := .slice C4 k'.inbox.length e4) HT4.out.res)
      have HD := Lib.hid (put6_below (V := w4) (B := w.heap.size) (R := w.heap.size + 1) (by omega) HT4.out.bel (.int .i64 k'.id) (.int .i64 k'.time) (.int .i64 k'.next) (.slice A4 k'.held.length c4) (.slice B4 k'.marks.length d4) (.slice C4 k'.inbox.length e4))
      have HG := Lib.hid (OwnK.put6 (R := w.heap.size + 1) (hM4.ownK (HF1.out.trans hB4)) (by have := HL1.out; omega) (by have := HL1.out; omega) HD.out)
      clear hM4 hB4 HT3 HM hd hok' HAp HK
      clear hbel
      go_wp2
      have x0 := HC.out.cell 0
      have x1 := HC.out.cell 1
      have x2 := HC.out.cell 2
      have x3 := HC.out.cell 3
      have x4 := HC.out.cell 4
      have x5 := HC.out.cell 5
      refine bodyPost_ret (v := .tuple #[kpV k'.id k'.time k'.next (.slice A4 k'.held.length c4) (.slice B4 k'.marks.length d4) (.slice C4 k'.inbox.length e4), .bool true]) (by simp [results, Tryz.results10, go_sem, x0, x1, x2, x3, x4, x5]) rfl ⟨k', true, _, _, _, rfl, HP.out, HZZ.out, HG.out⟩
    · have HP := Lib.hid (show DoK k l k false from .inr ⟨HOK.out, hd⟩)
      have HZZ := Lib.hid ((sz_ok HOK.out).up (show 12 ≤ 14 by omega))
      have HT4 := Lib.hid (HT3.out.below1 hB4 HL1.out)
      clear hd hB4 HT3 HM HAp hbel
      obtain ⟨b0, b1, b2, b3, b4, b5, g0, g1, g2, g3, g4, g5⟩ := res_cells HT4.out.box
      go_wp2_with fail
      refine (HK.out _ HT4.out.bel).mono ?_
      rintro e w9 ⟨vh, vm, vi, rfl, hO⟩
      obtain ⟨A9, c9, rfl⟩ := OwnR.form hO.held
      obtain ⟨B9, d9, rfl⟩ := OwnR.form hO.marks
      obtain ⟨C9, e9, rfl⟩ := OwnR.form hO.inbox
      have HT9 := Lib.hid (HT4.out.later hO.bel)
      have hsz := HT4.out.sz
      have HC := Lib.hid (put6_blk (V := w9) (a' := .int .i64 k.id) (b' := .int .i64 k.time) (c' := .int .i64 k.next) (d' := .slice A9 k.held.length c9) (e' := .slice B9 k.marks.length d9) (f' := .slice C9 k.inbox.length e9) HT9.out.res)
      have HD := Lib.hid (put6_below (V := w9) (B := w.heap.size) (R := w.heap.size + 1) (by omega) HT9.out.bel (.int .i64 k.id) (.int .i64 k.time) (.int .i64 k.next) (.slice A9 k.held.length c9) (.slice B9 k.marks.length d9) (.slice C9 k.inbox.length e9))
      have HG := Lib.hid (OwnK.put6 hO (by omega) (by omega) HD.out)
      clear hO HT4 HK
      clear b0 b1 b2 b3 b4 b5 g0 g1 g2 g3 g4 g5
      obtain ⟨r0, r1, r2, r3, r4, r5, f0, f1, f2, f3, f4, f5⟩ := res_cells HT9.out.res
      go_wp2
      have x0 := HC.out.cell 0
      have x1 := HC.out.cell 1
      have x2 := HC.out.cell 2
      have x3 := HC.out.cell 3
      have x4 := HC.out.cell 4
      have x5 := HC.out.cell 5
      refine bodyPost_ret (v := .tuple #[kpV k.id k.time k.next (.slice A9 k.held.length c9) (.slice B9 k.marks.length d9) (.slice C9 k.inbox.length e9), .bool false]) (by simp [results, Tryz.results10, go_sem, x0, x1, x2, x3, x4, x5]) rfl ⟨k, false, _, _, _, rfl, HP.out, HZZ.out, HG.out⟩
end Go.Proofs.YtgihbilpimempabGreatDoor.kp

/-
  Words for the laws over what a keeper has: where the lists of a call's answer lie; lists beside others that are written over by marks.
-/
namespace Go.Proofs.YtgihbilpimempabGreatDoor.kp
open Go.ChangeShapes Go.WideShapes Go.ChangeAt Go.RowKit
open Go.Proofs.YtgihbilpimempabGreatDoor.wd Go.Proofs.YtgihbilpimempabGreatDoor.ow Go.Proofs.YtgihbilpimempabGreatDoor.rl Go.Proofs.YtgihbilpimempabGreatDoor.ok Go.Proofs.YtgihbilpimempabGreatDoor.nb

/-- the blocks of three lists lie from lo on, below hi -/
def Rg (a b c : Value) (lo hi : Nat) : Prop := ∀ g, a.ownBlock = some g ∨ b.ownBlock = some g ∨ c.ownBlock = some g → lo ≤ g ∧ g < hi
section
variable {B lo hi R : Nat} {w W W' : World} {k : Kp} {a b c a' b' c' : Value}
theorem OwnK.rg (h : OwnK w W k a b c) : Rg a b c w.heap.size W.heap.size := fun g hg => by
  rcases hg with hg | hg | hg
  · exact h.held.lt hg
  · exact h.marks.lt hg
  · exact h.inbox.lt hg
theorem Own3.keep (h : Own3 B W k a b c) (hs : ∀ g, a.ownBlock = some g ∨ b.ownBlock = some g ∨ c.ownBlock = some g → W'.heap[g]? = W.heap[g]?) : Own3 B W' k a b c :=
  ⟨h.held.same fun g hg => hs g (.inl hg), h.marks.same fun g hg => hs g (.inr (.inl hg)), h.inbox.same fun g hg => hs g (.inr (.inr hg)), h.hm, h.hi, h.mi⟩
theorem Own3.rg (h : Own3 B W k a b c) : Rg a b c B W.heap.size := fun g hg => by
  rcases hg with hg | hg | hg
  · exact h.held.lt hg
  · exact h.marks.lt hg
  · exact h.inbox.lt hg
/-- lists that lie elsewhere are not written over -/
theorem Own3.beside (h : Own3 B W k a b c) (hm : Marked W W' a' b' c') (hr : Rg a' b' c' lo hi) (hB : hi ≤ B) : Own3 B W' k a b c :=
  h.keep fun g hg => by
    obtain ⟨h1, h2⟩ := h.rg g hg
    exact hm.block g h2 (fun e => by have := (hr g (.inl e)).2; omega) (fun e => by have := (hr g (.inr (.inl e))).2; omega) (fun e => by have := (hr g (.inr (.inr e))).2; omega)
theorem Rg.off (h : Rg a b c lo hi) (hR : R < lo ∨ hi ≤ R) : Off R a b c :=
  ⟨fun e => by have := h R (.inl e); omega, fun e => by have := h R (.inr (.inl e)); omega, fun e => by have := h R (.inr (.inr e)); omega⟩
end
end Go.Proofs.YtgihbilpimempabGreatDoor.kp

