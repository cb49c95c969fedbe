/-
  Merged texts: IHas2, SCopy, RecCut, RecRow.
-/
import Derived.Test.YtckicpnnclbkpaaGreatDoorE13
import Derived.Deep.RegionLaw
import Derived.Laws.IdiomCopy
import Derived.Lib.AppendZerosOnto
import Derived.Lib.Overlaps
namespace Go.Proofs.YtckicpnnclbkpaaGreatDoor.kp
open Go.ChangeShapes Go.WideShapes Go.ChangeAt Go.RowKit
open wd ow rl ok nb nx
theorem three {w : World} {g : Nat} {T : TypeId} {a b c : Value} (h : Blk w g T #[a, b, c]) :
  w.cell? ⟨g, 0, none⟩ = some a ∧ w.cell? ⟨g, 1, none⟩ = some b ∧ w.cell? ⟨g, 2, none⟩ = some c ∧ g < w.heap.size :=
 ⟨h.cell 0, h.cell 1, h.cell 2, h.lt⟩
theorem cmp_is (f n f' n' : Int) : (cmpM f n f' n' == 0) = (f == f' && n == n') := by
 rw [Bool.eq_iff_iff, beq_iff_eq, cmpM_eq, Bool.and_eq_true, beq_iff_eq, beq_iff_eq]
set_option maxRecDepth 100000 in
set_option maxHeartbeats 800000 in
theorem hasM_pred (b : Nat) (f n u : Int) (w : World) (l : List Mk) (hb : Blk w b 108 #[.int .i64 f, .int .i64 n, .int .i64 u]) : PredM 217 b w l (fun x => x.f == f && x.n == n) := by
 intro V x hB _
 have k1 := hb.below hB hb.lt
 have k2 := Blk.new V 108 #[.int .i64 x.f, .int .i64 x.n, .int .i64 x.u]
 have k3 := k1.alloc (.cells #[.int .i64 x.f, .int .i64 x.n, .int .i64 x.u] 108)
 have hB0 := (Below.refl V.heap.size V).alloc (Nat.le_refl _) (.cells #[.int .i64 x.f, .int .i64 x.n, .int .i64 x.u] 108)
 have HE := Lib.hid (cmp_is x.f x.n f n)
 clear hb hB k1
 unfold mark
 go_enter Tryz.func217, Tryz.ntmps217
 go_wp2_with fail
 generalize V.alloc (.cells #[.int .i64 x.f, .int .i64 x.n, .int .i64 x.u] 108) = W at *
 obtain ⟨c0, c1, c2⟩ := qa.three k2
 obtain ⟨d0, d1, d2⟩ := qa.three k3
 have HB := Lib.hid hB0
 clear k2 k3 hB0
 have hm := mMark
 refine qa.region (by kernel_rfl) (by kernel_rfl) ?_
 repeat (go_big_quiet_step (first | (go_at_call 273; exact qa.of_below (mmark_any _ _ _ _)) | (go_at_call 157; exact qa.of_below (compare_any _ _ _ _ _ _ _))))
 refine wpQuiet_nil ?_
 rintro _ ⟨p, rfl⟩
 have HB2 := Lib.hid (HB.out.trans (p.h.mono HB.out.size))
 clear c0 c1 c2 d0 d1 d2 hm
 go_wp2
 go_ret
 exact ⟨nb.ret_bool HE.out, HB2.out⟩
theorem mkfn (fn : Fn) (first cap : Array Value) (w : World) : (Instr.makeFunc fn first cap).run Tryz.prog w = .ok (.func fn first cap) w := rfl
theorem find_any {α : Type} {p : α → Bool} {l : List α} (h : l.any p = true) : ∃ y, l[l.findIdx p]? = some y ∧ l.find? p = some y ∧ l.findIdx p < l.length := by
 obtain ⟨x, hx, hp⟩ := List.any_eq_true.1 h
 have hlt : l.findIdx p < l.length := List.findIdx_lt_length_of_exists ⟨x, hx, hp⟩
 refine ⟨l[l.findIdx p], List.getElem?_eq_getElem hlt, ?_, hlt⟩
 rw [List.find?_eq_some_iff_getElem]
 refine ⟨List.findIdx_getElem (w := hlt), _, hlt, rfl, fun j hj => ?_⟩
 have := List.not_of_lt_findIdx hj
 simpa using this
theorem find_none {α : Type} {p : α → Bool} {l : List α} (h : l.any p = false) : l.find? p = none := by
 rw [List.find?_eq_none]
 intro x hx
 rw [List.any_eq_false] at h
 exact h x hx
def fstM (l : List Mk) (f n : Int) : Mk := (l.find? (fun x => x.f == f && x.n == n)).getD ⟨0, 0, 0⟩
def FindMP (w : World) (l : List Mk) (f n : Int) (e : Ending) (w' : World) : Prop := e = .returned (.tuple #[mkV (fstM l f n), .bool (hasM l f n)]) ∧ Below w.heap.size w w'
set_option maxRecDepth 100000 in
set_option maxHeartbeats 800000 in
theorem findM_any (w : World) (v : Value) (l : List Mk) (h : SeesMk w v l) (hl : l.length ≤ 1048576) (f n u : Int) :
  Calls Tryz.prog 192 #[v, mark f n u] w (FindMP w l f n) := by
 have k1 := (Blk.new w 108 #[.int .i64 f, .int .i64 n, .int .i64 u]).alloc (.cells #[.int .i64 0, .int .i64 0, .int .i64 0] 108)
 have kz := Blk.new (w.alloc (.cells #[.int .i64 f, .int .i64 n, .int .i64 u] 108)) 108 #[.int .i64 0, .int .i64 0, .int .i64 0]
 rw [World.size_alloc] at kz
 have hB0 : Below w.heap.size w ((w.alloc (.cells #[.int .i64 f, .int .i64 n, .int .i64 u] 108)).alloc (.cells #[.int .i64 0, .int .i64 0, .int .i64 0] 108)) := ((Below.refl _ _).alloc (Nat.le_refl _) _).alloc (by simp) _
 have hS := srch_hasM _ v l (h.later hB0) hl _ _ (hasM_pred _ f n u _ l k1)
 have HL := Lib.hid h
 have HB := Lib.hid hB0
 have HKz := Lib.hid kz
 have hmf := mkfn
 have HF := Lib.hid (show fstM l f n = (l.find? (fun x => x.f == f && x.n == n)).getD ⟨0, 0, 0⟩ from rfl)
 have HA := Lib.hid (show hasM l f n = l.any (fun x => x.f == f && x.n == n) from rfl)
 obtain ⟨A, c, rfl, _⟩ := h
 clear k1 kz hB0
 unfold mark
 cases ha : l.any (fun x => x.f == f && x.n == n) with
 | true =>
  obtain ⟨y, hy, hf, hlt⟩ := find_any ha
  rw [ha] at hS HA
  have HF2 := Lib.hid (show fstM l f n = y by rw [HF.out, hf]; rfl)
  generalize l.findIdx (fun x => x.f == f && x.n == n) = i at hS hy hlt
  have HS := Lib.hid hS
  have hi1 : (i : Int) < (l.length : Int) := by omega
  clear hS ha hf HF
  go_enter Tryz.func192, Tryz.ntmps192
  go_wp2_with fail
  refine HS.out.mono ?_
  rintro e w2 ⟨rfl, hB2⟩
  have hB3 := HB.out.trans (hB2.mono HB.out.size)
  have hz2 := HKz.out.below hB2 HKz.out.lt
  obtain ⟨g, c', e, hg, _, t0, t1, t2⟩ := mark_at (HL.out.later hB3) hy
  injection e with e1 e2 e3
  subst e1; subst e3
  have HB2 := Lib.hid hB3
  have z0 := hz2.cell 0
  have z1 := hz2.cell 1
  have z2 := hz2.cell 2
  have y0 := hz2.frozen 0
  have y1 := hz2.frozen 1
  have y2 := hz2.frozen 2
  simp only [List.getElem?_toArray, List.getElem?_cons_zero, List.getElem?_cons_succ] at z0 z1 z2
  clear hB2 hB3 hy HKz hz2
  go_wp2
  refine bodyPost_ret (v := .tuple #[mark y.f y.n y.u, .bool true]) (by simp [results, Tryz.results192, go_sem, mark, *]) rfl ⟨by rw [HF2.out, HA.out]; rfl, ?_⟩
  exact (((HB2.out).setCell (p := ⟨w.heap.size + 1, 0, none⟩) (by show w.heap.size ≤ w.heap.size + 1; omega) _).setCell (p := ⟨w.heap.size + 1, 1, none⟩) (by show w.heap.size ≤ w.heap.size + 1; omega) _).setCell (p := ⟨w.heap.size + 1, 2, none⟩) (by show w.heap.size ≤ w.heap.size + 1; omega) _
 | false =>
  rw [ha] at hS HA
  have HF2 := Lib.hid (show fstM l f n = ⟨0, 0, 0⟩ by rw [HF.out, find_none ha]; rfl)
  generalize l.findIdx (fun x => x.f == f && x.n == n) = i at hS
  have HS := Lib.hid hS
  clear hS ha HF
  go_enter Tryz.func192, Tryz.ntmps192
  go_wp2_with fail
  refine HS.out.mono ?_
  rintro e w2 ⟨rfl, hB2⟩
  have hB3 := HB.out.trans (hB2.mono HB.out.size)
  have hz2 := (HKz.out.below hB2 HKz.out.lt).alloc (.cells #[.int .i64 0, .int .i64 0, .int .i64 0] 108)
  have HB2 := Lib.hid (hB3.alloc hB3.size (.cells #[.int .i64 0, .int .i64 0, .int .i64 0] 108))
  have hx2 := Blk.new w2 108 #[.int .i64 0, .int .i64 0, .int .i64 0]
  clear hB2 hB3 HKz
  go_upto_region 4 with (fail)
  generalize w2.alloc (.cells #[.int .i64 0, .int .i64 0, .int .i64 0] 108) = V at HB2 hz2 hx2 ⊢
  generalize w2.heap.size = xb at hx2 ⊢
  have z0 := hz2.cell 0
  have z1 := hz2.cell 1
  have z2 := hz2.cell 2
  have y0 := hz2.frozen 0
  have y1 := hz2.frozen 1
  have y2 := hz2.frozen 2
  simp only [List.getElem?_toArray, List.getElem?_cons_zero, List.getElem?_cons_succ] at z0 z1 z2
  have x0 := hx2.cell 0
  have x1 := hx2.cell 1
  have xx2 := hx2.cell 2
  simp only [List.getElem?_toArray, List.getElem?_cons_zero, List.getElem?_cons_succ] at x0 x1 xx2
  clear hz2 hx2
  go_wp2
  refine bodyPost_ret (v := .tuple #[mark 0 0 0, .bool false]) (by simp [results, Tryz.results192, go_sem, mark, *]) rfl ⟨by rw [HF2.out, HA.out]; rfl, ?_⟩
  exact (((HB2.out).setCell (p := ⟨w.heap.size + 1, 0, none⟩) (by show w.heap.size ≤ w.heap.size + 1; omega) _).setCell (p := ⟨w.heap.size + 1, 1, none⟩) (by show w.heap.size ≤ w.heap.size + 1; omega) _).setCell (p := ⟨w.heap.size + 1, 2, none⟩) (by show w.heap.size ≤ w.heap.size + 1; omega) _
set_option maxRecDepth 100000 in
theorem hasM_any (w : World) (v : Value) (l : List Mk) (h : SeesMk w v l) (hl : l.length ≤ 1048576) (f n u : Int) :
  Calls Tryz.prog 169 #[v, mark f n u] w (BoolK w (hasM l f n)) := by
 have hB0 := (Below.refl w.heap.size w).alloc (Nat.le_refl _) (.cells #[.int .i64 f, .int .i64 n, .int .i64 u] 108)
 have HS := Lib.hid (findM_any _ v l (h.later hB0) hl f n u)
 have HB := Lib.hid hB0
 clear hB0 h
 unfold mark at HS ⊢
 go_enter Tryz.func169, Tryz.ntmps169
 go_wp2_with fail
 refine HS.out.mono ?_
 rintro e w2 ⟨rfl, hB2⟩
 have HB2 := Lib.hid (HB.out.trans (hB2.mono HB.out.size))
 clear hB2
 unfold mkV mark
 go_wp2
 go_ret
 exact ⟨rfl, HB2.out.alloc HB2.out.size _⟩
end Go.Proofs.YtckicpnnclbkpaaGreatDoor.kp

namespace Go.Proofs.YtckicpnnclbkpaaGreatDoor.kp
open Go.ChangeShapes Go.WideShapes Go.ChangeAt Go.RowKit
open wd ow rl ok nb
structure CB (w V : World) (k : Kp) (a b c : Value) : Prop where
 box : Blk V w.heap.size 39 #[.int .i64 k.id, .int .i64 k.time, .int .i64 k.next, a, b, c]
 res : Blk V (w.heap.size + 1) 39 #[.int .i64 0, .int .i64 0, .int .i64 0, .slice none 0 0, .slice none 0 0, .slice none 0 0]
 bel : Below w.heap.size w V
 sz : w.heap.size + 2 ≤ V.heap.size
section
variable {w V V' : World} {k : Kp} {a b c : Value}
theorem CB.new (w : World) (k : Kp) (a b c : Value) : CB w ((w.alloc (.cells #[.int .i64 k.id, .int .i64 k.time, .int .i64 k.next, a, b, c] 39)).alloc (.cells #[.int .i64 0, .int .i64 0, .int .i64 0, .slice none 0 0, .slice none 0 0, .slice none 0 0] 39)) k a b c := by
 have k1 := Blk.new (w.alloc (.cells #[.int .i64 k.id, .int .i64 k.time, .int .i64 k.next, a, b, c] 39)) 39 #[.int .i64 0, .int .i64 0, .int .i64 0, .slice none 0 0, .slice none 0 0, .slice none 0 0]
 simp only [World.size_alloc] at k1
 exact ⟨(Blk.new w _ _).alloc _, k1, ((Below.refl _ w).alloc (Nat.le_refl _) _).alloc (by simp) _, by simp⟩
theorem CB.later (h : CB w V k a b c) (hb : Below V.heap.size V V') : CB w V' k a b c := ⟨h.box.below hb h.box.lt, h.res.below hb h.res.lt, h.bel.trans (hb.mono h.bel.size), Nat.le_trans h.sz hb.size⟩
theorem CB.grew {α : Type} {S : Shape α} {t : TypeId} {B : Nat} {v : Value} {l : List α} (h : CB w V k a b c) (hO : OwnAt S t B V v l) (hB : w.heap.size + 2 ≤ B) (hBV : B ≤ V.heap.size) (hg : V.grownBy V' v.ownBlock) : CB w V' k a b c := by
 have hb := hO.below hg hBV
 exact ⟨h.box.below hb (by omega), h.res.below hb (by omega), h.bel.trans (hb.mono (by omega)), Nat.le_trans h.sz hg.size⟩
theorem CB.put3 (h : CB w V k a b c) (x : Value) : CB w (V.setCell ⟨w.heap.size, 3, none⟩ x) k x b c := ⟨h.box.put 3 x, h.res.far (p := ⟨w.heap.size, 3, none⟩) (by show w.heap.size + 1 ≠ w.heap.size; omega) _, h.bel.setCell (p := ⟨w.heap.size, 3, none⟩) (Nat.le_refl _) _, by simpa using h.sz⟩
theorem CB.put4 (h : CB w V k a b c) (x : Value) : CB w (V.setCell ⟨w.heap.size, 4, none⟩ x) k a x c := ⟨h.box.put 4 x, h.res.far (p := ⟨w.heap.size, 4, none⟩) (by show w.heap.size + 1 ≠ w.heap.size; omega) _, h.bel.setCell (p := ⟨w.heap.size, 4, none⟩) (Nat.le_refl _) _, by simpa using h.sz⟩
theorem CB.put5 (h : CB w V k a b c) (x : Value) : CB w (V.setCell ⟨w.heap.size, 5, none⟩ x) k a b x := ⟨h.box.put 5 x, h.res.far (p := ⟨w.heap.size, 5, none⟩) (by show w.heap.size + 1 ≠ w.heap.size; omega) _, h.bel.setCell (p := ⟨w.heap.size, 5, none⟩) (Nat.le_refl _) _, by simpa using h.sz⟩
end
theorem OwnAt.form {α : Type} {S : Shape α} {t : TypeId} {B : Nat} {W : World} {v : Value} {l : List α} (h : OwnAt S t B W v l) : ∃ A c, v = .slice A l.length c := by
 rcases h.2 with ⟨rfl, hn⟩ | ⟨g, cap, cur, rfl, _⟩
 ·exact ⟨none, 0, by rw [hn]⟩
 ·exact ⟨_, cap, rfl⟩
theorem OwnAt.ltW {α : Type} {S : Shape α} {t : TypeId} {B : Nat} {W : World} {v : Value} {l : List α} (h : OwnAt S t B W v l) {g : Nat} (hg : v.ownBlock = some g) : B ≤ g ∧ g < W.heap.size := World.ownsRow.lt h g hg
theorem ownAt_of {α : Type} {S : Shape α} {t : TypeId} {B n : Nat} {W : World} {v : Value} {l : List α} (h : W.ownsRow B t S.n v n ([] ++ l.flatMap S.f)) (hn : n = l.length) : OwnAt S t B W v l := by
 subst hn
 exact h
set_option maxRecDepth 100000 in
set_option maxHeartbeats 1600000 in
theorem copyK_any (w : World) (k : Kp) (a b c : Value) (h : SeesK w k a b c) (hl : k.held.length ≤ 1048576 ∧ k.marks.length ≤ 1048576 ∧ k.inbox.length ≤ 1048576) :
  Calls Tryz.prog 82 #[kpV k.id k.time k.next a b c] w (KeepPost w k) := by
 obtain ⟨hl1, hl2, hl3⟩ := hl
 obtain ⟨i0, hi, hz0, hz1, hz2⟩ := info_parts infoNote
 obtain ⟨j0, hj, hy0, hy1, hy2⟩ := info_parts infoMark
 obtain ⟨Aa, ca, rfl, _⟩ := h.held
 obtain ⟨Ab, cb, rfl, _⟩ := h.marks
 obtain ⟨Ac, cc, rfl, _⟩ := h.inbox
 have HS := Lib.hid h
 have HT := Lib.hid (CB.new w k (.slice Aa k.held.length ca) (.slice Ab k.marks.length cb) (.slice Ac k.inbox.length cc))
 clear h
 go_enter Tryz.func82, Tryz.ntmps82
 go_upto_region 1 with (fail)
 generalize (w.alloc (.cells #[.int .i64 k.id, .int .i64 k.time, .int .i64 k.next, .slice Aa k.held.length ca, .slice Ab k.marks.length cb, .slice Ac k.inbox.length cc] 39)).alloc (.cells #[.int .i64 0, .int .i64 0, .int .i64 0, .slice none 0 0, .slice none 0 0, .slice none 0 0] 39) = V at HT ⊢
 obtain ⟨_, _, _, b3, b4, b5, _, _, _, g3, g4, g5⟩ := res_cells HT.out.box
 have hs1 := HT.out.sz
 have lb1 := HT.out.box.lt
 have PA1 := SeesR.part ((HS.out.held.later HT.out.bel).later ((Below.refl _ V).alloc (Nat.le_refl _) (.cells #[] 105)))
 have ON1 := ownAt_new (S := ntS) (t := 105) (B := V.heap.size) V (Nat.le_refl _)
 go_wp2_with (at_builtin; refine wpList_append_recs ntS (by decide) rfl _ _ 36 rfl V.heap.size 105 i0 _ 48 Tryz.underlying36 hi hz0 hz1 hz2 rfl _ 0 [] rfl ON1 Aa _ ca k.held rfl rfl PA1 ?e3 ?e4 ?e5 ?_)
 case e3 => unfold maxLen; omega
 case e4 => omega
 case e5 => simp
 intro v1 w1 hown hgrow
 have O1 : OwnAt ntS 105 V.heap.size w1 v1 k.held := hown
 have hT1 := (HT.out.later ((Below.refl _ V).alloc (Nat.le_refl _) (.cells #[] 105))).grew ON1 hs1 (by simp) hgrow
 have hsz1 : V.heap.size + 1 ≤ w1.heap.size := by have := hgrow.size; simpa using this
 obtain ⟨A1, c1, e1⟩ := OwnAt.form O1
 subst e1
 have L1 : ∀ g, (Value.slice A1 k.held.length c1).ownBlock = some g → V.heap.size ≤ g ∧ g < w1.heap.size := fun g hg => OwnAt.ltW O1 hg
 have P1 := OwnAt.set O1 (p := ⟨w.heap.size, 3, none⟩) (by show w.heap.size < V.heap.size; omega) (.slice A1 k.held.length c1)
 clear b3 b4 b5 g3 g4 g5
 obtain ⟨_, _, _, b3, b4, b5, _, _, _, g3, g4, g5⟩ := res_cells hT1.box
 have z1 : (w1.setCell ⟨w.heap.size, 3, none⟩ (.slice A1 k.held.length c1)).heap.size = w1.heap.size := by simp
 have HTn := Lib.hid (hT1.put3 (.slice A1 k.held.length c1))
 have HP1 := Lib.hid P1
 have HL1 := Lib.hid L1
 have HZ1 := Lib.hid z1
 clear hown hgrow ON1 PA1 O1 P1 hT1 HT L1 z1
 go_upto_region 2 with (fail)
 clear b3 b4 b5 g3 g4 g5
 generalize w1.setCell ⟨w.heap.size, 3, none⟩ (.slice A1 k.held.length c1) = V2 at HTn HP1 HZ1 ⊢
 have HT := HTn
 clear HTn
 obtain ⟨_, _, _, b3, b4, b5, _, _, _, g3, g4, g5⟩ := res_cells HT.out.box
 have hs2 := HT.out.sz
 have lb2 := HT.out.box.lt
 have PA2 := SeesR.part ((HS.out.marks.later HT.out.bel).later ((Below.refl _ V2).alloc (Nat.le_refl _) (.cells #[] 108)))
 have ON2 := ownAt_new (S := mkS) (t := 108) (B := V2.heap.size) V2 (Nat.le_refl _)
 go_wp2_with (at_builtin; refine wpList_append_recs mkS (by decide) rfl _ _ 37 rfl V2.heap.size 108 j0 _ 24 Tryz.underlying37 hj hy0 hy1 hy2 rfl _ 0 [] rfl ON2 Ab _ cb k.marks rfl rfl PA2 ?e3 ?e4 ?e5 ?_)
 case e3 => unfold maxLen; omega
 case e4 => omega
 case e5 => simp
 intro v2 w2 hown hgrow
 have O2 : OwnAt mkS 108 V2.heap.size w2 v2 k.marks := hown
 have hT2 := (HT.out.later ((Below.refl _ V2).alloc (Nat.le_refl _) (.cells #[] 108))).grew ON2 hs2 (by simp) hgrow
 have hsz2 : V2.heap.size + 1 ≤ w2.heap.size := by have := hgrow.size; simpa using this
 obtain ⟨A2, c2, e2⟩ := OwnAt.form O2
 subst e2
 have L2 : ∀ g, (Value.slice A2 k.marks.length c2).ownBlock = some g → V2.heap.size ≤ g ∧ g < w2.heap.size := fun g hg => OwnAt.ltW O2 hg
 have P2 := OwnAt.set O2 (p := ⟨w.heap.size, 4, none⟩) (by show w.heap.size < V2.heap.size; omega) (.slice A2 k.marks.length c2)
 clear b3 b4 b5 g3 g4 g5
 obtain ⟨_, _, _, b3, b4, b5, _, _, _, g3, g4, g5⟩ := res_cells hT2.box
 have z2 : (w2.setCell ⟨w.heap.size, 4, none⟩ (.slice A2 k.marks.length c2)).heap.size = w2.heap.size := by simp
 have HTn := Lib.hid (hT2.put4 (.slice A2 k.marks.length c2))
 have HP2 := Lib.hid P2
 have HL2 := Lib.hid L2
 have HZ2 := Lib.hid z2
 have Q1 : OwnAt ntS 105 V.heap.size w2 (.slice A1 k.held.length c1) k.held := (HP1.out.alloc (.cells #[] 108)).same (fun g hg => hgrow.block g (OwnAt.ltW (HP1.out.alloc _) hg).2 (fun e => by
  injection e with e
  change g = V2.heap.size at e
  have := (OwnAt.ltW HP1.out hg).2
  omega))
 have R1 := Lib.hid (OwnAt.set Q1 (p := ⟨w.heap.size, 4, none⟩) (by show w.heap.size < V.heap.size; omega) (.slice A2 k.marks.length c2))
 have X12 : Apart (.slice A1 k.held.length c1) (.slice A2 k.marks.length c2) := fun g p q => by
  have h1 := (HL1.out g p).2
  have h2 := (HL2.out g q).1
  rw [HZ1.out] at h2
  omega
 have HX12 := Lib.hid X12
 have HM2 := Lib.hid (show V.heap.size ≤ V2.heap.size by rw [HZ1.out]; omega)
 clear hown hgrow ON2 PA2 O2 P2 hT2 HT L2 z2 HP1 Q1 X12
 go_upto_region 3 with (fail)
 clear b3 b4 b5 g3 g4 g5
 generalize w2.setCell ⟨w.heap.size, 4, none⟩ (.slice A2 k.marks.length c2) = V3 at HTn HP2 R1 HZ2 ⊢
 have HT := HTn
 clear HTn
 obtain ⟨_, _, _, b3, b4, b5, _, _, _, g3, g4, g5⟩ := res_cells HT.out.box
 have hs3 := HT.out.sz
 have lb3 := HT.out.box.lt
 have PA3 := SeesR.part ((HS.out.inbox.later HT.out.bel).later ((Below.refl _ V3).alloc (Nat.le_refl _) (.cells #[] 105)))
 have ON3 := ownAt_new (S := ntS) (t := 105) (B := V3.heap.size) V3 (Nat.le_refl _)
 go_wp2_with (at_builtin; refine wpList_append_recs ntS (by decide) rfl _ _ 36 rfl V3.heap.size 105 i0 _ 48 Tryz.underlying36 hi hz0 hz1 hz2 rfl _ 0 [] rfl ON3 Ac _ cc k.inbox rfl rfl PA3 ?e3 ?e4 ?e5 ?_)
 case e3 => unfold maxLen; omega
 case e4 => omega
 case e5 => simp
 intro v3 w3 hown hgrow
 have O3 : OwnAt ntS 105 V3.heap.size w3 v3 k.inbox := hown
 have hT3 := (HT.out.later ((Below.refl _ V3).alloc (Nat.le_refl _) (.cells #[] 105))).grew ON3 hs3 (by simp) hgrow
 have hsz3 : V3.heap.size + 1 ≤ w3.heap.size := by have := hgrow.size; simpa using this
 obtain ⟨A3, c3, e3⟩ := OwnAt.form O3
 subst e3
 have L3 : ∀ g, (Value.slice A3 k.inbox.length c3).ownBlock = some g → V3.heap.size ≤ g ∧ g < w3.heap.size := fun g hg => OwnAt.ltW O3 hg
 have P3 := OwnAt.set O3 (p := ⟨w.heap.size, 5, none⟩) (by show w.heap.size < V3.heap.size; omega) (.slice A3 k.inbox.length c3)
 clear b3 b4 b5 g3 g4 g5
 obtain ⟨_, _, _, b3, b4, b5, _, _, _, g3, g4, g5⟩ := res_cells hT3.box
 have z3 : (w3.setCell ⟨w.heap.size, 5, none⟩ (.slice A3 k.inbox.length c3)).heap.size = w3.heap.size := by simp
 have HTn := Lib.hid (hT3.put5 (.slice A3 k.inbox.length c3))
 have HP3 := Lib.hid P3
 have HL3 := Lib.hid L3
 have HZ3 := Lib.hid z3
 have Q1 : OwnAt ntS 105 V.heap.size w3 (.slice A1 k.held.length c1) k.held := (R1.out.alloc (.cells #[] 105)).same (fun g hg => hgrow.block g (OwnAt.ltW (R1.out.alloc _) hg).2 (fun e => by
  injection e with e
  change g = V3.heap.size at e
  have := (OwnAt.ltW R1.out hg).2
  omega))
 have Q2 : OwnAt mkS 108 V2.heap.size w3 (.slice A2 k.marks.length c2) k.marks := (HP2.out.alloc (.cells #[] 105)).same (fun g hg => hgrow.block g (OwnAt.ltW (HP2.out.alloc _) hg).2 (fun e => by
  injection e with e
  change g = V3.heap.size at e
  have := (OwnAt.ltW HP2.out hg).2
  omega))
 have hm2 := HM2.out
 have U1 := OwnAt.put6 (OwnAt.set Q1 (p := ⟨w.heap.size, 5, none⟩) (by show w.heap.size < V.heap.size; omega) (.slice A3 k.inbox.length c3)) (R := w.heap.size + 1) (by omega) (.int .i64 k.id) (.int .i64 k.time) (.int .i64 k.next) (.slice A1 k.held.length c1) (.slice A2 k.marks.length c2) (.slice A3 k.inbox.length c3)
 have U2 := OwnAt.put6 (OwnAt.set Q2 (p := ⟨w.heap.size, 5, none⟩) (by show w.heap.size < V2.heap.size; omega) (.slice A3 k.inbox.length c3)) (R := w.heap.size + 1) (by omega) (.int .i64 k.id) (.int .i64 k.time) (.int .i64 k.next) (.slice A1 k.held.length c1) (.slice A2 k.marks.length c2) (.slice A3 k.inbox.length c3)
 have U3 := OwnAt.put6 P3 (R := w.heap.size + 1) (by omega) (.int .i64 k.id) (.int .i64 k.time) (.int .i64 k.next) (.slice A1 k.held.length c1) (.slice A2 k.marks.length c2) (.slice A3 k.inbox.length c3)
 have X13 : Apart (.slice A1 k.held.length c1) (.slice A3 k.inbox.length c3) := fun g p q => by
  have h1 := (HL1.out g p).2
  have h2 := (HL3.out g q).1
  have h3 := HZ1.out
  have h4 := HZ2.out
  omega
 have X23 : Apart (.slice A2 k.marks.length c2) (.slice A3 k.inbox.length c3) := fun g p q => by
  have h1 := (HL2.out g p).2
  have h2 := (HL3.out g q).1
  have h4 := HZ2.out
  omega
 have hv3 : w.heap.size + 2 ≤ V3.heap.size := hs3
 obtain ⟨q0, q1, q2, q3, q4, q5, _, _, _, _, _, _⟩ := res_cells HTn.out.box
 obtain ⟨r0, r1, r2, r3, r4, r5, f0, f1, f2, f3, f4, f5⟩ := res_cells HTn.out.res
 have HC := Lib.hid (put6_blk (a' := .int .i64 k.id) (b' := .int .i64 k.time) (c' := .int .i64 k.next) (d' := .slice A1 k.held.length c1) (e' := .slice A2 k.marks.length c2) (f' := .slice A3 k.inbox.length c3) HTn.out.res)
 have HE := Lib.hid (put6_below (B := w.heap.size) (R := w.heap.size + 1) (Nat.le_succ _) HTn.out.bel (.int .i64 k.id) (.int .i64 k.time) (.int .i64 k.next) (.slice A1 k.held.length c1) (.slice A2 k.marks.length c2) (.slice A3 k.inbox.length c3))
 have HU := Lib.hid (show _ ∧ _ ∧ _ from ⟨OwnAt.down U1 (show w.heap.size ≤ V.heap.size by omega), OwnAt.down U2 (show w.heap.size ≤ V2.heap.size by omega), OwnAt.down U3 (show w.heap.size ≤ V3.heap.size by omega)⟩)
 have HX := Lib.hid (show _ ∧ _ ∧ _ from ⟨HX12.out, X13, X23⟩)
 clear hown hgrow ON3 PA3 O3 P3 hT3 HT L3 z3 Q1 Q2 U1 U2 U3 X13 X23 R1 HP2 HP3
 go_wp2
 have x0 := HC.out.cell 0
 have x1 := HC.out.cell 1
 have x2 := HC.out.cell 2
 have x3 := HC.out.cell 3
 have x4 := HC.out.cell 4
 have x5 := HC.out.cell 5
 refine bodyPost_ret (v := kpV k.id k.time k.next (.slice A1 k.held.length c1) (.slice A2 k.marks.length c2) (.slice A3 k.inbox.length c3)) (by simp [results, Tryz.results82, go_sem, x0, x1, x2, x3, x4, x5]) rfl ⟨_, _, _, rfl, ⟨HU.out.1, HE.out⟩, ⟨HU.out.2.1, HE.out⟩, ⟨HU.out.2.2, HE.out⟩, HX.out.1, HX.out.2.1, HX.out.2.2⟩
end Go.Proofs.YtckicpnnclbkpaaGreatDoor.kp

namespace Go.Proofs.YtckicpnnclbkpaaGreatDoor.kp
open Go.ChangeShapes Go.WideShapes Go.ChangeAt Go.RowKit
open wd ow rl ok nb
def Room (v : Value) : Prop := ∃ A n c, v = .slice A n c ∧ n ≤ c ∧ c ≤ maxLen
theorem ownAt_room {α : Type} {S : Shape α} {t : TypeId} {B : Nat} {W : World} {v : Value} {l : List α} (h : OwnAt S t B W v l) : Room v := by
 rcases h.2 with ⟨rfl, hn⟩ | ⟨g, cap, cur, rfl, h1, h2, h3, h4, h5⟩
 ·exact ⟨none, 0, 0, rfl, Nat.le_refl _, Nat.zero_le _⟩
 ·exact ⟨_, _, cap, rfl, h3, h4⟩
theorem step_append_recs {α : Type} (S : Shape α) (hS : 0 < S.n) {w : World} {ops : Array Oper} {o : Oper} {a : Act} {K : Act → World → Prop} {Q : Exit → Act → World → Prop} {E : Prop} (hgd : o.guard = none) (s x : Operand) (t : TypeId)
  (ho : o.op = .call { callee := .builtin .append, args := #[s, x], argTypes := #[t, t] })
  (base : Nat) (e : TypeId) (i : TypeInfo) (z : Value) (bytes : Nat) (ht : Tryz.prog.underlying t = some (.slice e)) (hi : Tryz.prog.info? e = some i) (hz : i.zero = some z)
  (hsize : i.size = S.n) (hby : i.bytes = bytes) (hzs : z.cells.size = S.n)
  (v : Value) (n : Nat) (xs : List Value) (hs : a.eval s = v) (hown : w.ownsRow base e S.n v n xs)
  (A : Option Addr) (m c : Nat) (l : List α) (hx : a.eval x = .slice A m c) (hm : m = l.length) (hP : PartR S w A c l)
  (h63 : n + l.length ≤ maxLen) (hbytes : (n + l.length) * bytes ≤ 140737488355328) (hbase : base ≤ w.heap.size)
  (h : ∀ v' w', w'.ownsRow base e S.n v' (n + l.length) (xs ++ l.flatMap S.f) → w.grownBy w' v.ownBlock → K (a.put o.dst v') w') :
  if Region.wanted o (yielded ops a.tmps) = true then Oper.wp Tryz.prog o a w K Q else E := by
 have hw : Region.wanted o (yielded ops a.tmps) = true := by simp [Region.wanted, hgd]
 rw [if_pos hw]
 exact wp_append_recs S hS s x t ho base e i z bytes ht hi hz hsize hby hzs v n xs hs hown A m c l hx hm hP h63 hbytes hbase h
section
variable {α : Type} {S : Shape α} {w W : World} {b c : Nat} {l : List α}
theorem rpart_take (hb : b < w.heap.size) (hc : ∀ i x, l[i]? = some x → ∀ j u, (S.f x)[j]? = some u → w.cell? ⟨b, i * S.n + j, none⟩ = some u) (hB : Below w.heap.size w W) (g : Nat) : PartR S W (some ⟨b, 0, none⟩) c (l.take g) := by
 refine .inr ⟨b, 0, rfl, fun j u hu => ?_⟩
 obtain ⟨i, x, k, h1, h2, rfl⟩ := flat_get S _ j u hu
 rw [Nat.zero_add]
 rw [List.getElem?_take] at h1
 split at h1
 ·exact (hB.cell (p := ⟨b, i * S.n + k, none⟩) hb).trans (hc i x h1 k u h2)
 ·cases h1
theorem rpart_drop (hb : b < w.heap.size) (hc : ∀ i x, l[i]? = some x → ∀ j u, (S.f x)[j]? = some u → w.cell? ⟨b, i * S.n + j, none⟩ = some u) (hB : Below w.heap.size w W) (g : Nat) : PartR S W (some ⟨b, g * S.n, none⟩) c (l.drop g) := by
 refine .inr ⟨b, g * S.n, rfl, fun j u hu => ?_⟩
 obtain ⟨i, x, k, h1, h2, rfl⟩ := flat_get S _ j u hu
 rw [List.getElem?_drop] at h1
 have := hc (g + i) x h1 k u h2
 rw [show g * S.n + (i * S.n + k) = (g + i) * S.n + k by rw [Nat.add_mul]; omega]
 exact (hB.cell (p := ⟨b, (g + i) * S.n + k, none⟩) hb).trans this
theorem rpart_none (b : Nat) {o c : Nat} (h : l = []) : PartR S w (some ⟨b, o, none⟩) c l := .inr ⟨b, o, rfl, fun j u hu => by rw [h] at hu; simp at hu⟩
theorem ownAt_cut {t : TypeId} {B i : Nat} {v : Value} {n : Nat} (h : W.ownsRow B t S.n v n ([] ++ (l.take i).flatMap S.f ++ (l.drop (i + 1)).flatMap S.f)) (hn : n = (cutL l i).length) : OwnAt S t B W v (cutL l i) := by
 subst hn
 unfold OwnAt cutL
 unfold cutL at h
 rw [List.flatMap_append]
 exact h
end
theorem app_below {V W' : World} {o : Obj} {n c : Nat} (hg : (V.alloc o).grownBy W' (Value.slice (some ⟨V.heap.size, 0, none⟩) n c).ownBlock) : Below V.heap.size V W' :=
 ⟨hg.os, hg.tape, hg.output, by have := hg.size; simp at this; omega, fun j hj => (hg.block j (by simp; omega) (fun e => by injection e with e; change j = V.heap.size at e; omega)).trans (((Below.refl V.heap.size V).alloc (Nat.le_refl _) o).block j hj)⟩
theorem own_below {B : Nat} {V W W' : World} {t : TypeId} {sz : Nat} {v : Value} {n : Nat} {xs : List Value} (hB : Below B V W) (hO : W.ownsRow B t sz v n xs) (hg : W.grownBy W' v.ownBlock) (hBW : B ≤ W.heap.size) : Below B V W' :=
 hB.trans ⟨hg.os, hg.tape, hg.output, hg.size, fun j hj => hg.block j (by omega) (fun e => by have := (hO.lt j e.symm).1; omega)⟩
theorem row_form {B : Nat} {W : World} {t : TypeId} {sz : Nat} {v : Value} {n : Nat} {xs : List Value} (hO : W.ownsRow B t sz v n xs) : ∃ A c, v = .slice A n c := by
 rcases hO.2 with ⟨rfl, hn⟩ | ⟨g, cap, cur, rfl, _⟩
 ·exact ⟨none, 0, by rw [hn]⟩
 ·exact ⟨_, cap, rfl⟩
end Go.Proofs.YtckicpnnclbkpaaGreatDoor.kp

namespace Go.Proofs.YtckicpnnclbkpaaGreatDoor.kp
open Go.ChangeShapes Go.WideShapes Go.ChangeAt Go.RowKit
open wd ow rl ok nb
theorem setCells_putAll (g : Nat) : ∀ (vs : List Value) (o : Nat) (w : World), w.setCells g o vs = putAll w g o vs
 | [], _, _ => rfl
 | v :: r, o, w => by rw [World.setCells, putAll, setCells_putAll g r]
theorem run_copy_k {P : Program} (w : World) (dT sT ty elem : TypeId) (i : TypeInfo) (b o dLen dCap : Nat) (a : Addr) (sLen sCap m : Nat) (cs : List Value)
  (hu : P.underlying dT = some (.slice elem)) (hi : P.info? elem = some i) (hm : m = Nat.min sLen dLen) (hn : cs.length = m * i.size)
  (hsrc : ∀ j v, cs[j]? = some v → w.cell? (a.add j) = some v) (hc : ∀ j, j < cs.length → (w.cell? ⟨b, o + j, none⟩).isSome = true) (hf : ∀ j, j < cs.length → w.frozen? ⟨b, o + j, none⟩ = false) (h1 : ∀ v ∈ cs, v.oneCell' = true) :
  (Builtin.copy_ #[dT, sT] ty #[.slice (some ⟨b, o, none⟩) dLen dCap, .slice (some a) sLen sCap]).run P w = .ok (goInt m) (putAll w b o cs) := by
 have hl := run_loadCells_list (P := P) w a cs hsrc
 have hst := run_storeCells_cells (P := P) b o cs 0 w (by simpa using hc) (by simpa using hf) h1
 rw [setCells_putAll] at hst
 subst hm
 rw [hn] at hl
 simp [Builtin.copy_, run_underlying hu, Builtin.lenOf, Builtin.firstCells, sizeOf, typeInfo, hi, hl, hst]
theorem run_clear_k {P : Program} (w : World) (dT ty elem : TypeId) (i : TypeInfo) (z : Value) (b o n c : Nat)
  (hu : P.underlying dT = some (.slice elem)) (hi : P.info? elem = some i) (hz : i.zero = some z) (hn : 0 < n)
  (hc : ∀ j, j < (Builtin.zeroCells z.cells n).toList.length → (w.cell? ⟨b, o + j, none⟩).isSome = true) (hf : ∀ j, j < (Builtin.zeroCells z.cells n).toList.length → w.frozen? ⟨b, o + j, none⟩ = false) (h1 : ∀ v ∈ (Builtin.zeroCells z.cells n).toList, v.oneCell' = true) :
  (Builtin.clear_ #[dT] ty #[.slice (some ⟨b, o, none⟩) n c]).run P w = .ok (.tuple #[]) (putAll w b o (Builtin.zeroCells z.cells n).toList) := by
 have hst := run_storeCells_cells (P := P) b o _ 0 w (by simpa using hc) (by simpa using hf) h1
 rw [setCells_putAll] at hst
 match n, hn with
 | n + 1, _ => simp [Builtin.clear_, run_underlying hu, zeroValue, typeInfo, hi, hz, hst]
theorem wp_copy_run {P : Program} {w : World} {o : Oper} {a : Act} {K : Act → World → Prop} {Q : Exit → Act → World → Prop} (d s : Operand) (t t' : TypeId)
  (ho : o.op = .call { callee := .builtin .copy, args := #[d, s], argTypes := #[t, t'] }) (v u : Value) (hd : a.eval d = v) (hs : a.eval s = u) {v' : Value} {w' : World}
  (hr : (Builtin.copy_ #[t, t'] o.type #[v, u]).run P w = .ok v' w') (h : K (a.put o.dst v') w') : o.wp P a w K Q := by
 unfold Oper.wp execOp
 simp only [ho, resolve, invoke, builtin, Sem.run_bind, Sem.run_pure, Result.andThen_ok, List.map_toArray, List.map_cons, List.map_nil, hd, hs, hr]
 exact h
theorem wpList_copy_run {P : Program} {w : World} {ops : Array Oper} {rest : List Oper} {o : Oper} {a : Act} {Q : Exit → Act → World → Prop} (hgd : o.guard = none) (d s : Operand) (t t' : TypeId)
  (ho : o.op = .call { callee := .builtin .copy, args := #[d, s], argTypes := #[t, t'] }) (v u : Value) (hd : a.eval d = v) (hs : a.eval s = u) {v' : Value} {w' : World}
  (hr : (Builtin.copy_ #[t, t'] o.type #[v, u]).run P w = .ok v' w') (h : wpList P ops Q rest (a.put o.dst v') w') : wpList P ops Q (o :: rest) a w :=
 wpList_plain hgd fun _ hK => wp_copy_run d s t t' ho v u hd hs hr (hK _ _ h)
theorem step_copy_run {P : Program} {ops : Array Oper} {o : Oper} {a : Act} {w : World} {K : Act → World → Prop} {Q : Exit → Act → World → Prop} {E : Prop}
  (hg : o.guard = none) (d s : Operand) (t t' : TypeId) (ho : o.op = .call { callee := .builtin .copy, args := #[d, s], argTypes := #[t, t'] })
  (v u : Value) (hd : a.eval d = v) (hs : a.eval s = u) {v' : Value} {w' : World} (hr : (Builtin.copy_ #[t, t'] o.type #[v, u]).run P w = .ok v' w') (hK : K (a.put o.dst v') w') :
  if Region.wanted o (yielded ops a.tmps) = true then Oper.wp P o a w K Q else E := by
 have hw : Region.wanted o (yielded ops a.tmps) = true := by simp [Region.wanted, hg]
 rw [if_pos hw]
 exact wp_copy_run d s t t' ho v u hd hs hr hK
structure Row {α : Type} (S : Shape α) (t : TypeId) (W : World) (g cap : Nat) (cur : Array Value) : Prop where
 blk : Blk W g t cur
 size : cur.size = cap * S.n
section
variable {α : Type} {S : Shape α} {t : TypeId} {B g cap n : Nat} {W W' : World} {cur : Array Value} {l : List α}
theorem ownAt_mk (h : Row S t W g cap cur) (hB : B ≤ g) (hn : l.length ≤ cap) (hm : cap ≤ maxLen) (hl : cur.toList.take (l.length * S.n) = l.flatMap S.f) : OwnAt S t B W (.slice (some ⟨g, 0, none⟩) l.length cap) l :=
 ⟨by rw [flat_len S.len], .inr ⟨g, cap, cur, rfl, hB, h.blk, hn, hm, h.size, hl⟩⟩
theorem ownAt_row (h : OwnAt S t B W (.slice (some ⟨g, 0, none⟩) n cap) l) : n = l.length ∧ B ≤ g ∧ l.length ≤ cap ∧ cap ≤ maxLen ∧ ∃ cur, Row S t W g cap cur ∧ cur.toList.take (l.length * S.n) = l.flatMap S.f := by
 rcases h.2 with ⟨e, _⟩ | ⟨g', cap', cur, e, h1, h2, h3, h4, h5, h6⟩
 ·cases e
 ·injection e with e1 e2 e3
  injection e1 with e1
  injection e1 with e1
  subst e1; subst e3
  exact ⟨e2, h1, h3, h4, cur, ⟨h2, h5⟩, h6⟩
theorem Row.cell (h : Row S t W g cap cur) {j : Nat} (hj : j < cap * S.n) : (W.cell? ⟨g, j, none⟩).isSome = true ∧ W.frozen? ⟨g, j, none⟩ = false := by
 refine ⟨?_, h.blk.frozen j⟩
 rw [h.blk.cell j, Array.getElem?_eq_getElem (by rw [h.size]; exact hj)]
 rfl
theorem Row.put (h : Row S t W g cap cur) (o : Nat) (cs : List Value) : ∃ cur', Row S t (putAll W g o cs) g cap cur' ∧ (∀ j, j < o ∨ o + cs.length ≤ j → cur'[j]? = cur[j]?) ∧ (o + cs.length ≤ cap * S.n → ∀ j u, cs[j]? = some u → cur'[o + j]? = some u) := by
 obtain ⟨cur', a1, a2, a3, a4⟩ := putAll_blk cs o h.blk
 exact ⟨cur', ⟨a1, by rw [a2, h.size]⟩, a3, fun hs => a4 (by rw [h.size]; exact hs)⟩
end
def putAt {α : Type} (l : List α) (p : Nat) (x : α) : List α := l.take p ++ x :: l.drop p
theorem putAt_len {α : Type} {l : List α} {p : Nat} {x : α} (h : p ≤ l.length) : (putAt l p x).length = l.length + 1 := by
 unfold putAt; simp [List.length_take, List.length_drop]; omega
theorem putAt_cells {α : Type} {S : Shape α} {cur : Array Value} {l : List α} {p cap : Nat} {x : α} (hp : p ≤ l.length) (hcap : l.length + 1 ≤ cap) (hs : cur.size = cap * S.n)
  (hA : ∀ i y, i < p → l[i]? = some y → ∀ j u, (S.f y)[j]? = some u → cur[i * S.n + j]? = some u)
  (hB : ∀ j u, (S.f x)[j]? = some u → cur[p * S.n + j]? = some u)
  (hC : ∀ i y, p ≤ i → l[i]? = some y → ∀ j u, (S.f y)[j]? = some u → cur[(i + 1) * S.n + j]? = some u) :
  cur.toList.take ((putAt l p x).length * S.n) = (putAt l p x).flatMap S.f := by
 have hle : (l.length + 1) * S.n ≤ cap * S.n := Nat.mul_le_mul_right _ hcap
 have hz : cur.toList.length = cap * S.n := by simp [hs]
 refine flat_of S (by rw [List.length_take, putAt_len hp, hz]; omega) fun i y hy j u hu => ?_
 have hj : j < S.n := by have := (List.getElem?_eq_some_iff.1 hu).1; rwa [S.len] at this
 have hil : i < l.length + 1 := by have := (List.getElem?_eq_some_iff.1 hy).1; rwa [putAt_len hp] at this
 have hm : (i + 1) * S.n ≤ (l.length + 1) * S.n := Nat.mul_le_mul_right _ hil
 rw [List.getElem?_take, if_pos (by rw [putAt_len hp]; rw [Nat.succ_mul] at hm; omega), Array.getElem?_toList]
 unfold putAt at hy
 have hpl : (l.take p).length = p := by rw [List.length_take]; omega
 by_cases h1 : i < p
 ·rw [List.getElem?_append_left (by omega), List.getElem?_take, if_pos h1] at hy
  exact hA i y h1 hy j u hu
 ·rw [List.getElem?_append_right (by omega), hpl] at hy
  by_cases h2 : i = p
  ·subst h2
   rw [Nat.sub_self] at hy
   simp at hy
   subst hy
   exact hB j u hu
  ·obtain ⟨i', rfl⟩ : ∃ i', i = i' + 1 := ⟨i - 1, by omega⟩
   rw [show i' + 1 - p = (i' - p) + 1 by omega, List.getElem?_cons_succ, List.getElem?_drop, show p + (i' - p) = i' by omega] at hy
   exact hC i' y (by omega) hy j u hu
theorem row_at {α : Type} {S : Shape α} {cur : Array Value} {l : List α} (h : cur.toList.take (l.length * S.n) = l.flatMap S.f) {i : Nat} {y : α} (hy : l[i]? = some y) {j : Nat} {u : Value} (hu : (S.f y)[j]? = some u) : cur[i * S.n + j]? = some u := by
 have hj : j < S.n := by have := (List.getElem?_eq_some_iff.1 hu).1; rwa [S.len] at this
 have hf := flat_at S.len l i y hy j hj
 rw [hu, ← h, List.getElem?_take] at hf
 split at hf
 ·rw [Array.getElem?_toList] at hf; exact hf
 ·cases hf
theorem putAll_grown {W0 W : World} {g : Nat} {row : Option Nat} (h : W0.grownBy W row) (hr : row = some g ∨ W0.heap.size ≤ g) (o : Nat) (cs : List Value) : W0.grownBy (putAll W g o cs) row := by
 have key : ∀ (us : List Value) (o : Nat) (V : World), W0.grownBy V row → W0.grownBy (putAll V g o us) row := by
  intro us
  induction us with
  | nil => intro o V h; exact h
  | cons u us ih =>
   intro o V h
   refine ih (o + 1) _ ⟨h.os, h.tape, h.output, by simpa using h.size, fun k hk hne => ?_⟩
   have hkg : k ≠ g := by
    rintro rfl
    rcases hr with e | e
    ·exact hne e.symm
    ·omega
   have := h.block k hk hne
   rw [← this]
   exact Below.heap_setCell V ⟨g, o, none⟩ u k hkg
 exact key cs o W h
end Go.Proofs.YtckicpnnclbkpaaGreatDoor.kp

