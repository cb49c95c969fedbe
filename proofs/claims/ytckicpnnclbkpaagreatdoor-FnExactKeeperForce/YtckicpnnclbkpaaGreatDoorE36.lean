/-
  Merged texts: IOf, NodePlain, SOf, CutLaw.
-/
import Derived.Test.YtckicpnnclbkpaaGreatDoorE35
import Derived.Test.YtckicpnnclbkpaaGreatDoorE9
namespace Go.Proofs.YtckicpnnclbkpaaGreatDoor.kp
open Go.ChangeShapes Go.WideShapes Go.ChangeAt Go.RowKit
open wd ow rl ok nb nx dc
def OfPost (w : World) (id : Int) (ls : List (List UInt8)) (e : Ending) (w' : World) : Prop :=
 ∃ (k' : Kp) (b : Bool) (vh vm vi : Value), e = .returned (.tuple #[kpV k'.id k'.time k'.next vh vm vi, .bool b]) ∧ OfK id ls k' b ∧ Sz 14 k' ∧ OwnK w w' k' vh vm vi
theorem startK_ok (id : Int) : okK (startK id) = inB id 0 3 := by
 unfold startK
 cases hb : inB id 0 3 with
 | true => rw [if_pos rfl]; unfold okK; simp [hb]; decide
 | false => rw [if_neg (by simp)]; decide
theorem startK_sz (id : Int) : Sz 14 (startK id) := by
 obtain ⟨h1, h2, h3⟩ := start_few id
 refine ⟨by omega, by omega, by omega, fun x hx => ?_, fun x hx => ?_⟩
 ·rw [List.eq_nil_of_length_eq_zero h1] at hx; cases hx
 ·rw [List.eq_nil_of_length_eq_zero h3] at hx; cases hx
theorem zero_sz : Sz 14 zeroK := ⟨Nat.zero_le _, Nat.zero_le _, Nat.zero_le _, (fun _ h => by cases h), (fun _ h => by cases h)⟩
def txs (l : List ByteArray) : List (List UInt8) := l.map fun x => x.data.toList
theorem txs_at {l : List ByteArray} {i : Nat} {x : ByteArray} (h : l[i]? = some x) : (txs l)[i]? = some x.data.toList := by unfold txs; rw [List.getElem?_map, h]; rfl
theorem sees_one {w : World} {v : Value} {l : List ByteArray} (h : sl.SeesS w v l) {i : Nat} {x : ByteArray} (hx : l[i]? = some x) : ∃ g c, v = .slice (some ⟨g, 0, none⟩) l.length c ∧ w.cell? ⟨g, i, none⟩ = some (.string x) := by
 obtain ⟨A, c, rfl, hc⟩ := h
 obtain ⟨g, rfl, _, hcell⟩ := hc (by have := (List.getElem?_eq_some_iff.1 hx).1; omega)
 exact ⟨g, c, rfl, hcell i x hx⟩
set_option maxRecDepth 100000 in
set_option maxHeartbeats 4000000 in
theorem ikeepOf_any (w : World) (id : Int) (v : Value) (l : List ByteArray) (h : sl.SeesS w v l) (hl : l.length ≤ 1048576) (hz : ∀ x ∈ l, x.size ≤ 1048576) (hTab : Tab w) (hErr : Errs w) :
  Calls Tryz.prog 66 #[.int .i64 id, v] w (OfPost w id (txs l)) := by
 have hR := Blk.new w 39 #[.int .i64 0, .int .i64 0, .int .i64 0, .slice none 0 0, .slice none 0 0, .slice none 0 0]
 have hB0 := (Below.refl w.heap.size w).alloc (Nat.le_refl _) (.cells #[.int .i64 0, .int .i64 0, .int .i64 0, .slice none 0 0, .slice none 0 0, .slice none 0 0] 39)
 have HI := Lib.hid (fun V => istart_any id V)
 unfold KeepPost at HI
 have HOk := Lib.hid (startK_ok id)
 have HSz := Lib.hid (startK_sz id)
 have HS := Lib.hid h
 obtain ⟨A, c0, rfl, _⟩ := h
 have HOf := Lib.hid (fun k' b (h : OfK id (txs l) k' b) => h)
 have HF := Lib.hid (fun (hi : okK (startK id) = false) => show OfK id (txs l) zeroK false from .inr ⟨rfl, rfl, .inl (by rw [← startK_ok]; exact hi)⟩)
 have HT := Lib.hid (fun k' (hi : okK (startK id) = true) (hr : Runs (startK id) (txs l) k') => show OfK id (txs l) k' true from .inl ⟨by rw [← startK_ok]; exact hi, rfl, hr⟩)
 have HN := Lib.hid (fun (hi : okK (startK id) = true) (hr : Stops (startK id) (txs l)) => show OfK id (txs l) zeroK false from .inr ⟨rfl, rfl, .inr ⟨by rw [← startK_ok]; exact hi, hr⟩⟩)
 generalize startK id = k0 at HI HOk HSz HF HT HN
 clear HOf
 go_enter Tryz.func66, Tryz.ntmps66
 go_upto_region 1 with (fail)
 have hVs : (w.alloc (.cells #[.int .i64 0, .int .i64 0, .int .i64 0, .slice none 0 0, .slice none 0 0, .slice none 0 0] 39)).heap.size = w.heap.size + 1 := by simp
 generalize w.alloc (.cells #[.int .i64 0, .int .i64 0, .int .i64 0, .slice none 0 0, .slice none 0 0, .slice none 0 0] 39) = V at hR hB0 hVs ⊢
 go_wp2_with fail
 refine (HI.out V).mono ?_
 rintro e w1 ⟨a1, b1, c1, rfl, o1⟩
 obtain ⟨A1, s1, rfl⟩ := OwnR.form o1.held
 obtain ⟨M1, t1, rfl⟩ := OwnR.form o1.marks
 obtain ⟨I1, u1, rfl⟩ := OwnR.form o1.inbox
 have hM := o1.toMK
 have B1 := (Below.refl w1.heap.size w1).alloc (Nat.le_refl _) (.cells #[.int .i64 k0.id, .int .i64 k0.time, .int .i64 k0.next, (.slice A1 k0.held.length s1), (.slice M1 k0.marks.length t1), (.slice I1 k0.inbox.length u1)] 39)
 have HV := Lib.hid (o1.bel.trans (B1.mono o1.bel.size))
 have HM := Lib.hid hM
 clear o1 hM B1
 go_upto_region 2 with (fail)
 generalize w1.alloc (.cells #[.int .i64 k0.id, .int .i64 k0.time, .int .i64 k0.next, (.slice A1 k0.held.length s1), (.slice M1 k0.marks.length t1), (.slice I1 k0.inbox.length u1)] 39) = V1 at HV HM ⊢
 generalize w1.heap.size = g at HM ⊢
 have HO := Lib.hid (ikeepOk_any V1 k0 _ _ _ HM.out.sees (HSz.out.few (by omega)) HSz.out.texts)
 unfold BoolK at HO
 obtain ⟨p0, p1, p2, p3, p4, p5⟩ := KBox.cells HM.out.box
 have HR := Lib.hid hR
 have HB0 := Lib.hid hB0
 have HVs := Lib.hid hVs
 clear hR hB0 hVs HI HOk
 cases hok : okK k0 with
 | false =>
  have HP := Lib.hid (HF.out hok)
  rw [hok] at HO
  clear hok HF HT HN
  go_wp2_with fail
  refine HO.out.mono ?_
  rintro e w2 ⟨rfl, hB2⟩
  have z := HR.out.below (HV.out.trans (hB2.mono HV.out.size)) HR.out.lt
  have HB2 := Lib.hid (HB0.out.trans ((HV.out.trans (hB2.mono HV.out.size)).mono HB0.out.size))
  obtain ⟨r0, r1, r2, r3, r4, r5, f0, f1, f2, f3, f4, f5⟩ := res_cells z
  have HC := Lib.hid (put6_blk (V := w2) (a' := .int .i64 0) (b' := .int .i64 0) (c' := .int .i64 0) (d' := .slice none 0 0) (e' := .slice none 0 0) (f' := .slice none 0 0) z)
  have HD := Lib.hid (put6_below (V := w2) (B := w.heap.size) (R := w.heap.size) (Nat.le_refl _) HB2.out (.int .i64 0) (.int .i64 0) (.int .i64 0) (.slice none 0 0) (.slice none 0 0) (.slice none 0 0))
  clear z hB2 p0 p1 p2 p3 p4 p5 HM HV HO
  go_wp2
  have x0 := HC.out.cell 0
  have x1 := HC.out.cell 1
  have x2 := HC.out.cell 2
  have x3 := HC.out.cell 3
  have x4 := HC.out.cell 4
  have x5 := HC.out.cell 5
  refine bodyPost_ret (v := .tuple #[kpV 0 0 0 (.slice none 0 0) (.slice none 0 0) (.slice none 0 0), .bool false]) (by simp [results, Tryz.results66, go_sem, x0, x1, x2, x3, x4, x5]) rfl ⟨zeroK, false, _, _, _, rfl, HP.out, zero_sz, nil_own HD.out rfl rfl rfl⟩
 | true =>
  have HOK := Lib.hid hok
  rw [hok] at HO
  clear hok HF
  go_wp2_with fail
  refine HO.out.mono ?_
  rintro e w2 ⟨rfl, hB2⟩
  have HM2 := Lib.hid (HM.out.later hB2)
  have HV2 := Lib.hid (HV.out.trans (hB2.mono HV.out.size))
  clear hB2 p0 p1 p2 p3 p4 p5 HM HV HO
  go_wp2
  go_loopw [17] (fun i wr => ∃ (j : Nat) (k : Kp) (a b c : Value), j ≤ l.length ∧ i = .int .i64 j ∧ Hid (MK V.heap.size wr g k a b c) ∧ Hid (Runs k0 ((txs l).take j) k) ∧ Hid (Below V.heap.size V wr)) (fun i _ => (l.length + 1 : Nat) - (intOf i).toNat)
  case atStart => exact ⟨0, k0, _, _, _, by omega, rfl, HM2.out, rfl, HV2.out⟩
  case round =>
   obtain ⟨j, k, a, b, c, hj, rfl, hM, hRn, hBr⟩ := hrel
   have HBw := Lib.hid (HB0.out.trans (hBr.out.mono HB0.out.size))
   have hkk := runs_ok HOK.out hRn.out
   by_cases hlt : j < l.length
   ·have hx : l[j]? = some l[j] := List.getElem?_eq_getElem hlt
    have hsx := hz l[j] (List.getElem_mem hlt)
    generalize l[j] = x at hx hsx
    obtain ⟨gs, cs, e, hcell⟩ := sees_one (HS.out.later HBw.out) hx
    injection e with e1 e2 e3
    subst e1; subst e3
    have hk1 : (j : Int) < (l.length : Int) := by omega
    have HA := Lib.hid (apply_any V.heap.size wr g k a b c x.data.toList (by rw [← Lib.size_eq]; omega) hM.out hkk (hTab.later HBw.out) (hErr.later HBw.out))
    rw [str_data] at HA
    unfold ApP at HA
    have HX := Lib.hid (txs_at hx)
    clear hx hsx hkk
    go_wp2_with fail
    refine HA.out.mono ?_
    rintro e w3 (⟨k', a', b', c', rfl, hd, hM3, hB3⟩ | ⟨rfl, hd, hB3⟩)
    ·have HM3 := Lib.hid hM3
     have HR3 := Lib.hid (runs_snoc hRn.out hd)
     rw [← take_snoc HX.out] at HR3
     have HB3 := Lib.hid (hBr.out.trans hB3)
     clear hM3 hd hB3 hcell HA hM hRn hBr HBw
     go_wp2
     go_roundw
     case rel => exact ⟨j + 1, k', a', b', c', by omega, by go_num, HM3, HR3, HB3⟩
     case measure => simp [intOf]; omega
    ·have HP := Lib.hid (HN.out HOK.out ⟨j, _, k, HX.out, hRn.out, hd⟩)
     have hB4 := hBr.out.trans hB3
     have z := HR.out.below hB4 HR.out.lt
     have HB2 := Lib.hid (HB0.out.trans (hB4.mono HB0.out.size))
     obtain ⟨r0, r1, r2, r3, r4, r5, f0, f1, f2, f3, f4, f5⟩ := res_cells z
     have HC := Lib.hid (put6_blk (V := w3) (a' := .int .i64 0) (b' := .int .i64 0) (c' := .int .i64 0) (d' := .slice none 0 0) (e' := .slice none 0 0) (f' := .slice none 0 0) z)
     have HD := Lib.hid (put6_below (V := w3) (B := w.heap.size) (R := w.heap.size) (Nat.le_refl _) HB2.out (.int .i64 0) (.int .i64 0) (.int .i64 0) (.slice none 0 0) (.slice none 0 0) (.slice none 0 0))
     clear z hB4 hB3 hd hcell HA hM hRn hBr HBw
     go_wp2
     have x0 := HC.out.cell 0
     have x1 := HC.out.cell 1
     have x2 := HC.out.cell 2
     have x3 := HC.out.cell 3
     have x4 := HC.out.cell 4
     have x5 := HC.out.cell 5
     refine bodyPost_ret (v := .tuple #[kpV 0 0 0 (.slice none 0 0) (.slice none 0 0) (.slice none 0 0), .bool false]) (by simp [results, Tryz.results66, go_sem, x0, x1, x2, x3, x4, x5]) rfl ⟨zeroK, false, _, _, _, rfl, HP.out, zero_sz, nil_own HD.out rfl rfl rfl⟩
   ·obtain rfl : j = l.length := by omega
    have hRn' := hRn.out
    rw [List.take_of_length_le (by unfold txs; rw [List.length_map]; exact Nat.le_refl _)] at hRn'
    have HP := Lib.hid (HT.out k HOK.out hRn')
    have HZZ := Lib.hid ((sz_ok hkk).up (show 12 ≤ 14 by omega))
    have hk1 : ¬ (l.length : Int) < (l.length : Int) := by omega
    have z := HR.out.below hBr.out HR.out.lt
    obtain ⟨r0, r1, r2, r3, r4, r5, f0, f1, f2, f3, f4, f5⟩ := res_cells z
    obtain ⟨A4, c4, rfl⟩ := OwnAt.form hM.out.own.held
    obtain ⟨B4, d4, rfl⟩ := OwnAt.form hM.out.own.marks
    obtain ⟨C4, e4, rfl⟩ := OwnAt.form hM.out.own.inbox
    obtain ⟨p0, p1, p2, p3, p4, p5⟩ := KBox.cells hM.out.box
    have HC := Lib.hid (put6_blk (V := wr) (a' := .int .i64 k.id) (b' := .int .i64 k.time) (c' := .int .i64 k.next) (d' := .slice A4 k.held.length c4) (e' := .slice B4 k.marks.length d4) (f' := .slice C4 k.inbox.length e4) z)
    have HD := Lib.hid (put6_below (V := wr) (B := w.heap.size) (R := w.heap.size) (Nat.le_refl _) HBw.out (.int .i64 k.id) (.int .i64 k.time) (.int .i64 k.next) (.slice A4 k.held.length c4) (.slice B4 k.marks.length d4) (.slice C4 k.inbox.length e4))
    have HG := Lib.hid (OwnK.put6 (R := w.heap.size) (hM.out.ownK hBr.out) (by have := HVs.out; omega) (by have := HVs.out; omega) HD.out)
    clear z hM hRn hBr HBw hRn' hkk
    go_wp2
    have x0 := HC.out.cell 0
    have x1 := HC.out.cell 1
    have x2 := HC.out.cell 2
    have x3 := HC.out.cell 3
    have x4 := HC.out.cell 4
    have x5 := HC.out.cell 5
    refine bodyPost_ret (v := .tuple #[kpV k.id k.time k.next (.slice A4 k.held.length c4) (.slice B4 k.marks.length d4) (.slice C4 k.inbox.length e4), .bool true]) (by simp [results, Tryz.results66, go_sem, x0, x1, x2, x3, x4, x5]) rfl ⟨k, true, _, _, _, rfl, HP.out, HZZ.out, HG.out⟩
end Go.Proofs.YtckicpnnclbkpaaGreatDoor.kp

namespace Go.Proofs.YtckicpnnclbkpaaGreatDoor.hf
open nb kp sh dc wd sl
abbrev recsL (s : ByteArray) : List (List UInt8) := rd s.data.toList
abbrev recsS (s : ByteArray) : List ByteArray := (recsL s).map dc.str
theorem recs_txs (s : ByteArray) : txs (recsS s) = recsL s := by
 unfold txs recsS
 rw [List.map_map]
 have : ((fun x : ByteArray => x.data.toList) ∘ dc.str) = id := by funext x; rfl
 rw [this, List.map_id]
theorem recs_few {s : ByteArray} (h : s.size ≤ 1048576) : (recsS s).length ≤ 1048576 := by
 have h2 := lg_count (rd_spec s.data.toList).1
 have h3 := en_le s.data.toList
 unfold en at h3
 rw [← Lib.size_eq] at h3
 simp only [recsS, recsL, List.length_map]
 omega
theorem recs_small {s : ByteArray} : ∀ x ∈ recsS s, x.size ≤ 1048576 := fun x hx => by
 obtain ⟨y, hy, rfl⟩ := List.mem_map.1 hx
 have h := ((rd_spec s.data.toList).1 y hy).2
 have e : (dc.str y).size = y.length := by rw [Lib.size_eq]; rfl
 omega
def Has (id : Int) (s : ByteArray) (k : Kp) (b : Bool) : Prop := OfK id (recsL s) k b
theorem has_safe {id : Int} {s : ByteArray} {f m : Nat} {k k' : Kp} {b : Bool} (_ : f = m) (h : Has id s k true) (h' : Has id (s.extract 0 f) k' b) : b = true := by
 unfold Has recsL at h h'
 have e : (s.extract 0 f).data.toList = s.data.toList.take f := ext_take s f
 rw [e] at h'
 obtain ⟨_, _, z3⟩ := cut_law (l := s.data.toList) f
 rw [z3] at h'
 rcases h with ⟨hi, _, h⟩ | ⟨h, _⟩
 ·generalize (rd (s.data.toList.take f)).length = j at h'
  obtain ⟨k2, g1⟩ : ∃ k2, Runs (startK id) ((rd s.data.toList).take j) k2 := by
   clear h' z3 e
   generalize rd s.data.toList = ls at h
   generalize startK id = k0 at h
   induction ls generalizing k0 j with
   | nil => exact ⟨k0, by simp [Runs]⟩
   | cons a ls ih =>
    obtain ⟨x, hx, h⟩ := h
    cases j with
    | zero => exact ⟨k0, rfl⟩
    | succ j =>
     obtain ⟨k2, h2⟩ := ih j x h
     exact ⟨k2, x, hx, h2⟩
  exact (ofK_one h' (.inl ⟨hi, rfl, g1⟩)).2
 ·cases h
def NodeOk (id : Int) (up : Bool) (s : ByteArray) (f : Int) (l : List Hf) (b : Bool) : Prop :=
 (b = true ∧ okSh s f = true ∧ okHfs up l = true ∧ ∃ k, Has id s k true) ∨ (b = false ∧ (okSh s f = false ∨ okHfs up l = false ∨ ∃ k, Has id s k false))
theorem nodeOk_one {id : Int} {up : Bool} {s : ByteArray} {f : Int} {l : List Hf} {b1 b2 : Bool} (h1 : NodeOk id up s f l b1) (h2 : NodeOk id up s f l b2) : b1 = b2 := by
 rcases h1 with ⟨rfl, a1, a2, k, a3⟩ | ⟨rfl, h1⟩
 ·rcases h2 with ⟨rfl, _⟩ | ⟨rfl, h2 | h2 | ⟨k', h2⟩⟩
  ·rfl
  ·rw [a1] at h2; cases h2
  ·rw [a2] at h2; cases h2
  ·exact (ofK_one a3 h2).2
 ·rcases h2 with ⟨rfl, a1, a2, k, a3⟩ | ⟨rfl, _⟩
  ·rcases h1 with h1 | h1 | ⟨k', h1⟩
   ·rw [a1] at h1; cases h1
   ·rw [a2] at h1; cases h1
   ·exact (ofK_one h1 a3).2
  ·rfl
theorem hfs_many {up : Bool} {l : List Hf} (h : 3 < l.length) : okHfs up l = false := by unfold okHfs; rw [decide_eq_false (by omega)]; rfl
theorem hfs_down {l : List Hf} (h : 0 < l.length) : okHfs false l = false := by unfold okHfs; rw [decide_eq_false (show ¬ l.length = 0 by omega)]; simp
theorem hfs_rest {up : Bool} {l : List Hf} (h : l.length ≤ 3) (hu : up = true ∨ l.length = 0) : okHfs up l = allI l.length (hfAt l) := by
 unfold okHfs
 rw [decide_eq_true h]
 rcases hu with rfl | hu
 ·simp
 ·rw [decide_eq_true hu]; simp
end Go.Proofs.YtckicpnnclbkpaaGreatDoor.hf

namespace Go.Proofs.YtckicpnnclbkpaaGreatDoor.kp
open Go.ChangeShapes Go.WideShapes Go.ChangeAt Go.RowKit
open wd ow rl ok nb dc
theorem lt_of_cell {W : World} {g i : Nat} {v : Value} (h : W.cell? ⟨g, i, none⟩ = some v) : g < W.heap.size := by
 unfold World.cell? at h
 rcases Nat.lt_or_ge g W.heap.size with h1 | h1
 ·exact h1
 ·rw [show W.heap[g]? = none from Array.getElem?_eq_none h1] at h
  simp at h
theorem own_put6 {α : Type} {S : Shape α} {t : TypeId} {B : Nat} {W : World} {v : Value} {l : List α} {R : Nat} (h : OwnAt S t B W v l) (hR : v.ownBlock ≠ some R) (a b c d e f : Value) : OwnAt S t B (put6 W R a b c d e f) v l :=
 own_off (own_off (own_off (own_off (own_off (own_off h (p := ⟨R, 0, none⟩) hR a) (p := ⟨R, 1, none⟩) hR b) (p := ⟨R, 2, none⟩) hR c) (p := ⟨R, 3, none⟩) hR d) (p := ⟨R, 4, none⟩) hR e) (p := ⟨R, 5, none⟩) hR f
theorem own3_put6 {B : Nat} {W : World} {k : Kp} {a b c : Value} {R : Nat} (h : Own3 B W k a b c) (ho : Off R a b c) (x0 x1 x2 x3 x4 x5 : Value) : Own3 B (put6 W R x0 x1 x2 x3 x4 x5) k a b c :=
 ⟨own_put6 h.held ho.1 _ _ _ _ _ _, own_put6 h.marks ho.2.1 _ _ _ _ _ _, own_put6 h.inbox ho.2.2 _ _ _ _ _ _, h.hm, h.hi, h.mi⟩
theorem does_same {k k' : Kp} {l : List UInt8} (h : Does k l k' false) : k' = k ∧ Does k l k false := by
 rcases h with ⟨h, _⟩ | ⟨_, rfl, h⟩
 ·cases h
 ·exact ⟨rfl, .inr ⟨rfl, rfl, h⟩⟩
theorem MK.turn {B B' g : Nat} {W : World} {k k' : Kp} {a b c a' b' c' : Value} (h : MK B W g k a b c) (ho : Own3 B' W k' a' b' c') (hB : B ≤ B') (hg : g < B') :
  MK B (put6 W g (.int .i64 k'.id) (.int .i64 k'.time) (.int .i64 k'.next) a' b' c') g k' a' b' c' ∧ Below B W (put6 W g (.int .i64 k'.id) (.int .i64 k'.time) (.int .i64 k'.next) a' b' c') := by
 have hoff : Off g a' b' c' := ⟨fun e => by have := (ho.held.lt e).1; omega, fun e => by have := (ho.marks.lt e).1; omega, fun e => by have := (ho.inbox.lt e).1; omega⟩
 have hb := put6_below (w := W) (V := W) (B := B) (R := g) h.gB (Below.refl _ _) (.int .i64 k'.id) (.int .i64 k'.time) (.int .i64 k'.next) a' b' c'
 have h3 := own3_put6 ho hoff (.int .i64 k'.id) (.int .i64 k'.time) (.int .i64 k'.next) a' b' c'
 exact ⟨⟨put6_blk h.box, ⟨OwnAt.down h3.held hB, OwnAt.down h3.marks hB, OwnAt.down h3.inbox hB, h3.hm, h3.hi, h3.mi⟩, hoff, h.gB, Nat.le_trans h.bW hb.size⟩, hb⟩
set_option maxRecDepth 100000 in
set_option maxHeartbeats 4000000 in
theorem keepOf_any (w : World) (id : Int) (v : Value) (l : List ByteArray) (h : sl.SeesS w v l) (hl : l.length ≤ 1048576) (hz : ∀ x ∈ l, x.size ≤ 1048576) :
  Calls Tryz.prog 31 #[.int .i64 id, v] w (OfPost w id (txs l)) := by
 have hR := Blk.new w 39 #[.int .i64 0, .int .i64 0, .int .i64 0, .slice none 0 0, .slice none 0 0, .slice none 0 0]
 have hB0 := (Below.refl w.heap.size w).alloc (Nat.le_refl _) (.cells #[.int .i64 0, .int .i64 0, .int .i64 0, .slice none 0 0, .slice none 0 0, .slice none 0 0] 39)
 have HI := Lib.hid (fun V => start_any id V)
 have HKe := Lib.hid (fun V => keeper_any id V)
 unfold KeepPost at HI
 have HSz := Lib.hid (startK_sz id)
 have HS := Lib.hid h
 obtain ⟨A, c0, rfl, _⟩ := h
 have HOK := Lib.hid (startK_ok id)
 have HZ0 := Lib.hid (fun (hi : inB id 0 3 = false) => show startK id = zeroK by unfold startK; rw [hi]; rfl)
 have HF := Lib.hid (fun (hi : inB id 0 3 = false) => show OfK id (txs l) zeroK false from .inr ⟨rfl, rfl, .inl hi⟩)
 have HT := Lib.hid (fun k' (hi : inB id 0 3 = true) (hr : Runs (startK id) (txs l) k') => show OfK id (txs l) k' true from .inl ⟨hi, rfl, hr⟩)
 have HN := Lib.hid (fun (hi : inB id 0 3 = true) (hr : Stops (startK id) (txs l)) => show OfK id (txs l) zeroK false from .inr ⟨rfl, rfl, .inr ⟨hi, hr⟩⟩)
 generalize startK id = k0 at HI HOK HSz HZ0 HT HN
 go_enter Tryz.func31, Tryz.ntmps31
 go_upto_region 1 with (fail)
 have hVs : (w.alloc (.cells #[.int .i64 0, .int .i64 0, .int .i64 0, .slice none 0 0, .slice none 0 0, .slice none 0 0] 39)).heap.size = w.heap.size + 1 := by simp
 generalize w.alloc (.cells #[.int .i64 0, .int .i64 0, .int .i64 0, .slice none 0 0, .slice none 0 0, .slice none 0 0] 39) = V at hR hB0 hVs ⊢
 go_wp2_with fail
 refine (HI.out V).mono ?_
 rintro e w1 ⟨a1, b1, c1, rfl, o1⟩
 obtain ⟨A1, s1, rfl⟩ := OwnR.form o1.held
 obtain ⟨M1, t1, rfl⟩ := OwnR.form o1.marks
 obtain ⟨I1, u1, rfl⟩ := OwnR.form o1.inbox
 have hM := o1.toMK
 have B1 := (Below.refl w1.heap.size w1).alloc (Nat.le_refl _) (.cells #[.int .i64 k0.id, .int .i64 k0.time, .int .i64 k0.next, (.slice A1 k0.held.length s1), (.slice M1 k0.marks.length t1), (.slice I1 k0.inbox.length u1)] 39)
 have HV := Lib.hid (o1.bel.trans (B1.mono o1.bel.size))
 have HM := Lib.hid hM
 clear o1 hM B1
 go_upto_region 2 with (fail)
 generalize w1.alloc (.cells #[.int .i64 k0.id, .int .i64 k0.time, .int .i64 k0.next, (.slice A1 k0.held.length s1), (.slice M1 k0.marks.length t1), (.slice I1 k0.inbox.length u1)] 39) = V1 at HV HM ⊢
 have HG1 := Lib.hid (show w1.heap.size ≤ w1.heap.size from Nat.le_refl _)
 generalize w1.heap.size = g at HM HG1 ⊢
 have HR := Lib.hid hR
 have HB0 := Lib.hid hB0
 have HVs := Lib.hid hVs
 clear hR hB0 hVs HI HG1
 cases hb : inB id 0 3 with
 | false =>
  have HP := Lib.hid (HF.out hb)
  have HK0 := Lib.hid (HZ0.out hb)
  rw [hb] at HKe
  clear hb HF HT HN HZ0 HOK
  go_wp2_with fail
  refine (HKe.out _).mono ?_
  rintro e w2 ⟨rfl, rfl⟩
  have z := HR.out.below HV.out HR.out.lt
  have HB2 := Lib.hid (HB0.out.trans (HV.out.mono HB0.out.size))
  obtain ⟨p0, p1, p2, p3, p4, p5⟩ := KBox.cells HM.out.box
  obtain ⟨r0, r1, r2, r3, r4, r5, f0, f1, f2, f3, f4, f5⟩ := res_cells z
  have HC := Lib.hid (put6_blk (V := V1) (a' := .int .i64 k0.id) (b' := .int .i64 k0.time) (c' := .int .i64 k0.next) (d' := .slice A1 k0.held.length s1) (e' := .slice M1 k0.marks.length t1) (f' := .slice I1 k0.inbox.length u1) z)
  have HD := Lib.hid (put6_below (V := V1) (B := w.heap.size) (R := w.heap.size) (Nat.le_refl _) HB2.out (.int .i64 k0.id) (.int .i64 k0.time) (.int .i64 k0.next) (.slice A1 k0.held.length s1) (.slice M1 k0.marks.length t1) (.slice I1 k0.inbox.length u1))
  have HG := Lib.hid (OwnK.put6 (R := w.heap.size) (HM.out.ownK HV.out) (by have := HVs.out; omega) (by have := HVs.out; omega) HD.out)
  have HP2 := Lib.hid (show OfK id (txs l) k0 false by rw [HK0.out]; exact HP.out)
  clear z HM HV HKe
  go_wp2
  have x0 := HC.out.cell 0
  have x1 := HC.out.cell 1
  have x2 := HC.out.cell 2
  have x3 := HC.out.cell 3
  have x4 := HC.out.cell 4
  have x5 := HC.out.cell 5
  refine bodyPost_ret (v := .tuple #[kpV k0.id k0.time k0.next (.slice A1 k0.held.length s1) (.slice M1 k0.marks.length t1) (.slice I1 k0.inbox.length u1), .bool false]) (by simp [results, Tryz.results31, go_sem, x0, x1, x2, x3, x4, x5]) rfl ⟨k0, false, _, _, _, rfl, HP2.out, HSz.out, HG.out⟩
 | true =>
  have HB := Lib.hid hb
  have hok : okK k0 = true := HOK.out.trans hb
  have HO := Lib.hid hok
  rw [hb] at HKe
  clear hb hok HF HOK HZ0
  go_wp2_with fail
  refine (HKe.out _).mono ?_
  rintro e w2 ⟨rfl, rfl⟩
  clear HKe
  go_wp2
  go_loopw [7] (fun i wr => ∃ (j : Nat) (k : Kp) (a b c : Value), j ≤ l.length ∧ i = .int .i64 j ∧ Hid (MK V.heap.size wr g k a b c) ∧ Hid (Runs k0 ((txs l).take j) k) ∧ Hid (Below V.heap.size V wr)) (fun i _ => (l.length + 1 : Nat) - (intOf i).toNat)
  case atStart => exact ⟨0, k0, _, _, _, by omega, rfl, HM.out, rfl, HV.out⟩
  case round =>
   obtain ⟨j, k, a, b, c, hj, rfl, hM, hRn, hBr⟩ := hrel
   have HBw := Lib.hid (HB0.out.trans (hBr.out.mono HB0.out.size))
   have hkk := runs_ok HO.out hRn.out
   by_cases hlt : j < l.length
   ·have hx : l[j]? = some l[j] := List.getElem?_eq_getElem hlt
    have hsx := hz l[j] (List.getElem_mem hlt)
    generalize l[j] = x at hx hsx
    obtain ⟨gs, cs, e, hcell⟩ := sees_one (HS.out.later HBw.out) hx
    injection e with e1 e2 e3
    subst e1; subst e3
    have hk1 : (j : Int) < (l.length : Int) := by omega
    have hz12 := sz_ok hkk
    have HD := Lib.hid (fun V' (hB : Below wr.heap.size wr V') => keepDo_any V' k a b c x hsx (hM.out.sees.later hB) (hz12.few (by omega)) hz12.texts)
    unfold DoPost at HD
    have HX := Lib.hid (txs_at hx)
    obtain ⟨A0, s0, rfl⟩ := OwnAt.form hM.out.own.held
    obtain ⟨M0, t0, rfl⟩ := OwnAt.form hM.out.own.marks
    obtain ⟨I0, u0, rfl⟩ := OwnAt.form hM.out.own.inbox
    obtain ⟨p0, p1, p2, p3, p4, p5⟩ := KBox.cells hM.out.box
    have HKK := Lib.hid hkk
    clear hx hsx hz12 hkk
    have HLe := Lib.hid (show V.heap.size ≤ wr.heap.size from hM.out.bW)
    have HGl := Lib.hid (show g < wr.heap.size from hM.out.box.lt)
    have HLe := Lib.hid (show V.heap.size ≤ wr.heap.size from hM.out.bW)
    have HGl := Lib.hid (show g < wr.heap.size from hM.out.box.lt)
    have HLe := Lib.hid (show V.heap.size ≤ wr.heap.size from hM.out.bW)
    have HGl := Lib.hid (show g < wr.heap.size from hM.out.box.lt)
    have HLe := Lib.hid (show V.heap.size ≤ wr.heap.size from hM.out.bW)
    have HGl := Lib.hid (show g < wr.heap.size from hM.out.box.lt)
    have HLe := Lib.hid (show V.heap.size ≤ wr.heap.size from hM.out.bW)
    have HGl := Lib.hid (show g < wr.heap.size from hM.out.box.lt)
    go_upto_region 7 with (fail)
    have hb0 := (Below.refl wr.heap.size wr).drew
    refine wp_region_held_drew (S := (fun w' : World => Blk w' g 39 #[.int .i64 k.id, .int .i64 k.time, .int .i64 k.next, .slice A0 k.held.length s0, .slice M0 k.marks.length t0, .slice I0 k.inbox.length u0] ∧ w'.cell? ⟨gs, j, none⟩ = some (.string x))) (by kernel_rfl) ⟨hM.out.box, hcell⟩ (fun hHeld => ?_)
    clear hHeld p0 p1 p2 p3 p4 p5
    have HMd := Lib.hid (hM.out.later hb0)
    have HBd := Lib.hid (hBr.out.trans (hb0.mono hM.out.bW))
    have HGs := Lib.hid (lt_of_cell hcell)
    have HSd := Lib.hid (show Blk wr.drew g 39 #[.int .i64 k.id, .int .i64 k.time, .int .i64 k.next, .slice A0 k.held.length s0, .slice M0 k.marks.length t0, .slice I0 k.inbox.length u0] ∧ wr.drew.cell? ⟨gs, j, none⟩ = some (.string x) from ⟨(hM.out.later hb0).box, hcell⟩)
    have hSd := HSd.out
    refine rs.w 0 23 ?_ rfl ?_ ?_
    rotate_left 1
    ·(intro w hSw; obtain ⟨hb9, hc9⟩ := hSw; obtain ⟨p0, p1, p2, p3, p4, p5⟩ := KBox.cells hb9; go_simp; try with_reducible rfl)
    simp only [rs.a, rs.b, rs.c]
    refine rs.w 1 24 ?_ rfl ?_ ?_
    rotate_left 1
    ·(intro w hSw; obtain ⟨hb9, hc9⟩ := hSw; obtain ⟨p0, p1, p2, p3, p4, p5⟩ := KBox.cells hb9; go_simp; try with_reducible rfl)
    simp only [rs.a, rs.b, rs.c]
    refine rs.w 2 25 ?_ rfl ?_ ?_
    rotate_left 1
    ·(intro w hSw; obtain ⟨hb9, hc9⟩ := hSw; obtain ⟨p0, p1, p2, p3, p4, p5⟩ := KBox.cells hb9; go_simp; try with_reducible rfl)
    simp only [rs.a, rs.b, rs.c]
    refine rs.w 3 26 ?_ rfl ?_ ?_
    rotate_left 1
    ·(intro w hSw; obtain ⟨hb9, hc9⟩ := hSw; obtain ⟨p0, p1, p2, p3, p4, p5⟩ := KBox.cells hb9; go_simp; try with_reducible rfl)
    simp only [rs.a, rs.b, rs.c]
    refine rs.w 4 27 ?_ rfl ?_ ?_
    rotate_left 1
    ·(intro w hSw; obtain ⟨hb9, hc9⟩ := hSw; obtain ⟨p0, p1, p2, p3, p4, p5⟩ := KBox.cells hb9; go_simp; try with_reducible rfl)
    simp only [rs.a, rs.b, rs.c]
    refine wpAnyH_ready (rs := [5, 9]) (by kernel_rfl) (by simp) ?_
    refine AllReadyH.cons rfl (fun K hK => ?_) (AllReadyH.cons rfl (fun K hK => ?_) AllReadyH.nil)
    ·skip
     go_simp
     refine (HD.out _ hb0).mono ?_
     rintro e w3 ⟨k', bb, a3, b3, c3, rfl, hdo, hsz, o3⟩
     obtain ⟨A3, s3, rfl⟩ := OwnR.form o3.held
     obtain ⟨M3, t3, rfl⟩ := OwnR.form o3.marks
     obtain ⟨I3, u3, rfl⟩ := OwnR.form o3.inbox
     have B3 := (hb0).trans (o3.bel.mono (hb0).size)
     have hS3 : Blk w3 g 39 #[.int .i64 k.id, .int .i64 k.time, .int .i64 k.next, .slice A0 k.held.length s0, .slice M0 k.marks.length t0, .slice I0 k.inbox.length u0] ∧ w3.cell? ⟨gs, j, none⟩ = some (.string x) := ⟨hM.out.box.below B3 hM.out.box.lt, (B3.cell (p := ⟨gs, j, none⟩) HGs.out).trans hcell⟩
     refine hK.out _ _ hS3 (fun hHeld => ?_)
     clear hK K hHeld
     refine rs.w 6 22 ?_ rfl ?_ ?_
     rotate_left 1
     ·(intro w hSw; obtain ⟨hb9, hc9⟩ := hSw; obtain ⟨p0, p1, p2, p3, p4, p5⟩ := KBox.cells hb9; go_simp; try with_reducible rfl)
     simp only [rs.a, rs.b, rs.c]
     refine rs.w 7 29 ?_ rfl ?_ ?_
     rotate_left 1
     ·(intro w hSw; obtain ⟨hb9, hc9⟩ := hSw; obtain ⟨p0, p1, p2, p3, p4, p5⟩ := KBox.cells hb9; go_simp; try with_reducible rfl)
     simp only [rs.a, rs.b, rs.c]
     refine rs.w 8 30 ?_ rfl ?_ ?_
     rotate_left 1
     ·(intro w hSw; obtain ⟨hb9, hc9⟩ := hSw; obtain ⟨p0, p1, p2, p3, p4, p5⟩ := KBox.cells hb9; go_simp; try with_reducible rfl)
     simp only [rs.a, rs.b, rs.c]
     have y := Blk.new w3 39 #[.int .i64 0, .int .i64 0, .int .i64 0, .slice none 0 0, .slice none 0 0, .slice none 0 0]
     have B4 := B3.alloc B3.size (.cells #[.int .i64 0, .int .i64 0, .int .i64 0, .slice none 0 0, .slice none 0 0, .slice none 0 0] 39)
     have o4 := (o3.three).later ((Below.refl w3.heap.size w3).alloc (Nat.le_refl _) (.cells #[.int .i64 0, .int .i64 0, .int .i64 0, .slice none 0 0, .slice none 0 0, .slice none 0 0] 39))
     have hS4 : Blk (w3.alloc (.cells #[.int .i64 0, .int .i64 0, .int .i64 0, .slice none 0 0, .slice none 0 0, .slice none 0 0] 39)) g 39 #[.int .i64 k.id, .int .i64 k.time, .int .i64 k.next, .slice A0 k.held.length s0, .slice M0 k.marks.length t0, .slice I0 k.inbox.length u0] ∧ (w3.alloc (.cells #[.int .i64 0, .int .i64 0, .int .i64 0, .slice none 0 0, .slice none 0 0, .slice none 0 0] 39)).cell? ⟨gs, j, none⟩ = some (.string x) := ⟨hM.out.box.below B4 hM.out.box.lt, (B4.cell (p := ⟨gs, j, none⟩) HGs.out).trans hcell⟩
     refine wpAnyH_ready (rs := [9]) (by kernel_rfl) (by simp) ?_
     refine AllReadyH.cons rfl (fun K hK => ?_) AllReadyH.nil
     go_simp
     refine hK.out _ _ hS4 (fun hHeld => ?_)
     clear hK K hHeld
     generalize hX4 : w3.alloc (.cells #[.int .i64 0, .int .i64 0, .int .i64 0, .slice none 0 0, .slice none 0 0, .slice none 0 0] 39) = X4 at y B4 o4 hS4 ⊢
     clear hX4
     have z0 := (y).cell 0
     have z1 := (y).cell 1
     have z2 := (y).cell 2
     have z3 := (y).cell 3
     have z4 := (y).cell 4
     have z5 := (y).cell 5
     simp only [List.getElem?_toArray, List.getElem?_cons_zero, List.getElem?_cons_succ] at z0 z1 z2 z3 z4 z5
     have f0 := (y).frozen 0
     have f1 := (y).frozen 1
     have f2 := (y).frozen 2
     have f3 := (y).frozen 3
     have f4 := (y).frozen 4
     have f5 := (y).frozen 5
     have hXB := Lib.hid (put6_blk (V := X4) (R := w3.heap.size) (a' := .int .i64 k'.id) (b' := .int .i64 k'.time) (c' := .int .i64 k'.next) (d' := .slice A3 k'.held.length s3) (e' := .slice M3 k'.marks.length t3) (f' := .slice I3 k'.inbox.length u3) (y))
     have hBU := Lib.hid (put6_below (w := wr) (V := X4) (B := wr.heap.size) (R := w3.heap.size) (B3.size) (B4) (.int .i64 k'.id) (.int .i64 k'.time) (.int .i64 k'.next) (.slice A3 k'.held.length s3) (.slice M3 k'.marks.length t3) (.slice I3 k'.inbox.length u3))
     have hOU := Lib.hid (own3_put6 (R := w3.heap.size) (o4) (o3.off (Nat.le_refl _)) (.int .i64 k'.id) (.int .i64 k'.time) (.int .i64 k'.next) (.slice A3 k'.held.length s3) (.slice M3 k'.marks.length t3) (.slice I3 k'.inbox.length u3))
     refine wpAnyH_ready (rs := [10]) (by kernel_rfl) (by simp) ?_
     refine AllReadyH.cons rfl (fun K hK => ?_) AllReadyH.nil
     go_simp
     have hS5 := And.intro (hM.out.box.below hBU.out hM.out.box.lt) ((hBU.out.cell (p := ⟨gs, j, none⟩) HGs.out).trans hcell)
     refine hK.out _ _ hS5 (fun hHeld => ?_)
     clear hK K hHeld z0 z1 z2 z3 z4 z5 f0 f1 f2 f3 f4 f5
     refine rs.w 11 9 ?_ rfl ?_ ?_
     rotate_left 1
     ·(intro w hSw; obtain ⟨hb9, hc9⟩ := hSw; obtain ⟨p0, p1, p2, p3, p4, p5⟩ := KBox.cells hb9; go_simp; try with_reducible rfl)
     simp only [rs.a, rs.b, rs.c]
     refine wpAnyH_done (by kernel_rfl) ?_ _
     unfold put6 at hXB hBU hOU
     generalize ((((((X4.setCell ⟨w3.heap.size, 0, none⟩ (.int .i64 k'.id)).setCell ⟨w3.heap.size, 1, none⟩ (.int .i64 k'.time)).setCell ⟨w3.heap.size, 2, none⟩ (.int .i64 k'.next)).setCell ⟨w3.heap.size, 3, none⟩ (.slice A3 k'.held.length s3)).setCell ⟨w3.heap.size, 4, none⟩ (.slice M3 k'.marks.length t3)).setCell ⟨w3.heap.size, 5, none⟩ (.slice I3 k'.inbox.length u3)) = U at hXB hBU hOU hS5 ⊢
     clear hS5
     clear o4
     generalize w3.heap.size = xb at hXB
     have HP := Lib.hid (show Does k x.data.toList k' bb from by rcases hdo with ⟨h9, _⟩ | ⟨_, h9⟩; rw [HKK.out] at h9; cases h9; exact h9)
     have HSZ := Lib.hid hsz
     have HB5 := Lib.hid (hBr.out.trans (hBU.out.mono hM.out.bW))
     have HM5 := Lib.hid (hM.out.later hBU.out)
     clear hdo hsz hBr hM HMd HBd HSd hSd y B4 hS4 B3 o3 hS3 hb0 hcell HD HKK HSz HGs
     clear w3 X4
     go_upto_region 8 with (fail)
     have hb5 := HB5.out
     cases bb with
     | false =>
      have HQ := Lib.hid (HN.out HB.out ⟨j, _, k, HX.out, hRn.out, (does_same HP.out).2⟩)
      have z := HR.out.below hb5 HR.out.lt
      have HB2 := Lib.hid (HB0.out.trans (hb5.mono HB0.out.size))
      obtain ⟨r0, r1, r2, r3, r4, r5, f0, f1, f2, f3, f4, f5⟩ := res_cells z
      have HC := Lib.hid (put6_blk (V := U) (a' := .int .i64 0) (b' := .int .i64 0) (c' := .int .i64 0) (d' := .slice none 0 0) (e' := .slice none 0 0) (f' := .slice none 0 0) z)
      have HD2 := Lib.hid (put6_below (V := U) (B := w.heap.size) (R := w.heap.size) (Nat.le_refl _) HB2.out (.int .i64 0) (.int .i64 0) (.int .i64 0) (.slice none 0 0) (.slice none 0 0) (.slice none 0 0))
      clear z hb5
      go_wp2
      have x0 := HC.out.cell 0
      have x1 := HC.out.cell 1
      have x2 := HC.out.cell 2
      have x3 := HC.out.cell 3
      have x4 := HC.out.cell 4
      have x5 := HC.out.cell 5
      refine bodyPost_ret (v := .tuple #[kpV 0 0 0 (.slice none 0 0) (.slice none 0 0) (.slice none 0 0), .bool false]) (by simp [results, Tryz.results31, go_sem, x0, x1, x2, x3, x4, x5]) rfl ⟨zeroK, false, _, _, _, rfl, HQ.out, zero_sz, nil_own HD2.out rfl rfl rfl⟩
     | true =>
      have HR3 := Lib.hid (runs_snoc hRn.out HP.out)
      rw [← take_snoc HX.out] at HR3
      obtain ⟨y0, y1, y2, y3, y4, y5⟩ := KBox.cells hXB.out
      obtain ⟨r0, r1, r2, r3, r4, r5, f0, f1, f2, f3, f4, f5⟩ := res_cells HM5.out.box
      obtain ⟨hM6, hB6⟩ := MK.turn HM5.out hOU.out HLe.out HGl.out
      have HM6 := Lib.hid hM6
      have HB6 := Lib.hid (HB5.out.trans hB6)
      clear hM6 hB6 hb5
      go_wp2
      go_roundw
      case rel => exact ⟨j + 1, k', _, _, _, by omega, by go_num, HM6, HR3, HB6⟩
      case measure => simp [intOf]; omega
    ·skip
     go_simp
     have y : Blk (wr.alloc (.cells #[.int .i64 0, .int .i64 0, .int .i64 0, .slice none 0 0, .slice none 0 0, .slice none 0 0] 39)).drew wr.heap.size 39 #[.int .i64 0, .int .i64 0, .int .i64 0, .slice none 0 0, .slice none 0 0, .slice none 0 0] := Blk.new wr 39 #[.int .i64 0, .int .i64 0, .int .i64 0, .slice none 0 0, .slice none 0 0, .slice none 0 0]
     have B4 := ((Below.refl wr.heap.size wr).alloc (Nat.le_refl wr.heap.size) (.cells #[.int .i64 0, .int .i64 0, .int .i64 0, .slice none 0 0, .slice none 0 0, .slice none 0 0] 39)).drew
     have n4 : wr.heap.size < ((wr.alloc (.cells #[.int .i64 0, .int .i64 0, .int .i64 0, .slice none 0 0, .slice none 0 0, .slice none 0 0] 39)).drew).heap.size := by show wr.heap.size < (wr.alloc (.cells #[.int .i64 0, .int .i64 0, .int .i64 0, .slice none 0 0, .slice none 0 0, .slice none 0 0] 39)).heap.size; rw [World.size_alloc]; exact Nat.lt_succ_self _
     have hS4 : Blk (wr.alloc (.cells #[.int .i64 0, .int .i64 0, .int .i64 0, .slice none 0 0, .slice none 0 0, .slice none 0 0] 39)).drew g 39 #[.int .i64 k.id, .int .i64 k.time, .int .i64 k.next, .slice A0 k.held.length s0, .slice M0 k.marks.length t0, .slice I0 k.inbox.length u0] ∧ ((wr.alloc (.cells #[.int .i64 0, .int .i64 0, .int .i64 0, .slice none 0 0, .slice none 0 0, .slice none 0 0] 39)).drew).cell? ⟨gs, j, none⟩ = some (.string x) := ⟨hM.out.box.below B4 hM.out.box.lt, (B4.cell (p := ⟨gs, j, none⟩) HGs.out).trans hcell⟩
     refine hK.out _ _ hS4 (fun hHeld => ?_)
     clear hK K hHeld
     generalize (wr.alloc (.cells #[.int .i64 0, .int .i64 0, .int .i64 0, .slice none 0 0, .slice none 0 0, .slice none 0 0] 39)).drew = X4 at y B4 n4 hS4 ⊢
     refine wpAnyH_ready (rs := [5]) (by kernel_rfl) (by simp) ?_
     refine AllReadyH.cons rfl (fun K hK => ?_) AllReadyH.nil
     go_simp
     refine (HD.out _ B4).mono ?_
     rintro e w3 ⟨k', bb, a3, b3, c3, rfl, hdo, hsz, o3⟩
     obtain ⟨A3, s3, rfl⟩ := OwnR.form o3.held
     obtain ⟨M3, t3, rfl⟩ := OwnR.form o3.marks
     obtain ⟨I3, u3, rfl⟩ := OwnR.form o3.inbox
     have B3 := (B4).trans (o3.bel.mono (B4).size)
     have hS3 : Blk w3 g 39 #[.int .i64 k.id, .int .i64 k.time, .int .i64 k.next, .slice A0 k.held.length s0, .slice M0 k.marks.length t0, .slice I0 k.inbox.length u0] ∧ w3.cell? ⟨gs, j, none⟩ = some (.string x) := ⟨hM.out.box.below B3 hM.out.box.lt, (B3.cell (p := ⟨gs, j, none⟩) HGs.out).trans hcell⟩
     refine hK.out _ _ hS3 (fun hHeld => ?_)
     clear hK K hHeld
     refine rs.w 6 22 ?_ rfl ?_ ?_
     rotate_left 1
     ·(intro w hSw; obtain ⟨hb9, hc9⟩ := hSw; obtain ⟨p0, p1, p2, p3, p4, p5⟩ := KBox.cells hb9; go_simp; try with_reducible rfl)
     simp only [rs.a, rs.b, rs.c]
     refine rs.w 7 29 ?_ rfl ?_ ?_
     rotate_left 1
     ·(intro w hSw; obtain ⟨hb9, hc9⟩ := hSw; obtain ⟨p0, p1, p2, p3, p4, p5⟩ := KBox.cells hb9; go_simp; try with_reducible rfl)
     simp only [rs.a, rs.b, rs.c]
     refine rs.w 8 30 ?_ rfl ?_ ?_
     rotate_left 1
     ·(intro w hSw; obtain ⟨hb9, hc9⟩ := hSw; obtain ⟨p0, p1, p2, p3, p4, p5⟩ := KBox.cells hb9; go_simp; try with_reducible rfl)
     simp only [rs.a, rs.b, rs.c]
     have y3 : Blk w3 wr.heap.size 39 #[.int .i64 0, .int .i64 0, .int .i64 0, .slice none 0 0, .slice none 0 0, .slice none 0 0] := y.below o3.bel y.lt
     have z0 := (y3).cell 0
     have z1 := (y3).cell 1
     have z2 := (y3).cell 2
     have z3 := (y3).cell 3
     have z4 := (y3).cell 4
     have z5 := (y3).cell 5
     simp only [List.getElem?_toArray, List.getElem?_cons_zero, List.getElem?_cons_succ] at z0 z1 z2 z3 z4 z5
     have f0 := (y3).frozen 0
     have f1 := (y3).frozen 1
     have f2 := (y3).frozen 2
     have f3 := (y3).frozen 3
     have f4 := (y3).frozen 4
     have f5 := (y3).frozen 5
     have hXB := Lib.hid (put6_blk (V := w3) (R := wr.heap.size) (a' := .int .i64 k'.id) (b' := .int .i64 k'.time) (c' := .int .i64 k'.next) (d' := .slice A3 k'.held.length s3) (e' := .slice M3 k'.marks.length t3) (f' := .slice I3 k'.inbox.length u3) (y3))
     have hBU := Lib.hid (put6_below (w := wr) (V := w3) (B := wr.heap.size) (R := wr.heap.size) (Nat.le_refl _) (B3) (.int .i64 k'.id) (.int .i64 k'.time) (.int .i64 k'.next) (.slice A3 k'.held.length s3) (.slice M3 k'.marks.length t3) (.slice I3 k'.inbox.length u3))
     have hOU := Lib.hid (own3_put6 (R := wr.heap.size) ((o3.from_ B4).three) (o3.off' n4) (.int .i64 k'.id) (.int .i64 k'.time) (.int .i64 k'.next) (.slice A3 k'.held.length s3) (.slice M3 k'.marks.length t3) (.slice I3 k'.inbox.length u3))
     refine wpAnyH_ready (rs := [10]) (by kernel_rfl) (by simp) ?_
     refine AllReadyH.cons rfl (fun K hK => ?_) AllReadyH.nil
     go_simp
     have hS5 := And.intro (hM.out.box.below hBU.out hM.out.box.lt) ((hBU.out.cell (p := ⟨gs, j, none⟩) HGs.out).trans hcell)
     refine hK.out _ _ hS5 (fun hHeld => ?_)
     clear hK K hHeld z0 z1 z2 z3 z4 z5 f0 f1 f2 f3 f4 f5
     refine rs.w 11 9 ?_ rfl ?_ ?_
     rotate_left 1
     ·(intro w hSw; obtain ⟨hb9, hc9⟩ := hSw; obtain ⟨p0, p1, p2, p3, p4, p5⟩ := KBox.cells hb9; go_simp; try with_reducible rfl)
     simp only [rs.a, rs.b, rs.c]
     refine wpAnyH_done (by kernel_rfl) ?_ _
     unfold put6 at hXB hBU hOU
     generalize ((((((w3.setCell ⟨wr.heap.size, 0, none⟩ (.int .i64 k'.id)).setCell ⟨wr.heap.size, 1, none⟩ (.int .i64 k'.time)).setCell ⟨wr.heap.size, 2, none⟩ (.int .i64 k'.next)).setCell ⟨wr.heap.size, 3, none⟩ (.slice A3 k'.held.length s3)).setCell ⟨wr.heap.size, 4, none⟩ (.slice M3 k'.marks.length t3)).setCell ⟨wr.heap.size, 5, none⟩ (.slice I3 k'.inbox.length u3)) = U at hXB hBU hOU hS5 ⊢
     clear hS5
     clear y3 n4
     have HP := Lib.hid (show Does k x.data.toList k' bb from by rcases hdo with ⟨h9, _⟩ | ⟨_, h9⟩; rw [HKK.out] at h9; cases h9; exact h9)
     have HSZ := Lib.hid hsz
     have HB5 := Lib.hid (hBr.out.trans (hBU.out.mono hM.out.bW))
     have HM5 := Lib.hid (hM.out.later hBU.out)
     clear hdo hsz hBr hM HMd HBd HSd hSd y B4 hS4 B3 o3 hS3 hb0 hcell HD HKK HSz HGs
     clear w3 X4
     go_upto_region 8 with (fail)
     have hb5 := HB5.out
     cases bb with
     | false =>
      have HQ := Lib.hid (HN.out HB.out ⟨j, _, k, HX.out, hRn.out, (does_same HP.out).2⟩)
      have z := HR.out.below hb5 HR.out.lt
      have HB2 := Lib.hid (HB0.out.trans (hb5.mono HB0.out.size))
      obtain ⟨r0, r1, r2, r3, r4, r5, f0, f1, f2, f3, f4, f5⟩ := res_cells z
      have HC := Lib.hid (put6_blk (V := U) (a' := .int .i64 0) (b' := .int .i64 0) (c' := .int .i64 0) (d' := .slice none 0 0) (e' := .slice none 0 0) (f' := .slice none 0 0) z)
      have HD2 := Lib.hid (put6_below (V := U) (B := w.heap.size) (R := w.heap.size) (Nat.le_refl _) HB2.out (.int .i64 0) (.int .i64 0) (.int .i64 0) (.slice none 0 0) (.slice none 0 0) (.slice none 0 0))
      clear z hb5
      go_wp2
      have x0 := HC.out.cell 0
      have x1 := HC.out.cell 1
      have x2 := HC.out.cell 2
      have x3 := HC.out.cell 3
      have x4 := HC.out.cell 4
      have x5 := HC.out.cell 5
      refine bodyPost_ret (v := .tuple #[kpV 0 0 0 (.slice none 0 0) (.slice none 0 0) (.slice none 0 0), .bool false]) (by simp [results, Tryz.results31, go_sem, x0, x1, x2, x3, x4, x5]) rfl ⟨zeroK, false, _, _, _, rfl, HQ.out, zero_sz, nil_own HD2.out rfl rfl rfl⟩
     | true =>
      have HR3 := Lib.hid (runs_snoc hRn.out HP.out)
      rw [← take_snoc HX.out] at HR3
      obtain ⟨y0, y1, y2, y3, y4, y5⟩ := KBox.cells hXB.out
      obtain ⟨r0, r1, r2, r3, r4, r5, f0, f1, f2, f3, f4, f5⟩ := res_cells HM5.out.box
      obtain ⟨hM6, hB6⟩ := MK.turn HM5.out hOU.out HLe.out HGl.out
      have HM6 := Lib.hid hM6
      have HB6 := Lib.hid (HB5.out.trans hB6)
      clear hM6 hB6 hb5
      go_wp2
      go_roundw
      case rel => exact ⟨j + 1, k', _, _, _, by omega, by go_num, HM6, HR3, HB6⟩
      case measure => simp [intOf]; omega
   ·obtain rfl : j = l.length := by omega
    have hRn' := hRn.out
    rw [List.take_of_length_le (by unfold txs; rw [List.length_map]; exact Nat.le_refl _)] at hRn'
    have HP := Lib.hid (HT.out k HB.out hRn')
    have HZZ := Lib.hid ((sz_ok hkk).up (show 12 ≤ 14 by omega))
    have hk1 : ¬ (l.length : Int) < (l.length : Int) := by omega
    have z := HR.out.below hBr.out HR.out.lt
    obtain ⟨r0, r1, r2, r3, r4, r5, f0, f1, f2, f3, f4, f5⟩ := res_cells z
    obtain ⟨A4, c4, rfl⟩ := OwnAt.form hM.out.own.held
    obtain ⟨B4, d4, rfl⟩ := OwnAt.form hM.out.own.marks
    obtain ⟨C4, e4, rfl⟩ := OwnAt.form hM.out.own.inbox
    obtain ⟨p0, p1, p2, p3, p4, p5⟩ := KBox.cells hM.out.box
    have HC := Lib.hid (put6_blk (V := wr) (a' := .int .i64 k.id) (b' := .int .i64 k.time) (c' := .int .i64 k.next) (d' := .slice A4 k.held.length c4) (e' := .slice B4 k.marks.length d4) (f' := .slice C4 k.inbox.length e4) z)
    have HD := Lib.hid (put6_below (V := wr) (B := w.heap.size) (R := w.heap.size) (Nat.le_refl _) HBw.out (.int .i64 k.id) (.int .i64 k.time) (.int .i64 k.next) (.slice A4 k.held.length c4) (.slice B4 k.marks.length d4) (.slice C4 k.inbox.length e4))
    have HG := Lib.hid (OwnK.put6 (R := w.heap.size) (hM.out.ownK hBr.out) (by have := HVs.out; omega) (by have := HVs.out; omega) HD.out)
    clear z hM hRn hBr HBw hRn' hkk
    go_wp2
    have x0 := HC.out.cell 0
    have x1 := HC.out.cell 1
    have x2 := HC.out.cell 2
    have x3 := HC.out.cell 3
    have x4 := HC.out.cell 4
    have x5 := HC.out.cell 5
    refine bodyPost_ret (v := .tuple #[kpV k.id k.time k.next (.slice A4 k.held.length c4) (.slice B4 k.marks.length d4) (.slice C4 k.inbox.length e4), .bool true]) (by simp [results, Tryz.results31, go_sem, x0, x1, x2, x3, x4, x5]) rfl ⟨k, true, _, _, _, rfl, HP.out, HZZ.out, HG.out⟩
end Go.Proofs.YtckicpnnclbkpaaGreatDoor.kp

namespace Go.Proofs.YtckicpnnclbkpaaGreatDoor.sh
open Go.ChangeShapes Go.WideShapes Go.ChangeAt Go.RowKit
open wd ow sl
theorem recV_str (l : List (List UInt8)) : recV l = (l.map dc.str).map Value.string := by simp [recV]
end Go.Proofs.YtckicpnnclbkpaaGreatDoor.sh

