/-
  Contracts of impl.FrameOk and of its parts: isInRange, isPiece, isAnswer.
-/
import Derived.Test.YtgihbilpimempaaSFr
import Derived.Test.YtgihbilpimempaaIOk0
import Derived.Test.YtgihbilpimempaaRegSkip
import Derived.Deep.RegionHeld3
import Derived.BigRegion
import Derived.Deep.Cut
namespace Go.Proofs.Ytgihbilpimempaa.fr
open Go.ChangeShapes Go.WideShapes Go.ChangeAt Go.RowKit
open Go.Proofs.Ytgihbilpimempaa.nb Go.Proofs.Ytgihbilpimempaa.wd Go.Proofs.Ytgihbilpimempaa.nx Go.Proofs.Ytgihbilpimempaa.li Go.Proofs.Ytgihbilpimempaa.ow
open Go.Proofs.Ytgihbilpimempaa.ok (L3 l3c fits Limits searchL SearchPost)

/-- a block that holds limits, cell behind cell, reads as these limits -/
theorem flat_at (l : List L3) : ∀ i x, l[i]? = some x → (l.flatMap l3c)[i * 3]? = some (.int .i64 x.1) ∧ (l.flatMap l3c)[i * 3 + 1]? = some (.int .i64 x.2.1) ∧ (l.flatMap l3c)[i * 3 + 2]? = some (.int .i64 x.2.2) := by
  induction l with
  | nil => intro i x hx; simp at hx
  | cons a l ih =>
    intro i x hx
    have e : (a :: l).flatMap l3c = .int .i64 a.1 :: .int .i64 a.2.1 :: .int .i64 a.2.2 :: l.flatMap l3c := rfl
    rw [e]
    cases i with
    | zero => simp at hx; subst hx; exact ⟨rfl, rfl, rfl⟩
    | succ i =>
      obtain ⟨h0, h1, h2⟩ := ih i x (by simpa using hx)
      rw [show (i + 1) * 3 = i * 3 + 1 + 1 + 1 by omega]
      simp only [List.getElem?_cons_succ]
      exact ⟨h0, h1, h2⟩
theorem search_blk (w : World) (g c : Nat) (T : TypeId) (l : List L3) (hl : l.length ≤ 100) (h : Blk w g T (l.flatMap l3c).toArray) :
    Calls Try.prog 45 #[.slice (some ⟨g, 0, none⟩) l.length c, .func (.func 35) #[] #[]] w (SearchPost w (!(l.all fits))) :=
  searchL w g c l ⟨h.lt, fun i x hx => by
    obtain ⟨h0, h1, h2⟩ := flat_at l i x hx
    rw [h.cell, h.cell, h.cell]
    exact ⟨by simpa using h0, by simpa using h1, by simpa using h2⟩⟩ hl

def lims6 (s d f n t u : Int) : List L3 := [(s, 0, 3), (d, 0, 3), (f, 0, 3), (n, 1, 99), (t, 0, 3), (u, 1, 999)]
theorem lims6_all (F : Fr) : (lims6 F.s F.d F.f F.n F.t F.u).all fits = okHead F := by
  simp [lims6, fits, okHead, Bool.and_assoc]
theorem search6 (w : World) (g : Nat) (s d f n t u : Int) (h : Blk w g 46 #[.int .i64 s, .int .i64 0, .int .i64 3, .int .i64 d, .int .i64 0, .int .i64 3, .int .i64 f, .int .i64 0, .int .i64 3, .int .i64 n, .int .i64 1, .int .i64 99, .int .i64 t, .int .i64 0, .int .i64 3, .int .i64 u, .int .i64 1, .int .i64 999]) :
    Calls Try.prog 45 #[.slice (some ⟨g, 0, none⟩) 6 6, .func (.func 35) #[] #[]] w (SearchPost w (!((lims6 s d f n t u).all fits))) :=
  search_blk w g 6 _ (lims6 s d f n t u) (by simp [lims6]) h
def lims3 (z m c : Int) : List L3 := [(z, 1, 24), (m, 0, 999), (c, 4, 4)]
theorem lims3_all (z m : Int) (x : ByteArray) : (lims3 z m x.size).all fits = (inB z 1 24 && inB m 0 999 && decide (x.size = 4)) := by
  have e : inB (x.size : Int) 4 4 = decide (x.size = 4) := by
    unfold inB
    congr 1
    exact propext ⟨fun h => by omega, fun h => by omega⟩
  simp [lims3, fits, e, Bool.and_assoc]
theorem search3 (w : World) (g : Nat) (z m c : Int) (h : Blk w g 46 #[.int .i64 z, .int .i64 1, .int .i64 24, .int .i64 m, .int .i64 0, .int .i64 999, .int .i64 c, .int .i64 4, .int .i64 4]) :
    Calls Try.prog 45 #[.slice (some ⟨g, 0, none⟩) 3 3, .func (.func 35) #[] #[]] w (SearchPost w (!((lims3 z m c).all fits))) :=
  search_blk w g 3 _ (lims3 z m c) (by simp [lims3]) h

set_option maxRecDepth 100000 in
set_option maxHeartbeats 4000000 in
theorem irange_any (k s d f n t u z m : Int) (x : ByteArray) (V : World) (R : Nat) (h : Blk V R 27 #[.int .i64 k, .int .i64 s, .int .i64 d, .int .i64 f, .int .i64 n, .int .i64 t, .int .i64 u, .int .i64 z, .int .i64 m, .string x]) :
    Calls Try.prog 28 #[.pointer (some ⟨R, 0, none⟩)] V (BoolPost V (okHead ⟨k, s, d, f, n, t, u, z, m, x⟩)) := by
  obtain ⟨c0, c1, c2, c3, c4, c5, c6, c7, c8, c9, hz⟩ := ten h
  have HA : Hid ((lims6 s d f n t u).all fits = okHead ⟨k, s, d, f, n, t, u, z, m, x⟩) := lims6_all ⟨k, s, d, f, n, t, u, z, m, x⟩
  clear h c0 c7 c8 c9
  go_enter Try.func28, Try.ntmps28
  go_upto_region 1 with (fail)
  go_region_held3 (fun w' => w'.cell? ⟨R, 1, none⟩ = some (.int .i64 s) ∧ w'.cell? ⟨R, 2, none⟩ = some (.int .i64 d) ∧ w'.cell? ⟨R, 3, none⟩ = some (.int .i64 f) ∧ w'.cell? ⟨R, 4, none⟩ = some (.int .i64 n) ∧ w'.cell? ⟨R, 5, none⟩ = some (.int .i64 t) ∧ w'.cell? ⟨R, 6, none⟩ = some (.int .i64 u)) (first | exact ⟨c1, c2, c3, c4, c5, c6⟩ | exact ⟨s1, s2, s3, s4, s5, s6⟩ | go_keep) (((first | (go_at_call 34; refine (limited_any _ _).mono ?_) | (go_at_call 43; refine (limNum_any _ _).mono ?_) | (go_at_call 44; refine (limUntil_any _ _).mono ?_)); rintro e w2 ⟨rfl, hB2⟩; first | (have hBa := hBa.trans (hB2.mono hBa.size); have s1 := (hB2.cell (p := ⟨R, 1, none⟩) hz2).trans s1; have s2 := (hB2.cell (p := ⟨R, 2, none⟩) hz2).trans s2; have s3 := (hB2.cell (p := ⟨R, 3, none⟩) hz2).trans s3; have s4 := (hB2.cell (p := ⟨R, 4, none⟩) hz2).trans s4; have s5 := (hB2.cell (p := ⟨R, 5, none⟩) hz2).trans s5; have s6 := (hB2.cell (p := ⟨R, 6, none⟩) hz2).trans s6; have hz2 := Nat.lt_of_lt_of_le hz2 hB2.size) | (have hBa := hB2; have s1 := (hB2.cell (p := ⟨R, 1, none⟩) hz).trans c1; have s2 := (hB2.cell (p := ⟨R, 2, none⟩) hz).trans c2; have s3 := (hB2.cell (p := ⟨R, 3, none⟩) hz).trans c3; have s4 := (hB2.cell (p := ⟨R, 4, none⟩) hz).trans c4; have s5 := (hB2.cell (p := ⟨R, 5, none⟩) hz).trans c5; have s6 := (hB2.cell (p := ⟨R, 6, none⟩) hz).trans c6; have hz2 := Nat.lt_of_lt_of_le hz hB2.size)))
  have HB3 := Lib.hid (show Below V.heap.size V w2 from ⟨hBa.os, hBa.tape, hBa.output, hBa.size, hBa.block⟩)
  clear hBa hB2 c1 c2 c3 c4 c5 c6 s1 s2 s3 s4 s5 s6 hz hz2
  go_wp2_with fail
  refine (search6 _ _ s d f n t u (Blk.new _ _ _)).mono ?_
  rintro e w4 ⟨i, rfl, hB4⟩
  have HB4 := Lib.hid (HB3.out.trans (((Below.refl w2.heap.size w2).alloc (Nat.le_refl _) _).trans (hB4.mono (by simp)) |>.mono HB3.out.size))
  clear hB4
  rw [HA.out]
  go_wp2
  go_ret
  exact ⟨rfl, HB4.out⟩

theorem limTS_any (n : Int) (w : World) : Calls Try.prog 46 #[.int .i64 n] w fun e w' => e = .returned (lim n 1 24) ∧ Below w.heap.size w w' := by
  go_enter Try.func46, Try.ntmps46
  go_wp2
  exact bodyPost_ret (v := lim n 1 24) (by simp [results, Try.results46, go_sem, lim]) rfl ⟨rfl, (Below.refl _ _).alloc (Nat.le_refl _) _⟩
theorem limMx_any (n : Int) (w : World) : Calls Try.prog 58 #[.int .i64 n] w fun e w' => e = .returned (lim n 0 999) ∧ Below w.heap.size w w' := by
  go_enter Try.func58, Try.ntmps58
  go_wp2
  exact bodyPost_ret (v := lim n 0 999) (by simp [results, Try.results58, go_sem, lim]) rfl ⟨rfl, (Below.refl _ _).alloc (Nat.le_refl _) _⟩

set_option maxRecDepth 100000 in
set_option maxHeartbeats 1000000 in
theorem mir_any (m : Int) (x : ByteArray) (w : World) : Calls Try.prog 48 #[.agg #[.int .i64 m, .string x]] w (BoolPost w (inB m 0 999 && decide (x.size = 4))) := by
  have hb := Blk.new w 67 #[.int .i64 m, .string x]
  have hB0 := (Below.refl w.heap.size w).alloc (Nat.le_refl _) (.cells #[.int .i64 m, .string x] 67)
  have HL := Lib.hid (fun V => limMx_any m V)
  have HO := Lib.hid (fun V => outside_any m 0 999 V)
  have hq : ((x.size : Int) == 4) = decide (x.size = 4) := by
    rw [Bool.eq_iff_iff, beq_iff_eq, decide_eq_true_eq]; omega
  go_enter Try.func48, Try.ntmps48
  go_upto_region 1 with (fail)
  generalize w.alloc (.cells #[.int .i64 m, .string x] 67) = V at hb hB0 ⊢
  generalize w.heap.size = rb at hb ⊢
  have c0 := hb.cell 0
  simp only [List.getElem?_toArray, List.getElem?_cons_zero] at c0
  go_wp2_with fail
  refine (HL.out _).mono ?_
  rintro e w2 ⟨rfl, hB2⟩
  go_wp2_with fail
  refine (HO.out _).mono ?_
  rintro e w3 ⟨rfl, hB3⟩
  have b3 := hb.below (hB2.trans (hB3.mono hB2.size)) hb.lt
  have HB3 := Lib.hid (hB0.trans ((hB2.trans (hB3.mono hB2.size)).mono hB0.size))
  have d1 := b3.cell 1
  simp only [List.getElem?_toArray, List.getElem?_cons_zero, List.getElem?_cons_succ] at d1
  clear hB2 hB3 hb b3 c0 hB0 HL HO
  cases hi : inB m 0 999 with
  | false =>
    have HF := Lib.hid (show false = (inB m 0 999 && decide (x.size = 4)) by rw [hi]; rfl)
    clear hi
    go_wp2
    go_ret
    exact ⟨nb.ret_bool HF.out, HB3.out⟩
  | true =>
    have HF := Lib.hid (show decide (x.size = 4) = (inB m 0 999 && decide (x.size = 4)) by rw [hi]; simp)
    clear hi
    go_wp2
    go_ret
    exact ⟨nb.ret_bool HF.out, HB3.out⟩

set_option maxRecDepth 100000 in
set_option maxHeartbeats 1000000 in
theorem mixed_any (k s d f n t u z m : Int) (x : ByteArray) (V : World) (R : Nat) (h : Blk V R 27 #[.int .i64 k, .int .i64 s, .int .i64 d, .int .i64 f, .int .i64 n, .int .i64 t, .int .i64 u, .int .i64 z, .int .i64 m, .string x]) :
    Calls Try.prog 47 #[.pointer (some ⟨R, 0, none⟩)] V fun e w' => e = .returned (.agg #[.int .i64 m, .string x]) ∧ Below V.heap.size V w' := by
  have h1 := h.alloc (.cells #[.int .i64 0, .string ⟨#[]⟩] 67)
  have hz0 := Blk.new V 67 #[.int .i64 0, .string ⟨#[]⟩]
  have hB0 := (Below.refl V.heap.size V).alloc (Nat.le_refl _) (.cells #[.int .i64 0, .string ⟨#[]⟩] 67)
  obtain ⟨c0, c1, c2, c3, c4, c5, c6, c7, c8, c9, hz⟩ := ten h1
  have z0 := hz0.cell 0
  have z1 := hz0.cell 1
  have y0 := hz0.frozen 0
  have y1 := hz0.frozen 1
  simp only [List.getElem?_toArray, List.getElem?_cons_zero, List.getElem?_cons_succ] at z0 z1
  clear c0 c1 c2 c3 c4 c5 c6 c7 h h1 hz0
  go_enter Try.func47, Try.ntmps47
  go_upto_region 1 with (fail)
  have HB := Lib.hid (((hB0.setCell (p := ⟨V.heap.size, 0, none⟩) (Nat.le_refl _) (.int .i64 m)).setCell (p := ⟨V.heap.size, 1, none⟩) (Nat.le_refl _) (.string x)))
  have HN := Lib.hid (show V.heap.size ≤ V.heap.size from Nat.le_refl _)
  generalize V.alloc (.cells #[.int .i64 0, .string ⟨#[]⟩] 67) = U at c8 c9 z0 z1 y0 y1 hz HB ⊢
  generalize hq : V.heap.size = q at z0 z1 y0 y1 HN HB ⊢
  have HQ := Lib.hid hq
  clear hq hB0
  go_region
  all_goals
    go_wp2
    refine bodyPost_ret (v := .agg #[.int .i64 m, .string x]) (by simp [results, Try.results47, go_sem, *]) rfl ⟨rfl, ?_⟩
    rw [HQ.out]
    exact ⟨HB.out.os, HB.out.tape, HB.out.output, HB.out.size, HB.out.block⟩

set_option maxRecDepth 100000 in
set_option maxHeartbeats 4000000 in
theorem ipiece_any (k s d f n t u z m : Int) (x : ByteArray) (V : World) (R : Nat) (h : Blk V R 27 #[.int .i64 k, .int .i64 s, .int .i64 d, .int .i64 f, .int .i64 n, .int .i64 t, .int .i64 u, .int .i64 z, .int .i64 m, .string x]) (_hx : x.size ≤ maxLen) :
    Calls Try.prog 29 #[.pointer (some ⟨R, 0, none⟩)] V (BoolPost V (okPiece ⟨k, s, d, f, n, t, u, z, m, x⟩)) := by
  obtain ⟨c0, c1, c2, c3, c4, c5, c6, c7, c8, c9, hz⟩ := ten h
  have HE : Hid (∀ y, (okPiece ⟨k, s, d, f, n, t, u, z, m, x⟩ = y) = ((decide (nxt s t = d) && inB z 1 24 && (inB m 0 999 && decide (x.size = 4))) = y)) := fun y => by
    simp only [okPiece, Bool.and_assoc]
  have HN := Lib.hid (fun W => inext_any s t W)
  have HL := Lib.hid (fun V => limTS_any z V)
  have HO := Lib.hid (fun V => outside_any z 1 24 V)
  have HX := Lib.hid (fun V h => mixed_any k s d f n t u z m x V R h)
  have HI := Lib.hid (fun V => mir_any m x V)
  have HK := Lib.hid h
  unfold BoolPost at HI
  clear h c0 c1 c2 c3 c4 c5 c6 c8 c9
  generalize nxt s t = N at HN HE
  generalize (inB m 0 999 && decide (x.size = 4)) = q at HI HE
  go_enter Try.func29, Try.ntmps29
  go_wp2_with fail
  refine (HL.out _).mono ?_
  rintro e w2 ⟨rfl, hB2⟩
  go_wp2_with fail
  refine (HO.out _).mono ?_
  rintro e w3 ⟨rfl, hB3⟩
  have HB3 := Lib.hid (hB2.trans (hB3.mono hB2.size))
  clear hB2 hB3 c7 HL HO
  have k3 := HK.out.below HB3.out HK.out.lt
  cases hi : inB z 1 24 with
  | false =>
    have HR : Hid (okPiece ⟨k, s, d, f, n, t, u, z, m, x⟩ = false) := by
      show _ = _
      rw [HE.out, hi, Bool.and_false, Bool.false_and]
    clear hi k3
    go_wp2
    go_ret
    exact ⟨nb.ret_bool HR.out.symm, HB3.out⟩
  | true =>
    have HE2 := Lib.hid (show ∀ y, (okPiece ⟨k, s, d, f, n, t, u, z, m, x⟩ = y) = ((decide (N = d) && q) = y) from fun y => by rw [HE.out, hi, Bool.and_true])
    clear hi HE
    go_wp2_with fail
    refine (HX.out _ k3).mono ?_
    rintro e w5 ⟨rfl, hB5⟩
    go_wp2_with fail
    refine (HI.out _).mono ?_
    rintro e w4 ⟨rfl, hB6⟩
    have hB4' := HB3.out.trans ((hB5.trans (hB6.mono hB5.size)).mono HB3.out.size)
    have k4 := HK.out.below hB4' HK.out.lt
    obtain ⟨_, d1, d2, _, _, d5, _, _, _, _, hz4⟩ := ten k4
    have HB4 := Lib.hid hB4'
    clear hB4' hB5 hB6 k3 k4 HX HI HB3
    cases hf : q with
    | false =>
      have HR : Hid (okPiece ⟨k, s, d, f, n, t, u, z, m, x⟩ = false) := by
        show _ = _
        rw [HE2.out, hf, Bool.and_false]
      clear hf d1 d2 d5
      go_wp2
      go_ret
      exact ⟨nb.ret_bool HR.out.symm, HB4.out⟩
    | true =>
      by_cases e1 : N = d
      · have HR : Hid (okPiece ⟨k, s, d, f, n, t, u, z, m, x⟩ = true) := by
          show _ = _
          rw [HE2.out, hf, e1]
          simp
        have q1 : (d == N) = true := beq_iff_eq.2 e1.symm
        clear hf e1
        go_upto_region 3 with (fail)
        go_region_held3 (fun w' => w'.cell? ⟨R, 1, none⟩ = some (.int .i64 s) ∧ w'.cell? ⟨R, 2, none⟩ = some (.int .i64 d) ∧ w'.cell? ⟨R, 5, none⟩ = some (.int .i64 t)) (first | exact ⟨d1, d2, d5⟩ | exact ⟨s1, s2, s5⟩ | go_keep) ((go_at_call 15; refine (HN.out _).mono ?_; rintro e w5 ⟨rfl, hB5⟩; have s1 := (hB5.cell (p := ⟨R, 1, none⟩) hz4).trans d1; have s2 := (hB5.cell (p := ⟨R, 2, none⟩) hz4).trans d2; have s5 := (hB5.cell (p := ⟨R, 5, none⟩) hz4).trans d5))
        have HB5 := Lib.hid (HB4.out.trans ((show Below w4.heap.size w4 w5 from ⟨hB5.os, hB5.tape, hB5.output, hB5.size, hB5.block⟩).mono HB4.out.size))
        clear hB5
        go_wp2
        go_ret
        exact ⟨nb.ret_bool HR.out.symm, HB5.out⟩
      · have HR : Hid (okPiece ⟨k, s, d, f, n, t, u, z, m, x⟩ = false) := by
          show _ = _
          rw [HE2.out, decide_eq_false e1, Bool.false_and]
        have q1 : (d == N) = false := beq_eq_false_iff_ne.2 (fun h => e1 h.symm)
        clear hf e1
        go_upto_region 3 with (fail)
        go_region_held3 (fun w' => w'.cell? ⟨R, 1, none⟩ = some (.int .i64 s) ∧ w'.cell? ⟨R, 2, none⟩ = some (.int .i64 d) ∧ w'.cell? ⟨R, 5, none⟩ = some (.int .i64 t)) (first | exact ⟨d1, d2, d5⟩ | exact ⟨s1, s2, s5⟩ | go_keep) ((go_at_call 15; refine (HN.out _).mono ?_; rintro e w5 ⟨rfl, hB5⟩; have s1 := (hB5.cell (p := ⟨R, 1, none⟩) hz4).trans d1; have s2 := (hB5.cell (p := ⟨R, 2, none⟩) hz4).trans d2; have s5 := (hB5.cell (p := ⟨R, 5, none⟩) hz4).trans d5))
        have HB5 := Lib.hid (HB4.out.trans ((show Below w4.heap.size w4 w5 from ⟨hB5.os, hB5.tape, hB5.output, hB5.size, hB5.block⟩).mono HB4.out.size))
        clear hB5
        go_wp2
        go_ret
        exact ⟨nb.ret_bool HR.out.symm, HB5.out⟩

set_option maxRecDepth 100000 in
set_option maxHeartbeats 4000000 in
theorem ians_any (k s d f n t u z m : Int) (x : ByteArray) (V : World) (R : Nat) (h : Blk V R 27 #[.int .i64 k, .int .i64 s, .int .i64 d, .int .i64 f, .int .i64 n, .int .i64 t, .int .i64 u, .int .i64 z, .int .i64 m, .string x]) :
    Calls Try.prog 30 #[.pointer (some ⟨R, 0, none⟩)] V (BoolPost V (okAns ⟨k, s, d, f, n, t, u, z, m, x⟩)) := by
  obtain ⟨c0, c1, c2, c3, c4, c5, c6, c7, c8, c9, hz⟩ := ten h
  have HE : Hid (∀ y, (okAns ⟨k, s, d, f, n, t, u, z, m, x⟩ = y) = ((decide (nxt d t = s) && decide (z = 0) && decide (m = 0) && decide (x.size = 0)) = y)) := fun _ => rfl
  have HN := Lib.hid (fun W => inext_any d t W)
  clear h c0 c3 c4 c6
  generalize nxt d t = N at HN HE
  go_enter Try.func30, Try.ntmps30
  by_cases e1 : N = s
  · have q1 : (s == N) = true := beq_iff_eq.2 e1.symm
    by_cases e2 : z = 0
    · have q2 : (z == 0) = true := beq_iff_eq.2 e2
      by_cases e3 : m = 0
      · have q3 : (m == 0) = true := beq_iff_eq.2 e3
        by_cases e4 : x.size = 0
        · skip
          have HR : Hid (okAns ⟨k, s, d, f, n, t, u, z, m, x⟩ = true) := by
            show _ = _
            rw [HE.out]
            simp [e1, e2, e3, e4]
          have q4 : (x.toList == ([] : List UInt8)) = true := by rw [ByteArray.toList_eq, str_empty e4]; rfl
          clear e1 e2 e3 e4
          go_upto_region 1 with (fail)
          go_region_held3 (fun w' => w'.cell? ⟨R, 1, none⟩ = some (.int .i64 s) ∧ w'.cell? ⟨R, 2, none⟩ = some (.int .i64 d) ∧ w'.cell? ⟨R, 5, none⟩ = some (.int .i64 t) ∧ w'.cell? ⟨R, 7, none⟩ = some (.int .i64 z) ∧ w'.cell? ⟨R, 8, none⟩ = some (.int .i64 m) ∧ w'.cell? ⟨R, 9, none⟩ = some (.string x)) (first | exact ⟨c1, c2, c5, c7, c8, c9⟩ | exact ⟨s1, s2, s5, s7, s8, s9⟩ | go_keep) ((go_at_call 15; refine (HN.out _).mono ?_; rintro e w2 ⟨rfl, hB2⟩; have s1 := (hB2.cell (p := ⟨R, 1, none⟩) hz).trans c1; have s2 := (hB2.cell (p := ⟨R, 2, none⟩) hz).trans c2; have s5 := (hB2.cell (p := ⟨R, 5, none⟩) hz).trans c5; have s7 := (hB2.cell (p := ⟨R, 7, none⟩) hz).trans c7; have s8 := (hB2.cell (p := ⟨R, 8, none⟩) hz).trans c8; have s9 := (hB2.cell (p := ⟨R, 9, none⟩) hz).trans c9))
          have HB2 := Lib.hid (show Below V.heap.size V w2 from ⟨hB2.os, hB2.tape, hB2.output, hB2.size, hB2.block⟩)
          clear hB2
          go_wp2
          go_ret
          exact ⟨nb.ret_bool HR.out.symm, HB2.out⟩
        · skip
          have HR : Hid (okAns ⟨k, s, d, f, n, t, u, z, m, x⟩ = false) := by
            show _ = _
            rw [HE.out]
            simp [e4]
          have q4 : (x.toList == ([] : List UInt8)) = false := by
            have := toList_ne (x := x) (y := ⟨#[]⟩) (fun h => e4 (by rw [h]; rfl))
            simpa using this
          clear e1 e2 e3 e4
          go_upto_region 1 with (fail)
          go_region_held3 (fun w' => w'.cell? ⟨R, 1, none⟩ = some (.int .i64 s) ∧ w'.cell? ⟨R, 2, none⟩ = some (.int .i64 d) ∧ w'.cell? ⟨R, 5, none⟩ = some (.int .i64 t) ∧ w'.cell? ⟨R, 7, none⟩ = some (.int .i64 z) ∧ w'.cell? ⟨R, 8, none⟩ = some (.int .i64 m) ∧ w'.cell? ⟨R, 9, none⟩ = some (.string x)) (first | exact ⟨c1, c2, c5, c7, c8, c9⟩ | exact ⟨s1, s2, s5, s7, s8, s9⟩ | go_keep) ((go_at_call 15; refine (HN.out _).mono ?_; rintro e w2 ⟨rfl, hB2⟩; have s1 := (hB2.cell (p := ⟨R, 1, none⟩) hz).trans c1; have s2 := (hB2.cell (p := ⟨R, 2, none⟩) hz).trans c2; have s5 := (hB2.cell (p := ⟨R, 5, none⟩) hz).trans c5; have s7 := (hB2.cell (p := ⟨R, 7, none⟩) hz).trans c7; have s8 := (hB2.cell (p := ⟨R, 8, none⟩) hz).trans c8; have s9 := (hB2.cell (p := ⟨R, 9, none⟩) hz).trans c9))
          have HB2 := Lib.hid (show Below V.heap.size V w2 from ⟨hB2.os, hB2.tape, hB2.output, hB2.size, hB2.block⟩)
          clear hB2
          go_wp2
          go_ret
          exact ⟨nb.ret_bool HR.out.symm, HB2.out⟩
      · have q3 : (m == 0) = false := beq_eq_false_iff_ne.2 e3
        have HR : Hid (okAns ⟨k, s, d, f, n, t, u, z, m, x⟩ = false) := by
          show _ = _
          rw [HE.out]
          simp [e3]
        clear e1 e2 e3
        go_upto_region 1 with (fail)
        refine wp_region_held_drew (S := (fun w' : World => w'.cell? ⟨R, 1, none⟩ = some (.int .i64 s) ∧ w'.cell? ⟨R, 2, none⟩ = some (.int .i64 d) ∧ w'.cell? ⟨R, 5, none⟩ = some (.int .i64 t) ∧ w'.cell? ⟨R, 7, none⟩ = some (.int .i64 z) ∧ w'.cell? ⟨R, 8, none⟩ = some (.int .i64 m) ∧ w'.cell? ⟨R, 9, none⟩ = some (.string x))) (by kernel_rfl) ⟨c1, c2, c5, c7, c8, c9⟩ (fun hHeld => ?_)
        refine rs.want_take (i := 0) 3 (v := ?_) rfl rfl (by kernel_rfl) (by kernel_rfl) (by kernel_rfl) (fun _ _ _ _ h => h) rfl ?_ (by assumption) ?_
        rotate_left 1
        · (intro w hSw; (try dsimp only at hSw); go_simp; try with_reducible rfl)
        simp only [List.setIfInBounds_toArray, List.set_cons_zero, List.set_cons_succ]
        refine rs.want_take (i := 1) 4 (v := ?_) rfl rfl (by kernel_rfl) (by kernel_rfl) (by kernel_rfl) (fun _ _ _ _ h => h) rfl ?_ (by assumption) ?_
        rotate_left 1
        · (intro w hSw; (try dsimp only at hSw); go_simp; try with_reducible rfl)
        simp only [List.setIfInBounds_toArray, List.set_cons_zero, List.set_cons_succ]
        refine rs.want_take (i := 2) 5 (v := ?_) rfl rfl (by kernel_rfl) (by kernel_rfl) (by kernel_rfl) (fun _ _ _ _ h => h) rfl ?_ (by assumption) ?_
        rotate_left 1
        · (intro w hSw; (try dsimp only at hSw); go_simp; try with_reducible rfl)
        simp only [List.setIfInBounds_toArray, List.set_cons_zero, List.set_cons_succ]
        refine rs.want_take (i := 3) 6 (v := ?_) rfl rfl (by kernel_rfl) (by kernel_rfl) (by kernel_rfl) (fun _ _ _ _ h => h) rfl ?_ (by assumption) ?_
        rotate_left 1
        · (intro w hSw; (try dsimp only at hSw); go_simp; try with_reducible rfl)
        simp only [List.setIfInBounds_toArray, List.set_cons_zero, List.set_cons_succ]
        refine rs.want_take (i := 4) 7 (v := ?_) rfl rfl (by kernel_rfl) (by kernel_rfl) (by kernel_rfl) (fun _ _ _ _ h => h) rfl ?_ (by assumption) ?_
        rotate_left 1
        · (intro w hSw; (try dsimp only at hSw); go_simp; try with_reducible rfl)
        simp only [List.setIfInBounds_toArray, List.set_cons_zero, List.set_cons_succ]
        refine rs.want_take (i := 5) 8 (v := ?_) rfl rfl (by kernel_rfl) (by kernel_rfl) (by kernel_rfl) (fun _ _ _ _ h => h) rfl ?_ (by assumption) ?_
        rotate_left 1
        · (intro w hSw; (try dsimp only at hSw); go_simp; try with_reducible rfl)
        simp only [List.setIfInBounds_toArray, List.set_cons_zero, List.set_cons_succ]
        refine rs.want_take (i := 6) 9 (v := ?_) rfl rfl (by kernel_rfl) (by kernel_rfl) (by kernel_rfl) (fun _ _ _ _ h => h) rfl ?_ (by assumption) ?_
        rotate_left 1
        · (intro w hSw; (try dsimp only at hSw); go_simp; try with_reducible rfl)
        simp only [List.setIfInBounds_toArray, List.set_cons_zero, List.set_cons_succ]
        refine rs.want_take (i := 7) 10 (v := ?_) rfl rfl (by kernel_rfl) (by kernel_rfl) (by kernel_rfl) (fun _ _ _ _ h => h) rfl ?_ (by assumption) ?_
        rotate_left 1
        · (intro w hSw; (try dsimp only at hSw); go_simp; try with_reducible rfl)
        simp only [List.setIfInBounds_toArray, List.set_cons_zero, List.set_cons_succ]
        refine rs.want_take (i := 8) 11 (v := ?_) rfl rfl (by kernel_rfl) (by kernel_rfl) (by kernel_rfl) (fun _ _ _ _ h => h) rfl ?_ (by assumption) ?_
        rotate_left 1
        · (intro w hSw; (try dsimp only at hSw); go_simp; try with_reducible rfl)
        simp only [List.setIfInBounds_toArray, List.set_cons_zero, List.set_cons_succ]
        refine rs.want_take (i := 9) 12 (v := ?_) rfl rfl (by kernel_rfl) (by kernel_rfl) (by kernel_rfl) (fun _ _ _ _ h => h) rfl ?_ (by assumption) ?_
        rotate_left 1
        · (intro w hSw; (try dsimp only at hSw); go_simp; try with_reducible rfl)
        simp only [List.setIfInBounds_toArray, List.set_cons_zero, List.set_cons_succ]
        refine rs.want_take (i := 10) 13 (v := ?_) rfl rfl (by kernel_rfl) (by kernel_rfl) (by kernel_rfl) (fun _ _ _ _ h => h) rfl ?_ (by assumption) ?_
        rotate_left 1
        · (intro w hSw; (try dsimp only at hSw); go_simp; try with_reducible rfl)
        simp only [List.setIfInBounds_toArray, List.set_cons_zero, List.set_cons_succ]
        refine rs.want_take (i := 11) 14 (v := ?_) rfl rfl (by kernel_rfl) (by kernel_rfl) (by kernel_rfl) (fun _ _ _ _ h => h) rfl ?_ (by assumption) ?_
        rotate_left 1
        · (intro w hSw; (try dsimp only at hSw); go_simp; try with_reducible rfl)
        simp only [List.setIfInBounds_toArray, List.set_cons_zero, List.set_cons_succ]
        refine wpAnyH_ready (rs := [12]) (by kernel_rfl) (by simp) ?_
        refine AllReadyH.cons rfl (fun K hK => ?_) AllReadyH.nil
        go_simp
        refine (HN.out _).mono ?_
        rintro e w2 ⟨rfl, hB2⟩
        have s1 := (hB2.cell (p := ⟨R, 1, none⟩) hz).trans c1
        have s2 := (hB2.cell (p := ⟨R, 2, none⟩) hz).trans c2
        have s5 := (hB2.cell (p := ⟨R, 5, none⟩) hz).trans c5
        have s7 := (hB2.cell (p := ⟨R, 7, none⟩) hz).trans c7
        have s8 := (hB2.cell (p := ⟨R, 8, none⟩) hz).trans c8
        have s9 := (hB2.cell (p := ⟨R, 9, none⟩) hz).trans c9
        refine hK.out _ _ ?_ (fun hHeld => ?_)
        · exact ⟨s1, s2, s5, s7, s8, s9⟩
        clear hK K
        refine rs.want_take (i := 13) 16 (v := ?_) rfl rfl (by kernel_rfl) (by kernel_rfl) (by kernel_rfl) (fun _ _ _ _ h => h) rfl ?_ (by assumption) ?_
        rotate_left 1
        · (intro w hSw; (try dsimp only at hSw); go_simp; try with_reducible rfl)
        simp only [List.setIfInBounds_toArray, List.set_cons_zero, List.set_cons_succ]
        refine rs.want_take (i := 14) 17 (v := ?_) rfl rfl (by kernel_rfl) (by kernel_rfl) (by kernel_rfl) (fun _ _ _ _ h => h) rfl ?_ (by assumption) ?_
        rotate_left 1
        · (intro w hSw; (try dsimp only at hSw); go_simp; try with_reducible rfl)
        simp only [List.setIfInBounds_toArray, List.set_cons_zero, List.set_cons_succ]
        refine rs.want_take (i := 15) 18 (v := ?_) rfl rfl (by kernel_rfl) (by kernel_rfl) (by kernel_rfl) (fun _ _ _ _ h => h) rfl ?_ (by assumption) ?_
        rotate_left 1
        · (intro w hSw; (try dsimp only at hSw); go_simp; try with_reducible rfl)
        simp only [List.setIfInBounds_toArray, List.set_cons_zero, List.set_cons_succ]
        refine rs.want_take (i := 16) 19 (v := ?_) rfl rfl (by kernel_rfl) (by kernel_rfl) (by kernel_rfl) (fun _ _ _ _ h => h) rfl ?_ (by assumption) ?_
        rotate_left 1
        · (intro w hSw; (try dsimp only at hSw); go_simp; try with_reducible rfl)
        simp only [List.setIfInBounds_toArray, List.set_cons_zero, List.set_cons_succ]
        refine rs.want_take (i := 17) 20 (v := ?_) rfl rfl (by kernel_rfl) (by kernel_rfl) (by kernel_rfl) (fun _ _ _ _ h => h) rfl ?_ (by assumption) ?_
        rotate_left 1
        · (intro w hSw; (try dsimp only at hSw); go_simp; try with_reducible rfl)
        simp only [List.setIfInBounds_toArray, List.set_cons_zero, List.set_cons_succ]
        refine rs.want_take (i := 18) 21 (v := ?_) rfl rfl (by kernel_rfl) (by kernel_rfl) (by kernel_rfl) (fun _ _ _ _ h => h) rfl ?_ (by assumption) ?_
        rotate_left 1
        · (intro w hSw; (try dsimp only at hSw); go_simp; try with_reducible rfl)
        simp only [List.setIfInBounds_toArray, List.set_cons_zero, List.set_cons_succ]
        refine rs.want_take (i := 19) 22 (v := ?_) rfl rfl (by kernel_rfl) (by kernel_rfl) (by kernel_rfl) (fun _ _ _ _ h => h) rfl ?_ (by assumption) ?_
        rotate_left 1
        · (intro w hSw; (try dsimp only at hSw); go_simp; try with_reducible rfl)
        simp only [List.setIfInBounds_toArray, List.set_cons_zero, List.set_cons_succ]
        refine rs.want_take (i := 20) 23 (v := ?_) rfl rfl (by kernel_rfl) (by kernel_rfl) (by kernel_rfl) (fun _ _ _ _ h => h) rfl ?_ (by assumption) ?_
        rotate_left 1
        · (intro w hSw; (try dsimp only at hSw); go_simp; try with_reducible rfl)
        simp only [List.setIfInBounds_toArray, List.set_cons_zero, List.set_cons_succ]
        refine rs.want_take (i := 21) 24 (v := ?_) rfl rfl (by kernel_rfl) (by kernel_rfl) (by kernel_rfl) (fun _ _ _ _ h => h) rfl ?_ (by assumption) ?_
        rotate_left 1
        · (intro w hSw; (try dsimp only at hSw); go_simp; try with_reducible rfl)
        simp only [List.setIfInBounds_toArray, List.set_cons_zero, List.set_cons_succ]
        refine rs.want_take (i := 22) 25 (v := ?_) rfl rfl (by kernel_rfl) (by kernel_rfl) (by kernel_rfl) (fun _ _ _ _ h => h) rfl ?_ (by assumption) ?_
        rotate_left 1
        · (intro w hSw; (try dsimp only at hSw); go_simp; try with_reducible rfl)
        simp only [List.setIfInBounds_toArray, List.set_cons_zero, List.set_cons_succ]
        refine rs.want_take (i := 23) 26 (v := ?_) rfl rfl (by kernel_rfl) (by kernel_rfl) (by kernel_rfl) (fun _ _ _ _ h => h) rfl ?_ (by assumption) ?_
        rotate_left 1
        · (intro w hSw; (try dsimp only at hSw); go_simp; try with_reducible rfl)
        simp only [List.setIfInBounds_toArray, List.set_cons_zero, List.set_cons_succ]
        refine rs.want_take (i := 24) 27 (v := ?_) rfl rfl (by kernel_rfl) (by kernel_rfl) (by kernel_rfl) (fun _ _ _ _ h => h) rfl ?_ (by assumption) ?_
        rotate_left 1
        · (intro w hSw; (try dsimp only at hSw); go_simp; try with_reducible rfl)
        simp only [List.setIfInBounds_toArray, List.set_cons_zero, List.set_cons_succ]
        refine rs.want_take (i := 25) 28 (v := ?_) rfl rfl (by kernel_rfl) (by kernel_rfl) (by kernel_rfl) (fun _ _ _ _ h => h) rfl ?_ (by assumption) ?_
        rotate_left 1
        · (intro w hSw; (try dsimp only at hSw); go_simp; try with_reducible rfl)
        simp only [List.setIfInBounds_toArray, List.set_cons_zero, List.set_cons_succ]
        refine rs.want_take (i := 26) 29 (v := ?_) rfl rfl (by kernel_rfl) (by kernel_rfl) (by kernel_rfl) (fun _ _ _ _ h => h) rfl ?_ (by assumption) ?_
        rotate_left 1
        · (intro w hSw; (try dsimp only at hSw); go_simp; try with_reducible rfl)
        simp only [List.setIfInBounds_toArray, List.set_cons_zero, List.set_cons_succ]
        refine rs.want_take (i := 27) 30 (v := ?_) rfl rfl (by kernel_rfl) (by kernel_rfl) (by kernel_rfl) (fun _ _ _ _ h => h) rfl ?_ (by assumption) ?_
        rotate_left 1
        · (intro w hSw; (try dsimp only at hSw); go_simp; try with_reducible rfl)
        simp only [List.setIfInBounds_toArray, List.set_cons_zero, List.set_cons_succ]
        refine rs.want_take (i := 28) 31 (v := ?_) rfl rfl (by kernel_rfl) (by kernel_rfl) (by kernel_rfl) (fun _ _ _ _ h => h) rfl ?_ (by assumption) ?_
        rotate_left 1
        · (intro w hSw; (try dsimp only at hSw); go_simp; try with_reducible rfl)
        simp only [List.setIfInBounds_toArray, List.set_cons_zero, List.set_cons_succ]
        refine rs.skip_take (i := 29) 32 rfl (by kernel_rfl) (by kernel_rfl) (by kernel_rfl) (fun _ _ _ _ h => h) rfl (by assumption) ?_
        simp only [List.setIfInBounds_toArray, List.set_cons_zero, List.set_cons_succ]
        refine rs.skip_take (i := 30) 33 rfl (by kernel_rfl) (by kernel_rfl) (by kernel_rfl) (fun _ _ _ _ h => h) rfl (by assumption) ?_
        simp only [List.setIfInBounds_toArray, List.set_cons_zero, List.set_cons_succ]
        refine rs.skip_take (i := 31) 34 rfl (by kernel_rfl) (by kernel_rfl) (by kernel_rfl) (fun _ _ _ _ h => h) rfl (by assumption) ?_
        simp only [List.setIfInBounds_toArray, List.set_cons_zero, List.set_cons_succ]
        refine rs.skip_take (i := 32) 35 rfl (by kernel_rfl) (by kernel_rfl) (by kernel_rfl) (fun _ _ _ _ h => h) rfl (by assumption) ?_
        simp only [List.setIfInBounds_toArray, List.set_cons_zero, List.set_cons_succ]
        refine rs.skip_take (i := 33) 36 rfl (by kernel_rfl) (by kernel_rfl) (by kernel_rfl) (fun _ _ _ _ h => h) rfl (by assumption) ?_
        simp only [List.setIfInBounds_toArray, List.set_cons_zero, List.set_cons_succ]
        refine rs.want_take (i := 34) 37 (v := ?_) rfl rfl (by kernel_rfl) (by kernel_rfl) (by kernel_rfl) (fun _ _ _ _ h => h) rfl ?_ (by assumption) ?_
        rotate_left 1
        · (intro w hSw; (try dsimp only at hSw); go_simp; try with_reducible rfl)
        simp only [List.setIfInBounds_toArray, List.set_cons_zero, List.set_cons_succ]
        refine rs.want_take (i := 35) 2 (v := ?_) rfl rfl (by kernel_rfl) (by kernel_rfl) (by kernel_rfl) (fun _ _ _ _ h => h) rfl ?_ (by assumption) ?_
        rotate_left 1
        · (intro w hSw; (try dsimp only at hSw); go_simp; try with_reducible rfl)
        simp only [List.setIfInBounds_toArray, List.set_cons_zero, List.set_cons_succ]
        refine wpAnyH_done (by kernel_rfl) ?_ _
        have HB2 := Lib.hid (show Below V.heap.size V w2 from ⟨hB2.os, hB2.tape, hB2.output, hB2.size, hB2.block⟩)
        clear hB2
        go_wp2
        go_ret
        exact ⟨nb.ret_bool HR.out.symm, HB2.out⟩
    · have q2 : (z == 0) = false := beq_eq_false_iff_ne.2 e2
      have HR : Hid (okAns ⟨k, s, d, f, n, t, u, z, m, x⟩ = false) := by
        show _ = _
        rw [HE.out]
        simp [e2]
      clear e1 e2
      go_upto_region 1 with (fail)
      refine wp_region_held_drew (S := (fun w' : World => w'.cell? ⟨R, 1, none⟩ = some (.int .i64 s) ∧ w'.cell? ⟨R, 2, none⟩ = some (.int .i64 d) ∧ w'.cell? ⟨R, 5, none⟩ = some (.int .i64 t) ∧ w'.cell? ⟨R, 7, none⟩ = some (.int .i64 z) ∧ w'.cell? ⟨R, 8, none⟩ = some (.int .i64 m) ∧ w'.cell? ⟨R, 9, none⟩ = some (.string x))) (by kernel_rfl) ⟨c1, c2, c5, c7, c8, c9⟩ (fun hHeld => ?_)
      refine rs.want_take (i := 0) 3 (v := ?_) rfl rfl (by kernel_rfl) (by kernel_rfl) (by kernel_rfl) (fun _ _ _ _ h => h) rfl ?_ (by assumption) ?_
      rotate_left 1
      · (intro w hSw; (try dsimp only at hSw); go_simp; try with_reducible rfl)
      simp only [List.setIfInBounds_toArray, List.set_cons_zero, List.set_cons_succ]
      refine rs.want_take (i := 1) 4 (v := ?_) rfl rfl (by kernel_rfl) (by kernel_rfl) (by kernel_rfl) (fun _ _ _ _ h => h) rfl ?_ (by assumption) ?_
      rotate_left 1
      · (intro w hSw; (try dsimp only at hSw); go_simp; try with_reducible rfl)
      simp only [List.setIfInBounds_toArray, List.set_cons_zero, List.set_cons_succ]
      refine rs.want_take (i := 2) 5 (v := ?_) rfl rfl (by kernel_rfl) (by kernel_rfl) (by kernel_rfl) (fun _ _ _ _ h => h) rfl ?_ (by assumption) ?_
      rotate_left 1
      · (intro w hSw; (try dsimp only at hSw); go_simp; try with_reducible rfl)
      simp only [List.setIfInBounds_toArray, List.set_cons_zero, List.set_cons_succ]
      refine rs.want_take (i := 3) 6 (v := ?_) rfl rfl (by kernel_rfl) (by kernel_rfl) (by kernel_rfl) (fun _ _ _ _ h => h) rfl ?_ (by assumption) ?_
      rotate_left 1
      · (intro w hSw; (try dsimp only at hSw); go_simp; try with_reducible rfl)
      simp only [List.setIfInBounds_toArray, List.set_cons_zero, List.set_cons_succ]
      refine rs.want_take (i := 4) 7 (v := ?_) rfl rfl (by kernel_rfl) (by kernel_rfl) (by kernel_rfl) (fun _ _ _ _ h => h) rfl ?_ (by assumption) ?_
      rotate_left 1
      · (intro w hSw; (try dsimp only at hSw); go_simp; try with_reducible rfl)
      simp only [List.setIfInBounds_toArray, List.set_cons_zero, List.set_cons_succ]
      refine rs.want_take (i := 5) 8 (v := ?_) rfl rfl (by kernel_rfl) (by kernel_rfl) (by kernel_rfl) (fun _ _ _ _ h => h) rfl ?_ (by assumption) ?_
      rotate_left 1
      · (intro w hSw; (try dsimp only at hSw); go_simp; try with_reducible rfl)
      simp only [List.setIfInBounds_toArray, List.set_cons_zero, List.set_cons_succ]
      refine rs.want_take (i := 6) 9 (v := ?_) rfl rfl (by kernel_rfl) (by kernel_rfl) (by kernel_rfl) (fun _ _ _ _ h => h) rfl ?_ (by assumption) ?_
      rotate_left 1
      · (intro w hSw; (try dsimp only at hSw); go_simp; try with_reducible rfl)
      simp only [List.setIfInBounds_toArray, List.set_cons_zero, List.set_cons_succ]
      refine rs.want_take (i := 7) 10 (v := ?_) rfl rfl (by kernel_rfl) (by kernel_rfl) (by kernel_rfl) (fun _ _ _ _ h => h) rfl ?_ (by assumption) ?_
      rotate_left 1
      · (intro w hSw; (try dsimp only at hSw); go_simp; try with_reducible rfl)
      simp only [List.setIfInBounds_toArray, List.set_cons_zero, List.set_cons_succ]
      refine rs.want_take (i := 8) 11 (v := ?_) rfl rfl (by kernel_rfl) (by kernel_rfl) (by kernel_rfl) (fun _ _ _ _ h => h) rfl ?_ (by assumption) ?_
      rotate_left 1
      · (intro w hSw; (try dsimp only at hSw); go_simp; try with_reducible rfl)
      simp only [List.setIfInBounds_toArray, List.set_cons_zero, List.set_cons_succ]
      refine rs.want_take (i := 9) 12 (v := ?_) rfl rfl (by kernel_rfl) (by kernel_rfl) (by kernel_rfl) (fun _ _ _ _ h => h) rfl ?_ (by assumption) ?_
      rotate_left 1
      · (intro w hSw; (try dsimp only at hSw); go_simp; try with_reducible rfl)
      simp only [List.setIfInBounds_toArray, List.set_cons_zero, List.set_cons_succ]
      refine rs.want_take (i := 10) 13 (v := ?_) rfl rfl (by kernel_rfl) (by kernel_rfl) (by kernel_rfl) (fun _ _ _ _ h => h) rfl ?_ (by assumption) ?_
      rotate_left 1
      · (intro w hSw; (try dsimp only at hSw); go_simp; try with_reducible rfl)
      simp only [List.setIfInBounds_toArray, List.set_cons_zero, List.set_cons_succ]
      refine rs.want_take (i := 11) 14 (v := ?_) rfl rfl (by kernel_rfl) (by kernel_rfl) (by kernel_rfl) (fun _ _ _ _ h => h) rfl ?_ (by assumption) ?_
      rotate_left 1
      · (intro w hSw; (try dsimp only at hSw); go_simp; try with_reducible rfl)
      simp only [List.setIfInBounds_toArray, List.set_cons_zero, List.set_cons_succ]
      refine wpAnyH_ready (rs := [12]) (by kernel_rfl) (by simp) ?_
      refine AllReadyH.cons rfl (fun K hK => ?_) AllReadyH.nil
      go_simp
      refine (HN.out _).mono ?_
      rintro e w2 ⟨rfl, hB2⟩
      have s1 := (hB2.cell (p := ⟨R, 1, none⟩) hz).trans c1
      have s2 := (hB2.cell (p := ⟨R, 2, none⟩) hz).trans c2
      have s5 := (hB2.cell (p := ⟨R, 5, none⟩) hz).trans c5
      have s7 := (hB2.cell (p := ⟨R, 7, none⟩) hz).trans c7
      have s8 := (hB2.cell (p := ⟨R, 8, none⟩) hz).trans c8
      have s9 := (hB2.cell (p := ⟨R, 9, none⟩) hz).trans c9
      refine hK.out _ _ ?_ (fun hHeld => ?_)
      · exact ⟨s1, s2, s5, s7, s8, s9⟩
      clear hK K
      refine rs.want_take (i := 13) 16 (v := ?_) rfl rfl (by kernel_rfl) (by kernel_rfl) (by kernel_rfl) (fun _ _ _ _ h => h) rfl ?_ (by assumption) ?_
      rotate_left 1
      · (intro w hSw; (try dsimp only at hSw); go_simp; try with_reducible rfl)
      simp only [List.setIfInBounds_toArray, List.set_cons_zero, List.set_cons_succ]
      refine rs.want_take (i := 14) 17 (v := ?_) rfl rfl (by kernel_rfl) (by kernel_rfl) (by kernel_rfl) (fun _ _ _ _ h => h) rfl ?_ (by assumption) ?_
      rotate_left 1
      · (intro w hSw; (try dsimp only at hSw); go_simp; try with_reducible rfl)
      simp only [List.setIfInBounds_toArray, List.set_cons_zero, List.set_cons_succ]
      refine rs.want_take (i := 15) 18 (v := ?_) rfl rfl (by kernel_rfl) (by kernel_rfl) (by kernel_rfl) (fun _ _ _ _ h => h) rfl ?_ (by assumption) ?_
      rotate_left 1
      · (intro w hSw; (try dsimp only at hSw); go_simp; try with_reducible rfl)
      simp only [List.setIfInBounds_toArray, List.set_cons_zero, List.set_cons_succ]
      refine rs.want_take (i := 16) 19 (v := ?_) rfl rfl (by kernel_rfl) (by kernel_rfl) (by kernel_rfl) (fun _ _ _ _ h => h) rfl ?_ (by assumption) ?_
      rotate_left 1
      · (intro w hSw; (try dsimp only at hSw); go_simp; try with_reducible rfl)
      simp only [List.setIfInBounds_toArray, List.set_cons_zero, List.set_cons_succ]
      refine rs.want_take (i := 17) 20 (v := ?_) rfl rfl (by kernel_rfl) (by kernel_rfl) (by kernel_rfl) (fun _ _ _ _ h => h) rfl ?_ (by assumption) ?_
      rotate_left 1
      · (intro w hSw; (try dsimp only at hSw); go_simp; try with_reducible rfl)
      simp only [List.setIfInBounds_toArray, List.set_cons_zero, List.set_cons_succ]
      refine rs.want_take (i := 18) 21 (v := ?_) rfl rfl (by kernel_rfl) (by kernel_rfl) (by kernel_rfl) (fun _ _ _ _ h => h) rfl ?_ (by assumption) ?_
      rotate_left 1
      · (intro w hSw; (try dsimp only at hSw); go_simp; try with_reducible rfl)
      simp only [List.setIfInBounds_toArray, List.set_cons_zero, List.set_cons_succ]
      refine rs.want_take (i := 19) 22 (v := ?_) rfl rfl (by kernel_rfl) (by kernel_rfl) (by kernel_rfl) (fun _ _ _ _ h => h) rfl ?_ (by assumption) ?_
      rotate_left 1
      · (intro w hSw; (try dsimp only at hSw); go_simp; try with_reducible rfl)
      simp only [List.setIfInBounds_toArray, List.set_cons_zero, List.set_cons_succ]
      refine rs.want_take (i := 20) 23 (v := ?_) rfl rfl (by kernel_rfl) (by kernel_rfl) (by kernel_rfl) (fun _ _ _ _ h => h) rfl ?_ (by assumption) ?_
      rotate_left 1
      · (intro w hSw; (try dsimp only at hSw); go_simp; try with_reducible rfl)
      simp only [List.setIfInBounds_toArray, List.set_cons_zero, List.set_cons_succ]
      refine rs.want_take (i := 21) 24 (v := ?_) rfl rfl (by kernel_rfl) (by kernel_rfl) (by kernel_rfl) (fun _ _ _ _ h => h) rfl ?_ (by assumption) ?_
      rotate_left 1
      · (intro w hSw; (try dsimp only at hSw); go_simp; try with_reducible rfl)
      simp only [List.setIfInBounds_toArray, List.set_cons_zero, List.set_cons_succ]
      refine rs.skip_take (i := 22) 25 rfl (by kernel_rfl) (by kernel_rfl) (by kernel_rfl) (fun _ _ _ _ h => h) rfl (by assumption) ?_
      simp only [List.setIfInBounds_toArray, List.set_cons_zero, List.set_cons_succ]
      refine rs.skip_take (i := 23) 26 rfl (by kernel_rfl) (by kernel_rfl) (by kernel_rfl) (fun _ _ _ _ h => h) rfl (by assumption) ?_
      simp only [List.setIfInBounds_toArray, List.set_cons_zero, List.set_cons_succ]
      refine rs.skip_take (i := 24) 27 rfl (by kernel_rfl) (by kernel_rfl) (by kernel_rfl) (fun _ _ _ _ h => h) rfl (by assumption) ?_
      simp only [List.setIfInBounds_toArray, List.set_cons_zero, List.set_cons_succ]
      refine rs.skip_take (i := 25) 28 rfl (by kernel_rfl) (by kernel_rfl) (by kernel_rfl) (fun _ _ _ _ h => h) rfl (by assumption) ?_
      simp only [List.setIfInBounds_toArray, List.set_cons_zero, List.set_cons_succ]
      refine rs.skip_take (i := 26) 29 rfl (by kernel_rfl) (by kernel_rfl) (by kernel_rfl) (fun _ _ _ _ h => h) rfl (by assumption) ?_
      simp only [List.setIfInBounds_toArray, List.set_cons_zero, List.set_cons_succ]
      refine rs.want_take (i := 27) 30 (v := ?_) rfl rfl (by kernel_rfl) (by kernel_rfl) (by kernel_rfl) (fun _ _ _ _ h => h) rfl ?_ (by assumption) ?_
      rotate_left 1
      · (intro w hSw; (try dsimp only at hSw); go_simp; try with_reducible rfl)
      simp only [List.setIfInBounds_toArray, List.set_cons_zero, List.set_cons_succ]
      refine rs.want_take (i := 28) 31 (v := ?_) rfl rfl (by kernel_rfl) (by kernel_rfl) (by kernel_rfl) (fun _ _ _ _ h => h) rfl ?_ (by assumption) ?_
      rotate_left 1
      · (intro w hSw; (try dsimp only at hSw); go_simp; try with_reducible rfl)
      simp only [List.setIfInBounds_toArray, List.set_cons_zero, List.set_cons_succ]
      refine rs.skip_take (i := 29) 32 rfl (by kernel_rfl) (by kernel_rfl) (by kernel_rfl) (fun _ _ _ _ h => h) rfl (by assumption) ?_
      simp only [List.setIfInBounds_toArray, List.set_cons_zero, List.set_cons_succ]
      refine rs.skip_take (i := 30) 33 rfl (by kernel_rfl) (by kernel_rfl) (by kernel_rfl) (fun _ _ _ _ h => h) rfl (by assumption) ?_
      simp only [List.setIfInBounds_toArray, List.set_cons_zero, List.set_cons_succ]
      refine rs.skip_take (i := 31) 34 rfl (by kernel_rfl) (by kernel_rfl) (by kernel_rfl) (fun _ _ _ _ h => h) rfl (by assumption) ?_
      simp only [List.setIfInBounds_toArray, List.set_cons_zero, List.set_cons_succ]
      refine rs.skip_take (i := 32) 35 rfl (by kernel_rfl) (by kernel_rfl) (by kernel_rfl) (fun _ _ _ _ h => h) rfl (by assumption) ?_
      simp only [List.setIfInBounds_toArray, List.set_cons_zero, List.set_cons_succ]
      refine rs.skip_take (i := 33) 36 rfl (by kernel_rfl) (by kernel_rfl) (by kernel_rfl) (fun _ _ _ _ h => h) rfl (by assumption) ?_
      simp only [List.setIfInBounds_toArray, List.set_cons_zero, List.set_cons_succ]
      refine rs.want_take (i := 34) 37 (v := ?_) rfl rfl (by kernel_rfl) (by kernel_rfl) (by kernel_rfl) (fun _ _ _ _ h => h) rfl ?_ (by assumption) ?_
      rotate_left 1
      · (intro w hSw; (try dsimp only at hSw); go_simp; try with_reducible rfl)
      simp only [List.setIfInBounds_toArray, List.set_cons_zero, List.set_cons_succ]
      refine rs.want_take (i := 35) 2 (v := ?_) rfl rfl (by kernel_rfl) (by kernel_rfl) (by kernel_rfl) (fun _ _ _ _ h => h) rfl ?_ (by assumption) ?_
      rotate_left 1
      · (intro w hSw; (try dsimp only at hSw); go_simp; try with_reducible rfl)
      simp only [List.setIfInBounds_toArray, List.set_cons_zero, List.set_cons_succ]
      refine wpAnyH_done (by kernel_rfl) ?_ _
      have HB2 := Lib.hid (show Below V.heap.size V w2 from ⟨hB2.os, hB2.tape, hB2.output, hB2.size, hB2.block⟩)
      clear hB2
      go_wp2
      go_ret
      exact ⟨nb.ret_bool HR.out.symm, HB2.out⟩
  · have q1 : (s == N) = false := beq_eq_false_iff_ne.2 (fun h => e1 h.symm)
    have HR : Hid (okAns ⟨k, s, d, f, n, t, u, z, m, x⟩ = false) := by
      show _ = _
      rw [HE.out]
      simp [e1]
    clear e1
    go_upto_region 1 with (fail)
    refine wp_region_held_drew (S := (fun w' : World => w'.cell? ⟨R, 1, none⟩ = some (.int .i64 s) ∧ w'.cell? ⟨R, 2, none⟩ = some (.int .i64 d) ∧ w'.cell? ⟨R, 5, none⟩ = some (.int .i64 t) ∧ w'.cell? ⟨R, 7, none⟩ = some (.int .i64 z) ∧ w'.cell? ⟨R, 8, none⟩ = some (.int .i64 m) ∧ w'.cell? ⟨R, 9, none⟩ = some (.string x))) (by kernel_rfl) ⟨c1, c2, c5, c7, c8, c9⟩ (fun hHeld => ?_)
    refine rs.want_take (i := 0) 3 (v := ?_) rfl rfl (by kernel_rfl) (by kernel_rfl) (by kernel_rfl) (fun _ _ _ _ h => h) rfl ?_ (by assumption) ?_
    rotate_left 1
    · (intro w hSw; (try dsimp only at hSw); go_simp; try with_reducible rfl)
    simp only [List.setIfInBounds_toArray, List.set_cons_zero, List.set_cons_succ]
    refine rs.want_take (i := 1) 4 (v := ?_) rfl rfl (by kernel_rfl) (by kernel_rfl) (by kernel_rfl) (fun _ _ _ _ h => h) rfl ?_ (by assumption) ?_
    rotate_left 1
    · (intro w hSw; (try dsimp only at hSw); go_simp; try with_reducible rfl)
    simp only [List.setIfInBounds_toArray, List.set_cons_zero, List.set_cons_succ]
    refine rs.want_take (i := 2) 5 (v := ?_) rfl rfl (by kernel_rfl) (by kernel_rfl) (by kernel_rfl) (fun _ _ _ _ h => h) rfl ?_ (by assumption) ?_
    rotate_left 1
    · (intro w hSw; (try dsimp only at hSw); go_simp; try with_reducible rfl)
    simp only [List.setIfInBounds_toArray, List.set_cons_zero, List.set_cons_succ]
    refine rs.want_take (i := 3) 6 (v := ?_) rfl rfl (by kernel_rfl) (by kernel_rfl) (by kernel_rfl) (fun _ _ _ _ h => h) rfl ?_ (by assumption) ?_
    rotate_left 1
    · (intro w hSw; (try dsimp only at hSw); go_simp; try with_reducible rfl)
    simp only [List.setIfInBounds_toArray, List.set_cons_zero, List.set_cons_succ]
    refine rs.want_take (i := 4) 7 (v := ?_) rfl rfl (by kernel_rfl) (by kernel_rfl) (by kernel_rfl) (fun _ _ _ _ h => h) rfl ?_ (by assumption) ?_
    rotate_left 1
    · (intro w hSw; (try dsimp only at hSw); go_simp; try with_reducible rfl)
    simp only [List.setIfInBounds_toArray, List.set_cons_zero, List.set_cons_succ]
    refine rs.want_take (i := 5) 8 (v := ?_) rfl rfl (by kernel_rfl) (by kernel_rfl) (by kernel_rfl) (fun _ _ _ _ h => h) rfl ?_ (by assumption) ?_
    rotate_left 1
    · (intro w hSw; (try dsimp only at hSw); go_simp; try with_reducible rfl)
    simp only [List.setIfInBounds_toArray, List.set_cons_zero, List.set_cons_succ]
    refine rs.want_take (i := 6) 9 (v := ?_) rfl rfl (by kernel_rfl) (by kernel_rfl) (by kernel_rfl) (fun _ _ _ _ h => h) rfl ?_ (by assumption) ?_
    rotate_left 1
    · (intro w hSw; (try dsimp only at hSw); go_simp; try with_reducible rfl)
    simp only [List.setIfInBounds_toArray, List.set_cons_zero, List.set_cons_succ]
    refine rs.want_take (i := 7) 10 (v := ?_) rfl rfl (by kernel_rfl) (by kernel_rfl) (by kernel_rfl) (fun _ _ _ _ h => h) rfl ?_ (by assumption) ?_
    rotate_left 1
    · (intro w hSw; (try dsimp only at hSw); go_simp; try with_reducible rfl)
    simp only [List.setIfInBounds_toArray, List.set_cons_zero, List.set_cons_succ]
    refine rs.want_take (i := 8) 11 (v := ?_) rfl rfl (by kernel_rfl) (by kernel_rfl) (by kernel_rfl) (fun _ _ _ _ h => h) rfl ?_ (by assumption) ?_
    rotate_left 1
    · (intro w hSw; (try dsimp only at hSw); go_simp; try with_reducible rfl)
    simp only [List.setIfInBounds_toArray, List.set_cons_zero, List.set_cons_succ]
    refine rs.want_take (i := 9) 12 (v := ?_) rfl rfl (by kernel_rfl) (by kernel_rfl) (by kernel_rfl) (fun _ _ _ _ h => h) rfl ?_ (by assumption) ?_
    rotate_left 1
    · (intro w hSw; (try dsimp only at hSw); go_simp; try with_reducible rfl)
    simp only [List.setIfInBounds_toArray, List.set_cons_zero, List.set_cons_succ]
    refine rs.want_take (i := 10) 13 (v := ?_) rfl rfl (by kernel_rfl) (by kernel_rfl) (by kernel_rfl) (fun _ _ _ _ h => h) rfl ?_ (by assumption) ?_
    rotate_left 1
    · (intro w hSw; (try dsimp only at hSw); go_simp; try with_reducible rfl)
    simp only [List.setIfInBounds_toArray, List.set_cons_zero, List.set_cons_succ]
    refine rs.want_take (i := 11) 14 (v := ?_) rfl rfl (by kernel_rfl) (by kernel_rfl) (by kernel_rfl) (fun _ _ _ _ h => h) rfl ?_ (by assumption) ?_
    rotate_left 1
    · (intro w hSw; (try dsimp only at hSw); go_simp; try with_reducible rfl)
    simp only [List.setIfInBounds_toArray, List.set_cons_zero, List.set_cons_succ]
    refine wpAnyH_ready (rs := [12]) (by kernel_rfl) (by simp) ?_
    refine AllReadyH.cons rfl (fun K hK => ?_) AllReadyH.nil
    go_simp
    refine (HN.out _).mono ?_
    rintro e w2 ⟨rfl, hB2⟩
    have s1 := (hB2.cell (p := ⟨R, 1, none⟩) hz).trans c1
    have s2 := (hB2.cell (p := ⟨R, 2, none⟩) hz).trans c2
    have s5 := (hB2.cell (p := ⟨R, 5, none⟩) hz).trans c5
    have s7 := (hB2.cell (p := ⟨R, 7, none⟩) hz).trans c7
    have s8 := (hB2.cell (p := ⟨R, 8, none⟩) hz).trans c8
    have s9 := (hB2.cell (p := ⟨R, 9, none⟩) hz).trans c9
    refine hK.out _ _ ?_ (fun hHeld => ?_)
    · exact ⟨s1, s2, s5, s7, s8, s9⟩
    clear hK K
    refine rs.want_take (i := 13) 16 (v := ?_) rfl rfl (by kernel_rfl) (by kernel_rfl) (by kernel_rfl) (fun _ _ _ _ h => h) rfl ?_ (by assumption) ?_
    rotate_left 1
    · (intro w hSw; (try dsimp only at hSw); go_simp; try with_reducible rfl)
    simp only [List.setIfInBounds_toArray, List.set_cons_zero, List.set_cons_succ]
    refine rs.want_take (i := 14) 17 (v := ?_) rfl rfl (by kernel_rfl) (by kernel_rfl) (by kernel_rfl) (fun _ _ _ _ h => h) rfl ?_ (by assumption) ?_
    rotate_left 1
    · (intro w hSw; (try dsimp only at hSw); go_simp; try with_reducible rfl)
    simp only [List.setIfInBounds_toArray, List.set_cons_zero, List.set_cons_succ]
    refine rs.skip_take (i := 15) 18 rfl (by kernel_rfl) (by kernel_rfl) (by kernel_rfl) (fun _ _ _ _ h => h) rfl (by assumption) ?_
    simp only [List.setIfInBounds_toArray, List.set_cons_zero, List.set_cons_succ]
    refine rs.skip_take (i := 16) 19 rfl (by kernel_rfl) (by kernel_rfl) (by kernel_rfl) (fun _ _ _ _ h => h) rfl (by assumption) ?_
    simp only [List.setIfInBounds_toArray, List.set_cons_zero, List.set_cons_succ]
    refine rs.skip_take (i := 17) 20 rfl (by kernel_rfl) (by kernel_rfl) (by kernel_rfl) (fun _ _ _ _ h => h) rfl (by assumption) ?_
    simp only [List.setIfInBounds_toArray, List.set_cons_zero, List.set_cons_succ]
    refine rs.skip_take (i := 18) 21 rfl (by kernel_rfl) (by kernel_rfl) (by kernel_rfl) (fun _ _ _ _ h => h) rfl (by assumption) ?_
    simp only [List.setIfInBounds_toArray, List.set_cons_zero, List.set_cons_succ]
    refine rs.skip_take (i := 19) 22 rfl (by kernel_rfl) (by kernel_rfl) (by kernel_rfl) (fun _ _ _ _ h => h) rfl (by assumption) ?_
    simp only [List.setIfInBounds_toArray, List.set_cons_zero, List.set_cons_succ]
    refine rs.want_take (i := 20) 23 (v := ?_) rfl rfl (by kernel_rfl) (by kernel_rfl) (by kernel_rfl) (fun _ _ _ _ h => h) rfl ?_ (by assumption) ?_
    rotate_left 1
    · (intro w hSw; (try dsimp only at hSw); go_simp; try with_reducible rfl)
    simp only [List.setIfInBounds_toArray, List.set_cons_zero, List.set_cons_succ]
    refine rs.want_take (i := 21) 24 (v := ?_) rfl rfl (by kernel_rfl) (by kernel_rfl) (by kernel_rfl) (fun _ _ _ _ h => h) rfl ?_ (by assumption) ?_
    rotate_left 1
    · (intro w hSw; (try dsimp only at hSw); go_simp; try with_reducible rfl)
    simp only [List.setIfInBounds_toArray, List.set_cons_zero, List.set_cons_succ]
    refine rs.skip_take (i := 22) 25 rfl (by kernel_rfl) (by kernel_rfl) (by kernel_rfl) (fun _ _ _ _ h => h) rfl (by assumption) ?_
    simp only [List.setIfInBounds_toArray, List.set_cons_zero, List.set_cons_succ]
    refine rs.skip_take (i := 23) 26 rfl (by kernel_rfl) (by kernel_rfl) (by kernel_rfl) (fun _ _ _ _ h => h) rfl (by assumption) ?_
    simp only [List.setIfInBounds_toArray, List.set_cons_zero, List.set_cons_succ]
    refine rs.skip_take (i := 24) 27 rfl (by kernel_rfl) (by kernel_rfl) (by kernel_rfl) (fun _ _ _ _ h => h) rfl (by assumption) ?_
    simp only [List.setIfInBounds_toArray, List.set_cons_zero, List.set_cons_succ]
    refine rs.skip_take (i := 25) 28 rfl (by kernel_rfl) (by kernel_rfl) (by kernel_rfl) (fun _ _ _ _ h => h) rfl (by assumption) ?_
    simp only [List.setIfInBounds_toArray, List.set_cons_zero, List.set_cons_succ]
    refine rs.skip_take (i := 26) 29 rfl (by kernel_rfl) (by kernel_rfl) (by kernel_rfl) (fun _ _ _ _ h => h) rfl (by assumption) ?_
    simp only [List.setIfInBounds_toArray, List.set_cons_zero, List.set_cons_succ]
    refine rs.want_take (i := 27) 30 (v := ?_) rfl rfl (by kernel_rfl) (by kernel_rfl) (by kernel_rfl) (fun _ _ _ _ h => h) rfl ?_ (by assumption) ?_
    rotate_left 1
    · (intro w hSw; (try dsimp only at hSw); go_simp; try with_reducible rfl)
    simp only [List.setIfInBounds_toArray, List.set_cons_zero, List.set_cons_succ]
    refine rs.want_take (i := 28) 31 (v := ?_) rfl rfl (by kernel_rfl) (by kernel_rfl) (by kernel_rfl) (fun _ _ _ _ h => h) rfl ?_ (by assumption) ?_
    rotate_left 1
    · (intro w hSw; (try dsimp only at hSw); go_simp; try with_reducible rfl)
    simp only [List.setIfInBounds_toArray, List.set_cons_zero, List.set_cons_succ]
    refine rs.skip_take (i := 29) 32 rfl (by kernel_rfl) (by kernel_rfl) (by kernel_rfl) (fun _ _ _ _ h => h) rfl (by assumption) ?_
    simp only [List.setIfInBounds_toArray, List.set_cons_zero, List.set_cons_succ]
    refine rs.skip_take (i := 30) 33 rfl (by kernel_rfl) (by kernel_rfl) (by kernel_rfl) (fun _ _ _ _ h => h) rfl (by assumption) ?_
    simp only [List.setIfInBounds_toArray, List.set_cons_zero, List.set_cons_succ]
    refine rs.skip_take (i := 31) 34 rfl (by kernel_rfl) (by kernel_rfl) (by kernel_rfl) (fun _ _ _ _ h => h) rfl (by assumption) ?_
    simp only [List.setIfInBounds_toArray, List.set_cons_zero, List.set_cons_succ]
    refine rs.skip_take (i := 32) 35 rfl (by kernel_rfl) (by kernel_rfl) (by kernel_rfl) (fun _ _ _ _ h => h) rfl (by assumption) ?_
    simp only [List.setIfInBounds_toArray, List.set_cons_zero, List.set_cons_succ]
    refine rs.skip_take (i := 33) 36 rfl (by kernel_rfl) (by kernel_rfl) (by kernel_rfl) (fun _ _ _ _ h => h) rfl (by assumption) ?_
    simp only [List.setIfInBounds_toArray, List.set_cons_zero, List.set_cons_succ]
    refine rs.want_take (i := 34) 37 (v := ?_) rfl rfl (by kernel_rfl) (by kernel_rfl) (by kernel_rfl) (fun _ _ _ _ h => h) rfl ?_ (by assumption) ?_
    rotate_left 1
    · (intro w hSw; (try dsimp only at hSw); go_simp; try with_reducible rfl)
    simp only [List.setIfInBounds_toArray, List.set_cons_zero, List.set_cons_succ]
    refine rs.want_take (i := 35) 2 (v := ?_) rfl rfl (by kernel_rfl) (by kernel_rfl) (by kernel_rfl) (fun _ _ _ _ h => h) rfl ?_ (by assumption) ?_
    rotate_left 1
    · (intro w hSw; (try dsimp only at hSw); go_simp; try with_reducible rfl)
    simp only [List.setIfInBounds_toArray, List.set_cons_zero, List.set_cons_succ]
    refine wpAnyH_done (by kernel_rfl) ?_ _
    have HB2 := Lib.hid (show Below V.heap.size V w2 from ⟨hB2.os, hB2.tape, hB2.output, hB2.size, hB2.block⟩)
    clear hB2
    go_wp2
    go_ret
    exact ⟨nb.ret_bool HR.out.symm, HB2.out⟩


set_option maxRecDepth 100000 in
set_option maxHeartbeats 1000000 in
theorem ifok_any (F : Fr) (w : World) (hx : F.x.size ≤ maxLen) : Calls Try.prog 13 #[frv F] w (BoolPost w (okF F)) := by
  obtain ⟨k, s, d, f, n, t, u, z, m, x⟩ := F
  simp only at hx
  have hb := Blk.new w 27 #[.int .i64 k, .int .i64 s, .int .i64 d, .int .i64 f, .int .i64 n, .int .i64 t, .int .i64 u, .int .i64 z, .int .i64 m, .string x]
  have hB0 : Below w.heap.size w (w.alloc (.cells #[.int .i64 k, .int .i64 s, .int .i64 d, .int .i64 f, .int .i64 n, .int .i64 t, .int .i64 u, .int .i64 z, .int .i64 m, .string x] 27)) := (Below.refl _ _).alloc (Nat.le_refl _) _
  have H1 := Lib.hid (fun V h => irange_any k s d f n t u z m x V w.heap.size h)
  have H2 := Lib.hid (fun V h => ipiece_any k s d f n t u z m x V w.heap.size h hx)
  have H3 := Lib.hid (fun V h => ians_any k s d f n t u z m x V w.heap.size h)
  unfold frv
  simp only
  go_enter Try.func13, Try.ntmps13
  go_wp2_with fail
  generalize w.alloc (.cells #[.int .i64 k, .int .i64 s, .int .i64 d, .int .i64 f, .int .i64 n, .int .i64 t, .int .i64 u, .int .i64 z, .int .i64 m, .string x] 27) = V at hb hB0 ⊢
  refine (H1.out _ hb).mono ?_
  rintro e W ⟨rfl, hB1⟩
  have hbW := Lib.hid (hb.below hB1 hb.lt)
  have hBW := Lib.hid (hB0.trans (hB1.mono hB0.size))
  have c0 := hbW.out.cell 0
  simp only [List.getElem?_toArray, List.getElem?_cons_zero] at c0
  clear hB0 hB1 hb H1
  cases hh : okHead ⟨k, s, d, f, n, t, u, z, m, x⟩ with
  | false =>
    have HR := Lib.hid (okF_head (F := ⟨k, s, d, f, n, t, u, z, m, x⟩) (.inl hh))
    go_wp2
    go_ret
    exact ⟨nb.ret_bool HR.out.symm, hBW.out⟩
  | true =>
    by_cases hk : k = 1
    · have hq : (k == 1) = true := beq_iff_eq.2 hk
      have HR := Lib.hid (show okF ⟨k, s, d, f, n, t, u, z, m, x⟩ = okPiece ⟨k, s, d, f, n, t, u, z, m, x⟩ by rw [okF_tail hh (by show inB k 1 3 = true; rw [hk]; rfl)]; exact if_pos hk)
      clear hh hk
      go_wp2_with fail
      refine (H2.out _ hbW.out).mono ?_
      rintro e W2 ⟨rfl, hB2⟩
      have HB2 := Lib.hid (hBW.out.trans (hB2.mono hBW.out.size))
      clear hB2
      go_wp2
      go_ret
      exact ⟨nb.ret_bool HR.out.symm, HB2.out⟩
    · have hq : (k == 1) = false := beq_eq_false_iff_ne.2 hk
      by_cases hk2 : k = 2
      · have hq2 : (k == 2) = true := beq_iff_eq.2 hk2
        have HR := Lib.hid (show okF ⟨k, s, d, f, n, t, u, z, m, x⟩ = okAns ⟨k, s, d, f, n, t, u, z, m, x⟩ by rw [okF_tail hh (by show inB k 1 3 = true; rw [hk2]; rfl)]; exact if_neg hk)
        clear hh hk hk2
        go_wp2_with fail
        refine (H3.out _ hbW.out).mono ?_
        rintro e W2 ⟨rfl, hB2⟩
        have HB2 := Lib.hid (hBW.out.trans (hB2.mono hBW.out.size))
        clear hB2
        go_wp2
        go_ret
        exact ⟨nb.ret_bool HR.out.symm, HB2.out⟩
      · have hq2 : (k == 2) = false := beq_eq_false_iff_ne.2 hk2
        by_cases hk3 : k = 3
        · have hq3 : (k == 3) = true := beq_iff_eq.2 hk3
          have HR := Lib.hid (show okF ⟨k, s, d, f, n, t, u, z, m, x⟩ = okAns ⟨k, s, d, f, n, t, u, z, m, x⟩ by rw [okF_tail hh (by show inB k 1 3 = true; rw [hk3]; rfl)]; exact if_neg hk)
          clear hh hk hk2 hk3
          go_wp2_with fail
          refine (H3.out _ hbW.out).mono ?_
          rintro e W2 ⟨rfl, hB2⟩
          have HB2 := Lib.hid (hBW.out.trans (hB2.mono hBW.out.size))
          clear hB2
          go_wp2
          go_ret
          exact ⟨nb.ret_bool HR.out.symm, HB2.out⟩
        · have hq3 : (k == 3) = false := beq_eq_false_iff_ne.2 hk3
          have HR := Lib.hid (okF_head (F := ⟨k, s, d, f, n, t, u, z, m, x⟩) (.inr (by show inB k 1 3 = false; exact inB_f (by omega))))
          clear hh hk hk2 hk3
          go_wp2
          go_ret
          exact ⟨nb.ret_bool HR.out.symm, hBW.out⟩
end Go.Proofs.Ytgihbilpimempaa.fr
