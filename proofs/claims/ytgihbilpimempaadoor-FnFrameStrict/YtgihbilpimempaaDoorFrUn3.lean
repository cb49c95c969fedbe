/-
  Contracts of (*impl.frameCursor).readFrame, readSum, readEnd and of impl.FrameUnpack.
-/
import Derived.Test.YtgihbilpimempaaDoorFrUn2
namespace Go.Proofs.YtgihbilpimempaaDoor.fr
open Go.ChangeShapes Go.WideShapes Go.ChangeAt Go.RowKit
open Go.Proofs.YtgihbilpimempaaDoor.nb Go.Proofs.YtgihbilpimempaaDoor.wd Go.Proofs.YtgihbilpimempaaDoor.cp Go.Proofs.YtgihbilpimempaaDoor.ow

abbrev zeroF : Array Value := #[.int .i64 0, .int .i64 0, .int .i64 0, .int .i64 0, .int .i64 0, .int .i64 0, .int .i64 0, .int .i64 0, .int .i64 0, .string ⟨#[]⟩]
def ReadPost (w : World) (b : Nat) (A : Option Addr) (c : Nat) (l : List UInt8) (e : Ending) (w' : World) : Prop :=
  e = .returned (frv (rdF l)) ∧ Cu w' b A c l (cntF l) ∧ But w.heap.size b w w'
theorem But2.but {B y z : Nat} {w w' : World} (h : But2 B y z w w') {B' : Nat} (hB : B' ≤ B) (hz : B' ≤ z) : But B' y w w' :=
  ⟨h.1, h.2.1, h.2.2.1, h.2.2.2.1, fun i hi h1 => h.2.2.2.2 i (by omega) h1 (by omega)⟩
theorem Cu.at {w : World} {b : Nat} {A : Option Addr} {c : Nat} {l : List UInt8} {i : Nat} (h : Cu w b A c l i) : b < w.heap.size := by obtain ⟨_, hb, _⟩ := h; exact hb.lt
theorem Cu.alloc {w : World} {b : Nat} {A : Option Addr} {c : Nat} {l : List UInt8} {i : Nat} (h : Cu w b A c l i) (o : Obj) : Cu (w.alloc o) b A c l i := by
  obtain ⟨flt, hb, hf⟩ := h
  exact ⟨flt, hb.alloc o, hf⟩
theorem Cu.below {w w' : World} {b : Nat} {A : Option Addr} {c : Nat} {l : List UInt8} {i : Nat} (h : Cu w b A c l i) (hB : Below w.heap.size w w') : Cu w' b A c l i := by
  obtain ⟨flt, hb, hf⟩ := h
  exact ⟨flt, hb.below hB hb.lt, hf⟩
theorem Cu.far {w : World} {b : Nat} {A : Option Addr} {c : Nat} {l : List UInt8} {i : Nat} (h : Cu w b A c l i) {R : Nat} (hR : b ≠ R) (j : Nat) (v : Value) : Cu (w.setCell ⟨R, j, none⟩ v) b A c l i := by
  obtain ⟨flt, hb, hf⟩ := h
  exact ⟨flt, hb.far (p := ⟨R, j, none⟩) hR v, hf⟩
theorem But.low {b : Nat} {w w' : World} (h : But w.heap.size b w w') (hb : b < w.heap.size) : Below b w w' := ⟨h.1, h.2.1, h.2.2.1, h.2.2.2.1, fun j hj => h.2.2.2.2 j (by omega) (by omega)⟩
theorem But.set {B y : Nat} {w w' : World} (h : But B y w w') {R : Nat} (hR : B ≤ R) (i : Nat) (v : Value) : But B y w (w'.setCell ⟨R, i, none⟩ v) :=
  h.trans ⟨rfl, rfl, rfl, by simp, fun k hk _ => Below.heap_setCell w' ⟨R, i, none⟩ v k (by show k ≠ R; omega)⟩

theorem Cu.ten {W : World} {b : Nat} {A : Option Addr} {c : Nat} {l : List UInt8} {i : Nat} (h : Cu W b A c l i) {R : Nat} (hR : b ≠ R) (a0 a1 a2 a3 a4 a5 a6 a7 a8 a9 : Value) : Cu ((((((((((W.setCell ⟨R, 0, none⟩ a0).setCell ⟨R, 1, none⟩ a1).setCell ⟨R, 2, none⟩ a2).setCell ⟨R, 3, none⟩ a3).setCell ⟨R, 4, none⟩ a4).setCell ⟨R, 5, none⟩ a5).setCell ⟨R, 6, none⟩ a6).setCell ⟨R, 7, none⟩ a7).setCell ⟨R, 8, none⟩ a8).setCell ⟨R, 9, none⟩ a9) b A c l i := ((((((((((h.far hR 0 a0).far hR 1 a1).far hR 2 a2).far hR 3 a3).far hR 4 a4).far hR 5 a5).far hR 6 a6).far hR 7 a7).far hR 8 a8).far hR 9 a9)
theorem But.ten {B y : Nat} {w W : World} (h : But B y w W) {R : Nat} (hR : B ≤ R) (a0 a1 a2 a3 a4 a5 a6 a7 a8 a9 : Value) : But B y w ((((((((((W.setCell ⟨R, 0, none⟩ a0).setCell ⟨R, 1, none⟩ a1).setCell ⟨R, 2, none⟩ a2).setCell ⟨R, 3, none⟩ a3).setCell ⟨R, 4, none⟩ a4).setCell ⟨R, 5, none⟩ a5).setCell ⟨R, 6, none⟩ a6).setCell ⟨R, 7, none⟩ a7).setCell ⟨R, 8, none⟩ a8).setCell ⟨R, 9, none⟩ a9) := ((((((((((h.set hR 0 a0).set hR 1 a1).set hR 2 a2).set hR 3 a3).set hR 4 a4).set hR 5 a5).set hR 6 a6).set hR 7 a7).set hR 8 a8).set hR 9 a9)

set_option maxRecDepth 100000 in
set_option maxHeartbeats 1000000 in
theorem readFrame_any (w : World) (b : Nat) (A : Option Addr) (c : Nat) (l : List UInt8) (h : Cu w b A c l 0) (hr : RowU b w A l) (hE : FErr b w) (hl : l.length ≤ 1048576) :
    Calls Tryd.prog 32 #[.pointer (some ⟨b, 0, none⟩)] w (ReadPost w b A c l) := by
  have hbw := h.at
  have hZ := (Blk.new w 24 zeroF).alloc (.cells zeroF 24)
  have hF := Blk.new (w.alloc (.cells zeroF 24)) 24 zeroF
  have e1 : (w.alloc (.cells zeroF 24)).heap.size = w.heap.size + 1 := by simp
  rw [e1] at hF
  have hB0 : Below w.heap.size w ((w.alloc (.cells zeroF 24)).alloc (.cells zeroF 24)) := ((Below.refl _ _).alloc (Nat.le_refl _) _).alloc (by simp) _
  have hC0 := (h.alloc (.cells zeroF 24)).alloc (.cells zeroF 24)
  clear e1 h
  go_enter Tryd.func32, Tryd.ntmps32
  go_wp2_with fail
  generalize (w.alloc (.cells zeroF 24)).alloc (.cells zeroF 24) = W0 at hZ hF hB0 hC0 ⊢
  refine (numbers_any _ _).mono ?_
  rintro e W1 ⟨P, rfl, hPe, hP, hB1⟩
  have hPl := hP.lt
  have hP1 : P ≠ w.heap.size + 1 := by have := hF.lt; omega
  have hPb : P ≠ b := by have := hF.lt; omega
  have hF1 := hF.below hB1 hF.lt
  have HZ1 := Lib.hid (hZ.below hB1 hZ.lt)
  have hC1 := hC0.below hB1
  have hBW := hB0.trans (hB1.mono hB0.size)
  have HBW := Lib.hid hBW
  have hrow1 := hr.below (hBW.mono (by omega))
  have herr1 := hE.below (hBW.mono (by omega))
  have HRow := Lib.hid (fun V (hV : Below b W1 V) => hrow1.below hV)
  have HErr := Lib.hid (fun V (hV : Below b W1 V) => herr1.below hV)
  have HB6 := Lib.hid (readBytes_any W1 b A c l 0 P (w.heap.size + 1) 0 6 zeroF hC1 hrow1 herr1 hl (fun j hj => by rw [Nat.zero_add]; exact (hP.cell j).trans (ptr6_at hj _)) hPl hPb hP1 hF1 (by omega) (by simp) (by omega))
  clear hPe hZ hF hB0 hC0 hP hB1 hF1 hC1 hBW hrow1 herr1 hr hE
  have hw1 := HZ1.out.lt
  go_wp2_with fail
  refine HB6.out.mono ?_
  rintro e W2 ⟨rfl, hC2, hF2, hT2, hs2⟩
  have hlow2 := hT2.low (by omega) (by omega)
  have hF2' : Blk W2 (w.heap.size + 1) 24 #[.int .i64 (vl l 0), .int .i64 (vl l 1), .int .i64 (vl l 2), .int .i64 (vl l 3), .int .i64 (vl l 4), .int .i64 (vl l 5), .int .i64 0, .int .i64 0, .int .i64 0, .string ⟨#[]⟩] := by
    simpa [putsV] using hF2
  have HF2 := Lib.hid hF2'
  have HZ2 := Lib.hid (hT2.blk HZ1.out hw1 (by omega) (by omega))
  have HT2 := Lib.hid (hT2.but (B' := w.heap.size) (by omega) (by omega))
  have HC2 := Lib.hid hC2
  have hsz1 := HBW.out.size
  have hF2l := hF2.lt
  clear hC2 hF2 hF2' hT2 HB6 HZ1
  have HPr := Lib.hid (pair_any W2 b A c l 6 HC2.out (HRow.out _ hlow2) (HErr.out _ hlow2) hl (by omega))
  have HLow2 := Lib.hid hlow2
  clear hlow2 hP1 hPb hPl
  go_wp2_with fail
  refine HPr.out.mono ?_
  rintro e W3 ⟨rfl, hC3, hT3, hs3⟩
  obtain ⟨u6, hu6⟩ : ∃ u6, u6 = vl l 6 * 256 + vl l 7 := ⟨_, rfl⟩
  rw [show vl l 6 * 256 + vl l (6 + 1) = u6 from hu6.symm]
  have HU6 := Lib.hid hu6
  clear hu6
  have hF3 := hT3.blk HF2.out hF2l (by omega)
  have hF4 : Blk (W3.setCell ⟨w.heap.size + 1, 6, none⟩ (.int .i64 u6)) (w.heap.size + 1) 24 #[.int .i64 (vl l 0), .int .i64 (vl l 1), .int .i64 (vl l 2), .int .i64 (vl l 3), .int .i64 (vl l 4), .int .i64 (vl l 5), .int .i64 u6, .int .i64 0, .int .i64 0, .string ⟨#[]⟩] := by simpa using hF3.put 6 (.int .i64 u6)
  have hz2 := HZ2.out.lt
  have hZ3 := hT3.blk HZ2.out hz2 (by omega)
  have HZ4 := Lib.hid ((hT3.blk HZ2.out hz2 (by omega)).far (p := ⟨w.heap.size + 1, 6, none⟩) (by show w.heap.size ≠ w.heap.size + 1; omega) (.int .i64 u6))
  have HC4 := Lib.hid (hC3.far (R := w.heap.size + 1) (by omega) 6 (.int .i64 u6))
  have HT4 := Lib.hid ((HT2.out.trans (hT3.less (by omega))).set (R := w.heap.size + 1) (by omega) 6 (.int .i64 u6))
  have HLow4 := Lib.hid ((HLow2.out.trans (hT3.low (by omega))).setCell (p := ⟨w.heap.size + 1, 6, none⟩) (by show b ≤ w.heap.size + 1; omega) (.int .i64 u6))
  have HF4 := Lib.hid hF4
  have hs4 : (W3.setCell ⟨w.heap.size + 1, 6, none⟩ (.int .i64 u6)).heap.size = W2.heap.size := by simp [hs3]
  have HS4 := Lib.hid hs4
  obtain ⟨c0, c1, c2, c3, c4, c5, c6, c7, c8, c9, _⟩ := ten hF3
  obtain ⟨f0, f1, f2, f3, f4, f5, f6, f7, f8, f9⟩ := ten_frozen hF3
  have hB4 : Below w.heap.size w W1 := HBW.out
  clear hC3 hT3 hF3 hF4 hs4 HPr HF2 HZ2 HC2 HT2 HLow2
  have x0 := vl_lo l 0
  have x1 := vl_hi l 0
  by_cases hk : vl l 0 = 1
  · have hk' : (vl l 0 == 1) = true := beq_iff_eq.2 hk
    have HRd := Lib.hid (show rdF l = ⟨vl l 0, vl l 1, vl l 2, vl l 3, vl l 4, vl l 5, u6, vl l 8, vl l 9 * 256 + vl l 10, four l 11⟩ by unfold rdF; rw [if_pos hk, HU6.out])
    have HCn := Lib.hid (show cntF l = 15 by unfold cntF; rw [if_pos hk])
    clear hk hZ3 c1 c2 c3 c4 c5 c7 c8 c9 f0 f1 f2 f3 f4 f5 f7 f8 f9
    generalize vl l 0 = v0 at c0 hk' x0 x1 HF4 HRd
    go_wp2_with fail
    clear c0 c6 f6 hk'
    generalize W3.setCell ⟨w.heap.size + 1, 6, none⟩ (.int .i64 u6) = W4 at HZ4 HC4 HT4 HLow4 HF4 HS4 ⊢
    have hB5 : Below W4.heap.size W4 (W4.alloc (.cells #[.pointer (some ⟨w.heap.size + 1, 7, none⟩)] 65)) := (Below.refl _ _).alloc (Nat.le_refl _) _
    have hP5 := Blk.new W4 65 #[.pointer (some ⟨w.heap.size + 1, 7, none⟩)]
    have hs5 : (W4.alloc (.cells #[.pointer (some ⟨w.heap.size + 1, 7, none⟩)] 65)).heap.size = W4.heap.size + 1 := by simp
    have hF5 := HF4.out.alloc (.cells #[.pointer (some ⟨w.heap.size + 1, 7, none⟩)] 65)
    have hZ5 := HZ4.out.alloc (.cells #[.pointer (some ⟨w.heap.size + 1, 7, none⟩)] 65)
    have hC5 := HC4.out.alloc (.cells #[.pointer (some ⟨w.heap.size + 1, 7, none⟩)] 65)
    have hT5 := HT4.out.trans ((But.of (z := b) hB5 (Nat.le_refl _)).less (B' := w.heap.size) (by rw [HS4.out]; omega))
    have hL5 := HLow4.out.trans (hB5.mono (by rw [HS4.out]; omega))
    generalize W4.alloc (.cells #[.pointer (some ⟨w.heap.size + 1, 7, none⟩)] 65) = W5 at hB5 hP5 hs5 hF5 hZ5 hC5 hT5 hL5 ⊢
    have hw4 : W4.heap.size = W1.heap.size := HS4.out.trans hs2
    rw [hw4] at hP5
    have HB7 := Lib.hid (readBytes_any W5 b A c l 8 W1.heap.size (w.heap.size + 1) 7 1 #[.int .i64 v0, .int .i64 (vl l 1), .int .i64 (vl l 2), .int .i64 (vl l 3), .int .i64 (vl l 4), .int .i64 (vl l 5), .int .i64 u6, .int .i64 0, .int .i64 0, .string ⟨#[]⟩] hC5 (HRow.out _ hL5) (HErr.out _ hL5) hl (fun j hj => by rw [show j = 0 by omega]; exact hP5.cell 0) (by omega) (by omega) (by omega) hF5 (by omega) (by simp) (by omega))
    have HZ5 := Lib.hid hZ5
    have HT5 := Lib.hid hT5
    have HL5 := Lib.hid hL5
    clear hB5 hP5 hF5 hZ5 hC5 hT5 hL5 HF4 HZ4 HC4 HT4 HLow4
    refine HB7.out.mono ?_
    rintro e W6 ⟨rfl, hC6, hF6, hT6, hs6⟩
    have hF6' : Blk W6 (w.heap.size + 1) 24 #[.int .i64 (v0), .int .i64 (vl l 1), .int .i64 (vl l 2), .int .i64 (vl l 3), .int .i64 (vl l 4), .int .i64 (vl l 5), .int .i64 u6, .int .i64 (vl l 8), .int .i64 0, .string ⟨#[]⟩] := by simpa [putsV] using hF6
    have hL6 := HL5.out.trans (hT6.low (by omega) (by omega))
    have HPr := Lib.hid (pair_any W6 b A c l 9 hC6 (HRow.out _ hL6) (HErr.out _ hL6) hl (by omega))
    have HF6 := Lib.hid hF6'
    have HZ6 := Lib.hid (hT6.blk HZ5.out (by omega) (by omega) (by omega))
    have HT6 := Lib.hid (HT5.out.trans (hT6.but (B' := w.heap.size) (by omega) (by omega)))
    have HL6 := Lib.hid hL6
    clear hC6 hF6 hF6' hT6 hL6 HB7 HZ5 HT5 HL5
    go_wp2_with fail
    refine HPr.out.mono ?_
    rintro e W7 ⟨rfl, hC7, hT7, hs7⟩
    obtain ⟨u8, hu8⟩ : ∃ u8, u8 = vl l 9 * 256 + vl l 10 := ⟨_, rfl⟩
    rw [show vl l 9 * 256 + vl l (9 + 1) = u8 from hu8.symm]
    have HU8 := Lib.hid hu8
    clear hu8
    have hF7 := hT7.blk HF6.out (by omega) (by omega)
    have hF8 : Blk (W7.setCell ⟨w.heap.size + 1, 8, none⟩ (.int .i64 u8)) (w.heap.size + 1) 24 #[.int .i64 (v0), .int .i64 (vl l 1), .int .i64 (vl l 2), .int .i64 (vl l 3), .int .i64 (vl l 4), .int .i64 (vl l 5), .int .i64 u6, .int .i64 (vl l 8), .int .i64 u8, .string ⟨#[]⟩] := by simpa using hF7.put 8 (.int .i64 u8)
    have HZ8 := Lib.hid ((hT7.blk HZ6.out (by omega) (by omega)).far (p := ⟨w.heap.size + 1, 8, none⟩) (by show w.heap.size ≠ w.heap.size + 1; omega) (.int .i64 u8))
    have HT8 := Lib.hid ((HT6.out.trans (hT7.less (by omega))).set (R := w.heap.size + 1) (by omega) 8 (.int .i64 u8))
    have hL8 := (HL6.out.trans (hT7.low (by omega))).setCell (p := ⟨w.heap.size + 1, 8, none⟩) (by show b ≤ w.heap.size + 1; omega) (.int .i64 u8)
    have hs8 : (W7.setCell ⟨w.heap.size + 1, 8, none⟩ (.int .i64 u8)).heap.size = W6.heap.size := by simp [hs7]
    have HBk := Lib.hid (readBlock_any _ b A c l 11 (hC7.far (R := w.heap.size + 1) (by omega) 8 (.int .i64 u8)) (HRow.out _ hL8) (HErr.out _ hL8) hl (by omega))
    obtain ⟨c0, c1, c2, c3, c4, c5, c6, c7, c8, c9, _⟩ := ten hF7
    obtain ⟨f0, f1, f2, f3, f4, f5, f6, f7, f8, f9⟩ := ten_frozen hF7
    have HF8 := Lib.hid hF8
    have HS8 := Lib.hid hs8
    clear hC7 hT7 hs7 hF7 hF8 hL8 hs8 HPr HF6 HZ6 HT6 HL6 c0 c1 c2 c3 c4 c5 c6 c7 c9 f0 f1 f2 f3 f4 f5 f6 f7 f9
    go_wp2_with fail
    clear c8 f8
    generalize W7.setCell ⟨w.heap.size + 1, 8, none⟩ (.int .i64 u8) = W8 at HZ8 HT8 HBk HF8 HS8 ⊢
    refine HBk.out.mono ?_
    rintro e W9 ⟨rfl, hC9, hT9⟩
    have hw8 : W8.heap.size = W6.heap.size := HS8.out
    have hF9 := hT9.blk HF8.out (by omega) (by omega)
    have hZ9 := hT9.blk HZ8.out (by omega) (by omega)
    have HT9 := Lib.hid (HT8.out.trans (hT9.less (by omega)))
    have HC9 := Lib.hid hC9
    obtain ⟨c0, c1, c2, c3, c4, c5, c6, c7, c8, c9, _⟩ := ten hF9
    have f9 := hF9.frozen 9
    obtain ⟨z0, z1, z2, z3, z4, z5, z6, z7, z8, z9, _⟩ := ten hZ9
    obtain ⟨g0, g1, g2, g3, g4, g5, g6, g7, g8, g9⟩ := ten_frozen hZ9
    generalize four l 11 = xx at HRd
    clear hC9 hT9 HBk HF8 HZ8 HT8 hF9 hZ9
    go_wp2
    refine bodyPost_ret (v := frv ⟨v0, vl l 1, vl l 2, vl l 3, vl l 4, vl l 5, u6, vl l 8, u8, xx⟩) (by simp [results, Tryd.results32, go_sem, frv, *]) rfl ⟨by rw [HRd.out, ← HU8.out], ?_, ?_⟩
    · rw [HCn.out]
      exact (HC9.out.far (R := w.heap.size + 1) (by omega) 9 _).ten (by omega) _ _ _ _ _ _ _ _ _ _
    · exact (But.of (z := b) HBW.out (Nat.le_refl _)).trans ((HT9.out.set (R := w.heap.size + 1) (by omega) 9 _).ten (Nat.le_refl _) _ _ _ _ _ _ _ _ _ _)
  · have hk' : (vl l 0 == 1) = false := beq_eq_false_iff_ne.2 hk
    have HRd := Lib.hid (show rdF l = ⟨vl l 0, vl l 1, vl l 2, vl l 3, vl l 4, vl l 5, u6, 0, 0, ⟨#[]⟩⟩ by unfold rdF; rw [if_neg hk, HU6.out])
    have HCn := Lib.hid (show cntF l = 8 by unfold cntF; rw [if_neg hk])
    obtain ⟨z0, z1, z2, z3, z4, z5, z6, z7, z8, z9, _⟩ := ten hZ3
    obtain ⟨g0, g1, g2, g3, g4, g5, g6, g7, g8, g9⟩ := ten_frozen hZ3
    clear hk hZ3 HF4 HZ4 HLow4 HS4 f0 f1 f2 f3 f4 f5 f7 f8 f9
    generalize vl l 0 = v0 at c0 hk' x0 x1 HRd
    go_wp2
    refine bodyPost_ret (v := frv ⟨v0, vl l 1, vl l 2, vl l 3, vl l 4, vl l 5, u6, 0, 0, ⟨#[]⟩⟩) (by simp [results, Tryd.results32, go_sem, frv, *]) rfl ⟨by rw [HRd.out], ?_, ?_⟩
    · rw [HCn.out]
      exact HC4.out.ten (by omega) _ _ _ _ _ _ _ _ _ _
    · exact (But.of (z := b) HBW.out (Nat.le_refl _)).trans (HT4.out.ten (Nat.le_refl _) _ _ _ _ _ _ _ _ _ _)
end Go.Proofs.YtgihbilpimempaaDoor.fr
