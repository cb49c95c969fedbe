/-
  Contract of impl.NoteWrite.
-/
import Derived.Test.YtekoghcgkmldgaaDoorEnv
import Derived.Test.YtekoghcgkmldgaaDoorSWrite
import Derived.Test.YtekoghcgkmldgaaDoorINum
import Derived.Test.YtekoghcgkmldgaaDoorIOk
import Derived.Deep.RegionHeld3
namespace Go.Proofs.YtekoghcgkmldgaaDoor.dc
open Go.ChangeShapes Go.WideShapes Go.ChangeAt Go.RowKit
open Go.Proofs.YtekoghcgkmldgaaDoor.nb Go.Proofs.YtekoghcgkmldgaaDoor.ok Go.Proofs.YtekoghcgkmldgaaDoor.wd

theorem wr_loop (f n t u : Int) (s : ByteArray) : ((((str [] ++ (str (dl f) ++ str [32])) ++ (str (dl n) ++ str [32])) ++ (str (dl t) ++ str [32])) ++ (str (dl u) ++ str [32])) ++ s = wr f n t u s := by
  unfold wr wl
  rw [← str_data s]
  simp only [str_app, data_str]
  congr 1
  simp

theorem iwrite_f (f n t u : Int) (s : ByteArray) (w : World) (hs : s.size ≤ maxLen) (h : okN f n t u s = false) :
    Calls Tryd.prog 10 #[note f n t u s] w (StrPost w (str [])) := by
  unfold note
  go_enter Tryd.func10, Tryd.ntmps10
  go_wp2_with fail
  refine (iok_any f n t u s _ hs).mono ?_
  rintro e w1 ⟨rfl, hB1⟩
  have HB := Lib.hid (((Below.refl w.heap.size w).alloc (Nat.le_refl _) _).trans (hB1.mono (by simp)))
  clear hB1
  rw [h]
  go_wp2
  go_ret
  exact ⟨rfl, HB.out⟩

set_option maxRecDepth 100000 in
set_option maxHeartbeats 1000000 in
theorem iwrite_t (f n t u : Int) (s : ByteArray) (w : World) (h : okN f n t u s = true) (hTab : Tab w) :
    Calls Tryd.prog 10 #[note f n t u s] w (StrPost w (wr f n t u s)) := by
  obtain ⟨⟨f0, f1⟩, ⟨n0, n1⟩, ⟨t0, t1⟩, ⟨u0, u1⟩, ⟨z0, z1⟩, _⟩ := okN_parts h
  have HD0 := Lib.hid (fun W hT => itoa_any f f0 (by omega) W hT)
  have HD1 := Lib.hid (fun W hT => itoa_any n (by omega) (by omega) W hT)
  have HD2 := Lib.hid (fun W hT => itoa_any t t0 (by omega) W hT)
  have HD3 := Lib.hid (fun W hT => itoa_any u (by omega) (by omega) W hT)
  have l0 : (str (dl f)).size ≤ 3 := by rw [str_size]; exact (dl_len (by omega)).2
  have l1 : (str (dl n)).size ≤ 3 := by rw [str_size]; exact (dl_len (by omega)).2
  have l2 : (str (dl t)).size ≤ 3 := by rw [str_size]; exact (dl_len (by omega)).2
  have l3 : (str (dl u)).size ≤ 3 := by rw [str_size]; exact (dl_len (by omega)).2
  have HW := Lib.hid (wr_loop f n t u s)
  have lb : (⟨#[32]⟩ : ByteArray).size = 1 := rfl
  have le : (⟨#[]⟩ : ByteArray).size = 0 := rfl
  generalize str (dl f) = D0 at HD0 l0 HW
  generalize str (dl n) = D1 at HD1 l1 HW
  generalize str (dl t) = D2 at HD2 l2 HW
  generalize str (dl u) = D3 at HD3 l3 HW
  obtain ⟨a0, e1, q1, r1⟩ := adds D0 ⟨#[32]⟩ (by omega)
  obtain ⟨p1, e2, q2, r2⟩ := adds ⟨#[]⟩ a0 (by omega)
  obtain ⟨a1, e3, q3, r3⟩ := adds D1 ⟨#[32]⟩ (by omega)
  obtain ⟨p2, e4, q4, r4⟩ := adds p1 a1 (by omega)
  obtain ⟨a2, e5, q5, r5⟩ := adds D2 ⟨#[32]⟩ (by omega)
  obtain ⟨p3, e6, q6, r6⟩ := adds p2 a2 (by omega)
  obtain ⟨a3, e7, q7, r7⟩ := adds D3 ⟨#[32]⟩ (by omega)
  obtain ⟨p4, e8, q8, r8⟩ := adds p3 a3 (by omega)
  obtain ⟨p5, e9, q9, r9⟩ := adds p4 s (by omega)
  have HP : Hid (p5 = wr f n t u s) := by rw [e9, e8, e7, e6, e5, e4, e3, e2, e1]; exact HW.out
  clear e1 e2 e3 e4 e5 e6 e7 e8 e9 q1 q2 q3 q4 q5 q6 q7 q8 q9 HW l0 l1 l2 l3 lb le
  have hs : s.size ≤ maxLen := by unfold maxLen; omega
  unfold note
  have hb := Blk.new w 24 #[.int .i64 f, .int .i64 n, .int .i64 t, .int .i64 u, .string s]
  have hB0 : Below w.heap.size w (w.alloc (.cells #[.int .i64 f, .int .i64 n, .int .i64 t, .int .i64 u, .string s] 24)) := (Below.refl _ _).alloc (Nat.le_refl _) _
  go_enter Tryd.func10, Tryd.ntmps10
  go_wp2_with fail
  generalize w.alloc (.cells #[.int .i64 f, .int .i64 n, .int .i64 t, .int .i64 u, .string s] 24) = W0 at hb hB0 ⊢
  refine (iok_any f n t u s _ hs).mono ?_
  rintro e W ⟨rfl, hB1⟩
  have hbW := hb.below hB1 hb.lt
  have hBW := hB0.trans (hB1.mono hB0.size)
  rw [h]
  clear hb hB0 hB1 h hs
  go_wp2_with fail
  refine (numbers_any _ _).mono ?_
  rintro e W1 ⟨R1, rfl, _, hP1, hB2⟩
  have HP1 := Lib.hid hP1
  clear hP1
  have HN := Lib.hid (hbW.below hB2 hbW.lt)
  have hBW1 := hBW.trans (hB2.mono hBW.size)
  have HT := Lib.hid (hTab.later hBW1)
  have HB1 := Lib.hid hBW1
  clear hbW hBW hB2 hBW1 hTab
  go_wp2
  go_loopw [3, 11] (fun x i wr => (i = .int .i64 0 ∧ x = .string ⟨#[]⟩ ∨ i = .int .i64 1 ∧ x = .string p1 ∨ i = .int .i64 2 ∧ x = .string p2 ∨ i = .int .i64 3 ∧ x = .string p3 ∨ i = .int .i64 4 ∧ x = .string p4) ∧ Below W1.heap.size W1 wr) (fun _ i _ => 4 - (intOf i).toNat)
  case atStart => exact ⟨.inl ⟨rfl, rfl⟩, Below.refl _ _⟩
  case round =>
    obtain ⟨hc, hBr⟩ := hrel
    obtain ⟨c0, c1, c2, c3, c4, hz⟩ := five (HN.out.below hBr HN.out.lt)
    have hT := HT.out.later hBr
    rcases hc with ⟨rfl, rfl⟩ | ⟨rfl, rfl⟩ | ⟨rfl, rfl⟩ | ⟨rfl, rfl⟩ | ⟨rfl, rfl⟩
    · have ix := ((HP1.out.below hBr HP1.out.lt).cell 0).trans (ptrA_at (k := 0) (by omega) w.heap.size)
      go_wp2_with fail
      clear ix
      refine (HD0.out _ hT).mono ?_
      rintro e w3 ⟨rfl, hB3⟩
      have R := Lib.hid (hBr.trans (hB3.mono hBr.size))
      clear hB3 hBr c0 c1 c2 c3 c4 hT hz
      go_wp2
      go_roundw
      case rel => exact ⟨.inr (.inl ⟨rfl, rfl⟩), R.out⟩
      case measure => simp [intOf]
    · have ix := ((HP1.out.below hBr HP1.out.lt).cell 1).trans (ptrA_at (k := 1) (by omega) w.heap.size)
      go_wp2_with fail
      clear ix
      refine (HD1.out _ hT).mono ?_
      rintro e w3 ⟨rfl, hB3⟩
      have R := Lib.hid (hBr.trans (hB3.mono hBr.size))
      clear hB3 hBr c0 c1 c2 c3 c4 hT hz
      go_wp2
      go_roundw
      case rel => exact ⟨.inr (.inr (.inl ⟨rfl, rfl⟩)), R.out⟩
      case measure => simp [intOf]
    · have ix := ((HP1.out.below hBr HP1.out.lt).cell 2).trans (ptrA_at (k := 2) (by omega) w.heap.size)
      go_wp2_with fail
      clear ix
      refine (HD2.out _ hT).mono ?_
      rintro e w3 ⟨rfl, hB3⟩
      have R := Lib.hid (hBr.trans (hB3.mono hBr.size))
      clear hB3 hBr c0 c1 c2 c3 c4 hT hz
      go_wp2
      go_roundw
      case rel => exact ⟨.inr (.inr (.inr (.inl ⟨rfl, rfl⟩))), R.out⟩
      case measure => simp [intOf]
    · have ix := ((HP1.out.below hBr HP1.out.lt).cell 3).trans (ptrA_at (k := 3) (by omega) w.heap.size)
      go_wp2_with fail
      clear ix
      refine (HD3.out _ hT).mono ?_
      rintro e w3 ⟨rfl, hB3⟩
      have R := Lib.hid (hBr.trans (hB3.mono hBr.size))
      clear hB3 hBr c0 c1 c2 c3 c4 hT hz
      go_wp2
      go_roundw
      case rel => exact ⟨.inr (.inr (.inr (.inr (⟨rfl, rfl⟩)))), R.out⟩
      case measure => simp [intOf]
    · have R := Lib.hid (HB1.out.trans (hBr.mono HB1.out.size))
      clear hBr hT
      go_wp2
      go_ret
      exact ⟨by rw [← HP.out]; rfl, R.out⟩

theorem iwrite_any (f n t u : Int) (s : ByteArray) (w : World) (hs : s.size ≤ maxLen) (hTab : Tab w) :
    Calls Tryd.prog 10 #[note f n t u s] w (StrPost w (nw f n t u s)) := by
  cases h : okN f n t u s with
  | true => rw [nw_t h]; exact iwrite_t f n t u s w h hTab
  | false => rw [nw_f h]; exact iwrite_f f n t u s w hs h
end Go.Proofs.YtekoghcgkmldgaaDoor.dc
