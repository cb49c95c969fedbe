/-
  Contract of spec.NoteWrite.
-/
import Derived.Test.YtekoghcgkmldgaaDoorDec
import Derived.Test.YtekoghcgkmldgaaDoorSOk
import Derived.Test.YtekoghcgkmldgaaDoorFive
import Derived.Deep.RegionHeld3
import Derived.Deep.RegionWith
namespace Go.Proofs.YtekoghcgkmldgaaDoor.dc
open Go.ChangeShapes Go.WideShapes Go.ChangeAt Go.RowKit
open Go.Proofs.YtekoghcgkmldgaaDoor.nb Go.Proofs.YtekoghcgkmldgaaDoor.ok Go.Proofs.YtekoghcgkmldgaaDoor.wd

/-- a sum of two short strings -/
theorem adds (a b : ByteArray) (h : a.size + b.size ≤ 1000000000) : ∃ c : ByteArray, c = a ++ b ∧ c.size = a.size + b.size ∧ ∀ W : World, (Op.stringOp .add a b).run Tryd.prog W = .ok (.string c) W :=
  ⟨a ++ b, rfl, by simp, fun W => run_string_add_sum W a b (by omega)⟩

theorem wr_cat (f n t u : Int) (s : ByteArray) : (((((((str (dl f) ++ str [32]) ++ str (dl n)) ++ str [32]) ++ str (dl t)) ++ str [32]) ++ str (dl u)) ++ str [32]) ++ s = wr f n t u s := by
  unfold wr wl
  rw [← str_data s]
  simp only [str_app, data_str]
  congr 1
  simp

theorem swrite_f (f n t u : Int) (s : ByteArray) (w : World) (hs : s.size ≤ maxLen) (h : okN f n t u s = false) :
    Calls Tryd.prog 8 #[note f n t u s] w (StrPost w (str [])) := by
  unfold note
  go_enter Tryd.func8, Tryd.ntmps8
  go_wp2_with fail
  refine (sok_any f n t u s _ hs).mono ?_
  rintro e w1 ⟨rfl, hB1⟩
  have HB := Lib.hid (((Below.refl w.heap.size w).alloc (Nat.le_refl _) _).trans (hB1.mono (by simp)))
  clear hB1
  rw [h]
  go_wp2
  go_ret
  exact ⟨rfl, HB.out⟩

set_option maxRecDepth 100000 in
set_option maxHeartbeats 1000000 in
theorem swrite_t (f n t u : Int) (s : ByteArray) (w : World) (h : okN f n t u s = true) :
    Calls Tryd.prog 8 #[note f n t u s] w (StrPost w (wr f n t u s)) := by
  obtain ⟨⟨f0, f1⟩, ⟨n0, n1⟩, ⟨t0, t1⟩, ⟨u0, u1⟩, ⟨z0, z1⟩, _⟩ := okN_parts h
  have HD0 := Lib.hid (fun W => dec_any f f0 (by omega) W)
  have HD1 := Lib.hid (fun W => dec_any n (by omega) (by omega) W)
  have HD2 := Lib.hid (fun W => dec_any t t0 (by omega) W)
  have HD3 := Lib.hid (fun W => dec_any u (by omega) (by omega) W)
  have l0 : (str (dl f)).size ≤ 3 := by rw [str_size]; exact (dl_len (by omega)).2
  have l1 : (str (dl n)).size ≤ 3 := by rw [str_size]; exact (dl_len (by omega)).2
  have l2 : (str (dl t)).size ≤ 3 := by rw [str_size]; exact (dl_len (by omega)).2
  have l3 : (str (dl u)).size ≤ 3 := by rw [str_size]; exact (dl_len (by omega)).2
  have HW := Lib.hid (wr_cat f n t u s)
  have lb : (⟨#[32]⟩ : ByteArray).size = 1 := rfl
  generalize str (dl f) = D0 at HD0 l0 HW
  generalize str (dl n) = D1 at HD1 l1 HW
  generalize str (dl t) = D2 at HD2 l2 HW
  generalize str (dl u) = D3 at HD3 l3 HW
  obtain ⟨p1, e1, q1, r1⟩ := adds D0 ⟨#[32]⟩ (by omega)
  obtain ⟨p2, e2, q2, r2⟩ := adds p1 D1 (by omega)
  obtain ⟨p3, e3, q3, r3⟩ := adds p2 ⟨#[32]⟩ (by omega)
  obtain ⟨p4, e4, q4, r4⟩ := adds p3 D2 (by omega)
  obtain ⟨p5, e5, q5, r5⟩ := adds p4 ⟨#[32]⟩ (by omega)
  obtain ⟨p6, e6, q6, r6⟩ := adds p5 D3 (by omega)
  obtain ⟨p7, e7, q7, r7⟩ := adds p6 ⟨#[32]⟩ (by omega)
  obtain ⟨p8, e8, q8, r8⟩ := adds p7 s (by omega)
  have HP : Hid (p8 = wr f n t u s) := by rw [e8, e7, e6, e5, e4, e3, e2, e1]; exact HW.out
  clear e1 e2 e3 e4 e5 e6 e7 e8 q1 q2 q3 q4 q5 q6 q7 q8 HW l0 l1 l2 l3 lb
  have hs : s.size ≤ maxLen := by unfold maxLen; omega
  unfold note
  have hb := Blk.new w 24 #[.int .i64 f, .int .i64 n, .int .i64 t, .int .i64 u, .string s]
  have hB0 : Below w.heap.size w (w.alloc (.cells #[.int .i64 f, .int .i64 n, .int .i64 t, .int .i64 u, .string s] 24)) := (Below.refl _ _).alloc (Nat.le_refl _) _
  go_enter Tryd.func8, Tryd.ntmps8
  go_wp2_with fail
  generalize w.alloc (.cells #[.int .i64 f, .int .i64 n, .int .i64 t, .int .i64 u, .string s] 24) = W0 at hb hB0 ⊢
  refine (sok_any f n t u s _ hs).mono ?_
  rintro e W ⟨rfl, hB1⟩
  have hbW := hb.below hB1 hb.lt
  have hBW := hB0.trans (hB1.mono hB0.size)
  rw [h]
  clear hb hB0 hB1 h hs
  obtain ⟨c0, c1, c2, c3, c4, hz⟩ := five hbW
  clear hbW
  go_wp2_with fail
  go_region_held3 (fun w' => w'.cell? ⟨w.heap.size, 0, none⟩ = some (.int .i64 f) ∧ w'.cell? ⟨w.heap.size, 1, none⟩ = some (.int .i64 n) ∧ w'.cell? ⟨w.heap.size, 2, none⟩ = some (.int .i64 t) ∧ w'.cell? ⟨w.heap.size, 3, none⟩ = some (.int .i64 u) ∧ w'.cell? ⟨w.heap.size, 4, none⟩ = some (.string s)) (first | exact ⟨c0, c1, c2, c3, c4⟩ | exact ⟨s0, s1, s2, s3, s4⟩ | go_keep) (first | (go_at_call_of 20 f; refine (HD0.out _).mono ?_; rintro e w2 ⟨rfl, hB2⟩; first | (have hBa := hBa.trans (hB2.mono hBa.size); have s0 := (hB2.cell (p := ⟨w.heap.size, 0, none⟩) hz2).trans s0; have s1 := (hB2.cell (p := ⟨w.heap.size, 1, none⟩) hz2).trans s1; have s2 := (hB2.cell (p := ⟨w.heap.size, 2, none⟩) hz2).trans s2; have s3 := (hB2.cell (p := ⟨w.heap.size, 3, none⟩) hz2).trans s3; have s4 := (hB2.cell (p := ⟨w.heap.size, 4, none⟩) hz2).trans s4; have hz2 := Nat.lt_of_lt_of_le hz2 hB2.size) | (have hBa := hB2; have s0 := (hB2.cell (p := ⟨w.heap.size, 0, none⟩) hz).trans c0; have s1 := (hB2.cell (p := ⟨w.heap.size, 1, none⟩) hz).trans c1; have s2 := (hB2.cell (p := ⟨w.heap.size, 2, none⟩) hz).trans c2; have s3 := (hB2.cell (p := ⟨w.heap.size, 3, none⟩) hz).trans c3; have s4 := (hB2.cell (p := ⟨w.heap.size, 4, none⟩) hz).trans c4; have hz2 := Nat.lt_of_lt_of_le hz hB2.size)) | (go_at_call_of 20 n; refine (HD1.out _).mono ?_; rintro e w2 ⟨rfl, hB2⟩; first | (have hBa := hBa.trans (hB2.mono hBa.size); have s0 := (hB2.cell (p := ⟨w.heap.size, 0, none⟩) hz2).trans s0; have s1 := (hB2.cell (p := ⟨w.heap.size, 1, none⟩) hz2).trans s1; have s2 := (hB2.cell (p := ⟨w.heap.size, 2, none⟩) hz2).trans s2; have s3 := (hB2.cell (p := ⟨w.heap.size, 3, none⟩) hz2).trans s3; have s4 := (hB2.cell (p := ⟨w.heap.size, 4, none⟩) hz2).trans s4; have hz2 := Nat.lt_of_lt_of_le hz2 hB2.size) | (have hBa := hB2; have s0 := (hB2.cell (p := ⟨w.heap.size, 0, none⟩) hz).trans c0; have s1 := (hB2.cell (p := ⟨w.heap.size, 1, none⟩) hz).trans c1; have s2 := (hB2.cell (p := ⟨w.heap.size, 2, none⟩) hz).trans c2; have s3 := (hB2.cell (p := ⟨w.heap.size, 3, none⟩) hz).trans c3; have s4 := (hB2.cell (p := ⟨w.heap.size, 4, none⟩) hz).trans c4; have hz2 := Nat.lt_of_lt_of_le hz hB2.size)) | (go_at_call_of 20 t; refine (HD2.out _).mono ?_; rintro e w2 ⟨rfl, hB2⟩; first | (have hBa := hBa.trans (hB2.mono hBa.size); have s0 := (hB2.cell (p := ⟨w.heap.size, 0, none⟩) hz2).trans s0; have s1 := (hB2.cell (p := ⟨w.heap.size, 1, none⟩) hz2).trans s1; have s2 := (hB2.cell (p := ⟨w.heap.size, 2, none⟩) hz2).trans s2; have s3 := (hB2.cell (p := ⟨w.heap.size, 3, none⟩) hz2).trans s3; have s4 := (hB2.cell (p := ⟨w.heap.size, 4, none⟩) hz2).trans s4; have hz2 := Nat.lt_of_lt_of_le hz2 hB2.size) | (have hBa := hB2; have s0 := (hB2.cell (p := ⟨w.heap.size, 0, none⟩) hz).trans c0; have s1 := (hB2.cell (p := ⟨w.heap.size, 1, none⟩) hz).trans c1; have s2 := (hB2.cell (p := ⟨w.heap.size, 2, none⟩) hz).trans c2; have s3 := (hB2.cell (p := ⟨w.heap.size, 3, none⟩) hz).trans c3; have s4 := (hB2.cell (p := ⟨w.heap.size, 4, none⟩) hz).trans c4; have hz2 := Nat.lt_of_lt_of_le hz hB2.size)) | (go_at_call_of 20 u; refine (HD3.out _).mono ?_; rintro e w2 ⟨rfl, hB2⟩; first | (have hBa := hBa.trans (hB2.mono hBa.size); have s0 := (hB2.cell (p := ⟨w.heap.size, 0, none⟩) hz2).trans s0; have s1 := (hB2.cell (p := ⟨w.heap.size, 1, none⟩) hz2).trans s1; have s2 := (hB2.cell (p := ⟨w.heap.size, 2, none⟩) hz2).trans s2; have s3 := (hB2.cell (p := ⟨w.heap.size, 3, none⟩) hz2).trans s3; have s4 := (hB2.cell (p := ⟨w.heap.size, 4, none⟩) hz2).trans s4; have hz2 := Nat.lt_of_lt_of_le hz2 hB2.size) | (have hBa := hB2; have s0 := (hB2.cell (p := ⟨w.heap.size, 0, none⟩) hz).trans c0; have s1 := (hB2.cell (p := ⟨w.heap.size, 1, none⟩) hz).trans c1; have s2 := (hB2.cell (p := ⟨w.heap.size, 2, none⟩) hz).trans c2; have s3 := (hB2.cell (p := ⟨w.heap.size, 3, none⟩) hz).trans c3; have s4 := (hB2.cell (p := ⟨w.heap.size, 4, none⟩) hz).trans c4; have hz2 := Nat.lt_of_lt_of_le hz hB2.size)))
  have HB := Lib.hid (show Below w.heap.size w w2 from hBW.trans ((show Below W.heap.size W w2 from ⟨hBa.os, hBa.tape, hBa.output, hBa.size, hBa.block⟩).mono hBW.size))
  clear hBa hBW hB2 s0 s1 s2 s3 s4 c0 c1 c2 c3 c4
  go_wp2
  go_ret
  exact ⟨by rw [← HP.out]; rfl, HB.out⟩

theorem swrite_any (f n t u : Int) (s : ByteArray) (w : World) (hs : s.size ≤ maxLen) :
    Calls Tryd.prog 8 #[note f n t u s] w (StrPost w (nw f n t u s)) := by
  cases h : okN f n t u s with
  | true => rw [nw_t h]; exact swrite_t f n t u s w h
  | false => rw [nw_f h]; exact swrite_f f n t u s w hs h
end Go.Proofs.YtekoghcgkmldgaaDoor.dc
