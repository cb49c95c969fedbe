/-
  Contract of impl.NoteOk.
-/
import Derived.Test.YtgihbilpimempabIOk0
import Derived.Test.YtgihbilpimempabSOk
import Derived.Test.YtgihbilpimempabFive
import Derived.Deep.RegionHeld3
import Derived.Lib.AtoiErrMem
namespace Go.Proofs.Ytgihbilpimempab.ok
open Go.ChangeShapes Go.WideShapes Go.ChangeAt Go.RowKit
open Go.Proofs.Ytgihbilpimempab.nb Go.Proofs.Ytgihbilpimempab.li Go.Proofs.Ytgihbilpimempab.wd

def lims (f n t u : Int) (s : ByteArray) : List L3 := [(f, 0, 3), (n, 1, 99), (t, 0, 3), (u, 1, 999), (s.size, 1, 24)]

theorem lims_all (f n t u : Int) (s : ByteArray) : (lims f n t u s).all fits = (inB f 0 3 && inB n 1 99 && inB t 0 3 && inB u 1 999 && okS s) := by
  have e : inB (s.size : Int) 1 24 = okS s := by
    unfold inB okS
    congr 1
    exact propext ⟨fun h => ⟨by omega, by omega⟩, fun h => ⟨by omega, by omega⟩⟩
  simp [lims, fits, e, Bool.and_assoc]
theorem lims_f {f n t u : Int} {s : ByteArray} (h : (lims f n t u s).all fits = false) : okN f n t u s = false := by
  rw [lims_all] at h
  unfold okN
  revert h
  cases inB f 0 3 <;> cases inB n 1 99 <;> cases inB t 0 3 <;> cases inB u 1 999 <;> cases okS s <;> simp
theorem lims_t {f n t u : Int} {s : ByteArray} (h : (lims f n t u s).all fits = true) : okN f n t u s = allPr s ∧ 1 ≤ s.size ∧ s.size ≤ 24 := by
  rw [lims_all] at h
  simp only [Bool.and_eq_true] at h
  obtain ⟨⟨⟨⟨a, b⟩, c⟩, d⟩, e⟩ := h
  exact ⟨okN_t a c b d e, of_decide_eq_true e⟩
theorem searchL5 (w : World) (g : Nat) (f n t u : Int) (s : ByteArray) (h : Blk w g 43 #[.int .i64 f, .int .i64 0, .int .i64 3, .int .i64 n, .int .i64 1, .int .i64 99, .int .i64 t, .int .i64 0, .int .i64 3, .int .i64 u, .int .i64 1, .int .i64 999, .int .i64 s.size, .int .i64 1, .int .i64 24]) :
    Calls Try.prog 38 #[.slice (some ⟨g, 0, none⟩) 5 5, .func (.func 22) #[] #[]] w (SearchPost w (!((lims f n t u s).all fits))) := by
  refine searchL w g 5 (lims f n t u s) ⟨h.lt, fun i x hx => ?_⟩ (by simp [lims])
  have hi : i < 5 := (List.getElem?_eq_some_iff.1 hx).1
  rw [h.cell, h.cell, h.cell]
  match i, hi with
  | 0, _ => simp [lims] at hx; subst hx; exact ⟨rfl, rfl, rfl⟩
  | 1, _ => simp [lims] at hx; subst hx; exact ⟨rfl, rfl, rfl⟩
  | 2, _ => simp [lims] at hx; subst hx; exact ⟨rfl, rfl, rfl⟩
  | 3, _ => simp [lims] at hx; subst hx; exact ⟨rfl, rfl, rfl⟩
  | 4, _ => simp [lims] at hx; subst hx; exact ⟨rfl, rfl, rfl⟩
set_option maxRecDepth 100000 in
set_option maxHeartbeats 1000000 in
theorem iok_any (f n t u : Int) (s : ByteArray) (w : World) (hs : s.size ≤ maxLen) :
    Calls Try.prog 56 #[note f n t u s] w (BoolPost w (okN f n t u s)) := by
  unfold note
  unfold maxLen at hs
  have hb := Blk.new w 56 #[.int .i64 f, .int .i64 n, .int .i64 t, .int .i64 u, .string s]
  have hB0 : Below w.heap.size w (w.alloc (.cells #[.int .i64 f, .int .i64 n, .int .i64 t, .int .i64 u, .string s] 56)) := (Below.refl _ _).alloc (Nat.le_refl _) _
  go_enter Try.func56, Try.ntmps56
  go_wp2_with fail
  generalize w.alloc (.cells #[.int .i64 f, .int .i64 n, .int .i64 t, .int .i64 u, .string s] 56) = W at hb hB0 ⊢
  obtain ⟨c0, c1, c2, c3, c4, hz⟩ := five hb
  go_region_held3 (fun w' => w'.cell? ⟨w.heap.size, 0, none⟩ = some (.int .i64 f) ∧ w'.cell? ⟨w.heap.size, 1, none⟩ = some (.int .i64 n) ∧ w'.cell? ⟨w.heap.size, 2, none⟩ = some (.int .i64 t) ∧ w'.cell? ⟨w.heap.size, 3, none⟩ = some (.int .i64 u) ∧ w'.cell? ⟨w.heap.size, 4, none⟩ = some (.string s)) (first | exact ⟨c0, c1, c2, c3, c4⟩ | exact ⟨s0, s1, s2, s3, s4⟩ | go_keep) (((first | (go_at_call 21; refine (limited_any _ _).mono ?_) | (go_at_call 61; refine (limNum_any _ _).mono ?_) | (go_at_call 62; refine (limUntil_any _ _).mono ?_)); rintro e w2 ⟨rfl, hB2⟩; first | (have hBa := hBa.trans (hB2.mono hBa.size); have s0 := (hB2.cell (p := ⟨w.heap.size, 0, none⟩) hz2).trans s0; have s1 := (hB2.cell (p := ⟨w.heap.size, 1, none⟩) hz2).trans s1; have s2 := (hB2.cell (p := ⟨w.heap.size, 2, none⟩) hz2).trans s2; have s3 := (hB2.cell (p := ⟨w.heap.size, 3, none⟩) hz2).trans s3; have s4 := (hB2.cell (p := ⟨w.heap.size, 4, none⟩) hz2).trans s4; have hz2 := Nat.lt_of_lt_of_le hz2 hB2.size) | (have hBa := hB2; have s0 := (hB2.cell (p := ⟨w.heap.size, 0, none⟩) hz).trans c0; have s1 := (hB2.cell (p := ⟨w.heap.size, 1, none⟩) hz).trans c1; have s2 := (hB2.cell (p := ⟨w.heap.size, 2, none⟩) hz).trans c2; have s3 := (hB2.cell (p := ⟨w.heap.size, 3, none⟩) hz).trans c3; have s4 := (hB2.cell (p := ⟨w.heap.size, 4, none⟩) hz).trans c4; have hz2 := Nat.lt_of_lt_of_le hz hB2.size)))
  have HB3 := Lib.hid (show Below w.heap.size w w2 from hB0.trans ((show Below W.heap.size W w2 from ⟨hBa.os, hBa.tape, hBa.output, hBa.size, hBa.block⟩).mono hB0.size))
  clear hB0 hBa hB2 c0 c1 c2 c3 c4 s0 s1 s2 s3 hb hz
  go_wp2_with fail
  refine (searchL5 _ _ f n t u s (Blk.new _ _ _)).mono ?_
  rintro e w4 ⟨i, rfl, hB4⟩
  have c4 := (hB4.cell (p := ⟨w.heap.size, 4, none⟩) (by simp; omega)).trans ((World.cell?_alloc_lt _ _ _ hz2).trans s4)
  have HB4 := Lib.hid (HB3.out.trans (((Below.refl w2.heap.size w2).alloc (Nat.le_refl _) _).trans (hB4.mono (by simp)) |>.mono HB3.out.size))
  clear hB4 s4
  cases hf : (lims f n t u s).all fits with
  | false =>
    have R := Lib.hid (lims_f hf)
    go_wp2
    go_ret
    exact ⟨ret_bool R.out.symm, HB4.out⟩
  | true =>
    obtain ⟨R, k0, k1⟩ := lims_t hf
    have R := Lib.hid R
    have hcv := Lib.run_convert_string_bytes (P := Try.prog) w4 9 90 5 s (u := .string) Try.underlying9 Try.underlying90 Try.underlying5
    have hrow : ByteRow (Lib.bytesWorld w4 5 s) w4.heap.size s := ⟨by rw [Lib.bytesWorld_size]; omega, fun i hi => by
      rw [Lib.bytesWorld_cell w4 _ s i hi]
      simp [List.getD, hi]
      rfl⟩
    have HB5 := Lib.hid (HB4.out.trans ((Lib.bytesWorld_below w4 5 s).mono HB4.out.size))
    generalize Lib.bytesWorld w4 5 s = w5 at hcv hrow HB5
    generalize grownCap w4 s.size 0 5 = cap at hcv
    clear hf HB4
    go_wp2_with fail
    clear hcv
    refine (searchB _ _ _ s hrow (by omega)).mono ?_
    rintro e w6 ⟨j, rfl, hB6⟩
    have HB6 := Lib.hid (HB5.out.trans (hB6.mono HB5.out.size))
    clear hB6 hrow
    go_wp2
    go_ret
    exact ⟨ret_bool (by rw [R.out]), HB6.out⟩
end Go.Proofs.Ytgihbilpimempab.ok
