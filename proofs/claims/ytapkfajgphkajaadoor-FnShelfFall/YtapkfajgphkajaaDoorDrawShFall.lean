/-
  Contract of spec.DrawShelfFall: whatever the code, a shelf whose log has at most 6000 bytes, and a number.
-/
import Derived.Test.YtapkfajgphkajaaDoorDrawShelf
namespace Go.Proofs.YtapkfajgphkajaaDoor.dr
open Go.ChangeShapes Go.WideShapes Go.ChangeAt Go.RowKit
open Go.Proofs.YtapkfajgphkajaaDoor.wd Go.Proofs.YtapkfajgphkajaaDoor.pk Go.Proofs.YtapkfajgphkajaaDoor.cp Go.Proofs.YtapkfajgphkajaaDoor.ow Go.Proofs.YtapkfajgphkajaaDoor.ok Go.Proofs.YtapkfajgphkajaaDoor.dc Go.Proofs.YtapkfajgphkajaaDoor.sh

def DrawnFall (w : World) (e : Ending) (w' : World) : Prop := ∃ (s : ByteArray) (f k : Int), e = .returned (.tuple #[shv s f, .int .i64 k]) ∧ s.size ≤ 6000 ∧ Below w.heap.size w w'
theorem arr5 (c : Int) {j : Int} (h0 : 0 ≤ j) (h1 : j < 5) : ∃ y : Int, (#[.int .i64 0, .int .i64 1, .int .i64 c, .int .i64 (-1), .int .i64 9223372036854775807] : Array Value)[j.toNat]? = some (.int .i64 y) := by
  have : j = 0 ∨ j = 1 ∨ j = 2 ∨ j = 3 ∨ j = 4 := by omega
  rcases this with rfl | rfl | rfl | rfl | rfl
  all_goals exact ⟨_, rfl⟩
/-- the result's block, the reader -/
structure Fl (w : World) (b : Nat) (A : Option Addr) (len cap : Nat) (W : World) (q : Int) : Prop where
  res : Blk W w.heap.size 24 #[.string ⟨#[]⟩, .int .i64 0]
  rd : Rd W b A len cap q
  bel : Below w.heap.size w W
  hb : w.heap.size < b
theorem Fl.grown {w W W' : World} {b : Nat} {A : Option Addr} {len cap : Nat} {q q' : Int} (h : Fl w b A len cap W q) (hG : W.grownBy W' (some b)) (hR : Rd W' b A len cap q') : Fl w b A len cap W' q' := by
  have := h.hb
  exact ⟨blk_grown h.res hG (by omega), hR, h.bel.trans (grown_below hG (by omega) h.bel.size), h.hb⟩
theorem Fl.alloc {w W : World} {b : Nat} {A : Option Addr} {len cap : Nat} {q : Int} (h : Fl w b A len cap W q) (o : Obj) : Fl w b A len cap (W.alloc o) q := by
  have := h.rd.1.lt
  exact ⟨h.res.alloc o, rd_later h.rd ((Below.refl _ _).alloc (by omega) o), h.bel.alloc h.bel.size o, h.hb⟩
theorem Fl.rdd {w W : World} {b : Nat} {A : Option Addr} {len cap : Nat} {q : Int} (h : Fl w b A len cap W q) : Rd W.drew b A len cap q := h.rd

theorem get_of {l : List Value} {n : Nat} {v : Value} (h : l.toArray[n]? = some v) (hlt : n < l.length) : l[n] = v := by
  rw [List.getElem?_toArray] at h
  exact (List.getElem?_eq_some_iff.1 h).2
theorem fl_alloc {w W : World} {x y : Value} {a b : Addr} (hs : w.heap.size ≤ W.heap.size) (h : Below w.heap.size w ((W.setCell a x).setCell b y)) (o : Obj) : Below w.heap.size w (((W.setCell a x).setCell b y).alloc o) := h.alloc (by simpa using hs) o

set_option maxRecDepth 100000 in
set_option maxHeartbeats 4000000 in
theorem drawShelfFall (w : World) (A : Option Addr) (len cap : Nat) (h : Bytes w w.heap.size A len) (hl : len ≤ cap) (hm : cap ≤ maxLen) :
    Calls Tryd.prog 19 #[.slice A len cap] w (DrawnFall w) := by
  have hB0 := (Below.refl w.heap.size w).alloc (Nat.le_refl _) (.cells #[.string ⟨#[]⟩, .int .i64 0] 24)
  have hZ0 := Blk.new w 24 #[.string ⟨#[]⟩, .int .i64 0]
  have h0 := Bytes_later h hB0
  clear h
  go_enter Tryd.func19, Tryd.ntmps19
  go_wp2_with fail
  generalize w.alloc (.cells #[.string ⟨#[]⟩, .int .i64 0] 24) = W0 at hB0 hZ0 h0 ⊢
  refine (open_any _ _ _ _ h0 hl hm).mono ?_
  rintro e w1 ⟨len1, cap1, rfl, hR, hB1, hz⟩
  have HF : Hid (Fl w W0.heap.size A len1 cap1 w1 0) := ⟨hZ0.below hB1 hZ0.lt, hR, hB0.trans (hB1.mono hB0.size), by have := hZ0.lt; omega⟩
  have HS1 := Lib.hid (shelf72 w1.drew W0.heap.size A len1 cap1 0 HF.out.rdd (by omega))
  clear hz hZ0 hB0 hB1 hR h0
  generalize W0.heap.size = b at HF HS1 ⊢
  go_wp2_with fail
  go_region_with ((first | (go_at_call 38; refine HS1.out.mono ?_; clear HS1; rintro e w2 ⟨s, f, p', rfl, hs, hp0, hp1, hR2, hG2⟩; have HF2 := Lib.hid (HF.out.grown (undrew hG2) hR2); have HP2 := Lib.hid (picked w2 b A len1 cap1 p' 60 hR2 (by omega) (by omega) (by omega)); clear hG2 hR2) | (go_at_call 45; refine HP2.out.mono ?_; clear HP2; rintro e w3 ⟨j, rfl, j0, j1, hR3, hO3⟩; have HF3 := Lib.hid (HF2.out.grown (only_grown hO3) hR3); have hl3 := HF3.out.res.lt; clear hR3 hO3) | (go_at_call 45; refine (picked _ b A len1 cap1 (p' + 1) 5 (by first | exact HF3.out.rd | exact (HF3.out.alloc _).rd) (by omega) (by omega) (by omega)).mono ?_; rintro e w4 ⟨j2, rfl, j3, j4, hR4, hO4⟩; have HF4 := Lib.hid ((show Fl w b A len1 cap1 _ (p' + 1) by first | exact HF3.out | exact HF3.out.alloc _).grown (only_grown hO4) hR4); have z0 := HF4.out.res.cell 0; have z1 := HF4.out.res.cell 1; have y0 := HF4.out.res.frozen 0; have y1 := HF4.out.res.frozen 1; have hl4 := HF4.out.res.lt; simp only [List.getElem?_toArray, List.getElem?_cons_zero, List.getElem?_cons_succ] at z0 z1; obtain ⟨y, hy⟩ := arr5 j j3 j4; first | (have hc4 := ((blk_only (Blk.new w3 3 #[.int .i64 0, .int .i64 1, .int .i64 j, .int .i64 (-1), .int .i64 9223372036854775807]) hO4 (by have := HF3.out.rd.1.lt; omega)).cell j2.toNat).trans hy) | (have hc4 := ((Blk.new w4 3 #[.int .i64 0, .int .i64 1, .int .i64 j, .int .i64 (-1), .int .i64 9223372036854775807]).cell j2.toNat).trans hy))))
  all_goals first
    | (have HC := Lib.hid (((HF4.out.res.put 0 (.string s)).put 1 (.int .i64 f)).alloc (.cells #[.int .i64 0, .int .i64 1, .int .i64 j, .int .i64 (-1), .int .i64 9223372036854775807] 3)); have HB := Lib.hid (fl_alloc HF4.out.bel.size ((HF4.out.bel.setCell (p := ⟨w.heap.size, 0, none⟩) (Nat.le_refl _) (.string s)).setCell (p := ⟨w.heap.size, 1, none⟩) (Nat.le_refl _) (.int .i64 f)) (.cells #[.int .i64 0, .int .i64 1, .int .i64 j, .int .i64 (-1), .int .i64 9223372036854775807] 3)); have HY := Lib.hid hy; clear z0 z1 y0 y1 hl4 hl3 hy hc4 HF4 HF3 HF2 HF; generalize ((w4.setCell ⟨w.heap.size, 0, none⟩ (.string s)).setCell ⟨w.heap.size, 1, none⟩ (.int .i64 f)).alloc (.cells #[.int .i64 0, .int .i64 1, .int .i64 j, .int .i64 (-1), .int .i64 9223372036854775807] 3) = W9 at HC HB ⊢; go_wp2; have x0 := HC.out.cell 0; have x1 := HC.out.cell 1; refine bodyPost_ret (w := W9) (v := .tuple #[shv s f, .int .i64 y]) ?_ rfl ⟨s, f, y, rfl, hs, HB.out⟩; first | (simp [results, Tryd.results19, go_sem, x0, x1]; done) | (simp [results, Tryd.results19, go_sem, x0, x1]; exact get_of HY.out _))
    | (have HC := Lib.hid (((HF4.out.alloc (.cells #[.int .i64 0, .int .i64 1, .int .i64 j, .int .i64 (-1), .int .i64 9223372036854775807] 3)).res.put 0 (.string s)).put 1 (.int .i64 f)); have HB := Lib.hid (((HF4.out.alloc (.cells #[.int .i64 0, .int .i64 1, .int .i64 j, .int .i64 (-1), .int .i64 9223372036854775807] 3)).bel.setCell (p := ⟨w.heap.size, 0, none⟩) (Nat.le_refl _) (.string s)).setCell (p := ⟨w.heap.size, 1, none⟩) (Nat.le_refl _) (.int .i64 f)); have HY := Lib.hid hy; clear z0 z1 y0 y1 hl4 hl3 hy hc4 HF4 HF3 HF2 HF; generalize ((w4.alloc (.cells #[.int .i64 0, .int .i64 1, .int .i64 j, .int .i64 (-1), .int .i64 9223372036854775807] 3)).setCell ⟨w.heap.size, 0, none⟩ (.string s)).setCell ⟨w.heap.size, 1, none⟩ (.int .i64 f) = W9 at HC HB ⊢; go_wp2; have x0 := HC.out.cell 0; have x1 := HC.out.cell 1; refine bodyPost_ret (w := W9) (v := .tuple #[shv s f, .int .i64 y]) ?_ rfl ⟨s, f, y, rfl, hs, HB.out⟩; first | (simp [results, Tryd.results19, go_sem, x0, x1]; done) | (simp [results, Tryd.results19, go_sem, x0, x1]; exact get_of HY.out _))
    | (have HC := Lib.hid ((HF4.out.res.put 0 (.string s)).put 1 (.int .i64 f)); have HB := Lib.hid ((HF4.out.bel.setCell (p := ⟨w.heap.size, 0, none⟩) (Nat.le_refl _) (.string s)).setCell (p := ⟨w.heap.size, 1, none⟩) (Nat.le_refl _) (.int .i64 f)); have HY := Lib.hid hy; clear z0 z1 y0 y1 hl4 hl3 hy hc4 HF4 HF3 HF2 HF; generalize (w4.setCell ⟨w.heap.size, 0, none⟩ (.string s)).setCell ⟨w.heap.size, 1, none⟩ (.int .i64 f) = W9 at HC HB ⊢; go_wp2; have x0 := HC.out.cell 0; have x1 := HC.out.cell 1; refine bodyPost_ret (w := W9) (v := .tuple #[shv s f, .int .i64 y]) ?_ rfl ⟨s, f, y, rfl, hs, HB.out⟩; first | (simp [results, Tryd.results19, go_sem, x0, x1]; done) | (simp [results, Tryd.results19, go_sem, x0, x1]; exact get_of HY.out _))
end Go.Proofs.YtapkfajgphkajaaDoor.dr
