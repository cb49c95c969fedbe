/-
  Merged texts: IKeep1.
-/
import Derived.Test.YtckicpnnclbkpaaGreatDoorE14
import Derived.Deep.CutRange
namespace Go.Proofs.YtckicpnnclbkpaaGreatDoor.kp
open Go.ChangeShapes Go.WideShapes Go.ChangeAt Go.RowKit
open wd ow rl ok nb nx li
abbrev kpC (k : Kp) (a b c : Value) : Array Value := #[.int .i64 k.id, .int .i64 k.time, .int .i64 k.next, a, b, c]
def iss (k : Kp) (f n : Int) : Bool := !(f == k.id && decide (k.next ≤ n))
set_option maxRecDepth 100000 in
set_option maxHeartbeats 1600000 in
theorem issued_any (g : Nat) (k : Kp) (a b c : Value) (w : World) (h : Blk w g 39 (kpC k a b c)) (f n u : Int) :
  Calls Tryz.prog 166 #[.pointer (some ⟨g, 0, none⟩), mark f n u] w (BoolK w (iss k f n)) := by
 have k1 := Blk.new w 108 #[.int .i64 f, .int .i64 n, .int .i64 u]
 have k2 := h.alloc (.cells #[.int .i64 f, .int .i64 n, .int .i64 u] 108)
 have hB0 := (Below.refl w.heap.size w).alloc (Nat.le_refl _) (.cells #[.int .i64 f, .int .i64 n, .int .i64 u] 108)
 unfold mark
 clear h
 go_enter Tryz.func166, Tryz.ntmps166
 go_wp2_with fail
 generalize w.alloc (.cells #[.int .i64 f, .int .i64 n, .int .i64 u] 108) = W at *
 obtain ⟨c0, c1, c2⟩ := qa.three k1
 obtain ⟨d0, d1, d2, d3, d4, d5⟩ := qa.six k2
 have HB := Lib.hid hB0
 clear k1 k2 hB0
 rcases Classical.em (f = k.id) with h1 | h1
 ·have e1 : (f == k.id) = true := by simpa using h1
  have e2 : (f != k.id) = false := by simpa using h1
  rcases Classical.em (n < k.next) with h2 | h2
  ·have HE := Lib.hid (show true = iss k f n by unfold iss; rw [e1, decide_eq_false (by omega)]; rfl)
   clear h1
   refine qa.region (by kernel_rfl) (by kernel_rfl) ?_
   repeat (go_big_quiet_step (fail))
   refine wpQuiet_nil ?_
   rintro _ ⟨p, rfl⟩
   have HB2 := Lib.hid (HB.out.trans (p.h.mono HB.out.size))
   clear c0 c1 c2 d0 d1 d2 d3 d4 d5
   go_wp2
   go_ret
   exact ⟨nb.ret_bool HE.out, HB2.out⟩
  ·have HE := Lib.hid (show false = iss k f n by unfold iss; rw [e1, decide_eq_true (by omega)]; rfl)
   clear h1
   refine qa.region (by kernel_rfl) (by kernel_rfl) ?_
   repeat (go_big_quiet_step (fail))
   refine wpQuiet_nil ?_
   rintro _ ⟨p, rfl⟩
   have HB2 := Lib.hid (HB.out.trans (p.h.mono HB.out.size))
   clear c0 c1 c2 d0 d1 d2 d3 d4 d5
   go_wp2
   go_ret
   exact ⟨nb.ret_bool HE.out, HB2.out⟩
 ·have e1 : (f == k.id) = false := by simpa using h1
  have e2 : (f != k.id) = true := by simpa using h1
  have HE := Lib.hid (show true = iss k f n by unfold iss; rw [e1]; rfl)
  clear h1
  refine qa.region (by kernel_rfl) (by kernel_rfl) ?_
  repeat (go_big_quiet_step (fail))
  refine wpQuiet_nil ?_
  rintro _ ⟨p, rfl⟩
  have HB2 := Lib.hid (HB.out.trans (p.h.mono HB.out.size))
  clear c0 c1 c2 d0 d1 d2 d3 d4 d5
  go_wp2
  go_ret
  exact ⟨nb.ret_bool HE.out, HB2.out⟩
theorem way_up {x : Nt} {id : Int} (h : x.f ≤ x.t) : (inB id x.f x.t && !(id == x.t)) = way x id := by
 rw [Bool.eq_iff_iff]
 simp [inB, way]
 omega
theorem way_down {x : Nt} {id : Int} (h : x.t ≤ x.f) : (inB id x.t x.f && !(id == x.t)) = way x id := by
 rw [Bool.eq_iff_iff]
 simp [inB, way]
 omega
set_option maxRecDepth 100000 in
set_option maxHeartbeats 800000 in
theorem onway_any (g : Nat) (k : Kp) (a b c : Value) (w : World) (h : Blk w g 39 (kpC k a b c)) (x : Nt) :
  Calls Tryz.prog 168 #[.pointer (some ⟨g, 0, none⟩), note x.f x.n x.t x.u x.s] w (BoolK w (way x k.id)) := by
 have k1 := Blk.new w 105 #[.int .i64 x.f, .int .i64 x.n, .int .i64 x.t, .int .i64 x.u, .string x.s]
 have k2 := h.alloc (.cells #[.int .i64 x.f, .int .i64 x.n, .int .i64 x.t, .int .i64 x.u, .string x.s] 105)
 have hB0 := (Below.refl w.heap.size w).alloc (Nat.le_refl _) (.cells #[.int .i64 x.f, .int .i64 x.n, .int .i64 x.t, .int .i64 x.u, .string x.s] 105)
 unfold note
 clear h
 go_enter Tryz.func168, Tryz.ntmps168
 go_wp2_with fail
 generalize w.alloc (.cells #[.int .i64 x.f, .int .i64 x.n, .int .i64 x.t, .int .i64 x.u, .string x.s] 105) = W at *
 have c0 : W.cell? ⟨w.heap.size, 0, none⟩ = some (.int .i64 x.f) := k1.cell 0
 have c2 : W.cell? ⟨w.heap.size, 2, none⟩ = some (.int .i64 x.t) := k1.cell 2
 have d0 : W.cell? ⟨g, 0, none⟩ = some (.int .i64 k.id) := k2.cell 0
 have K1 := Lib.hid k1
 have K2 := Lib.hid k2
 have HB := Lib.hid hB0
 clear k1 k2 hB0
 have hz1 := K1.out.lt
 have hz2 := K2.out.lt
 rcases Int.lt_or_le x.t x.f with h | h
 ·have h2 : ¬ x.f < x.t := by omega
  have HE := Lib.hid (show (inB k.id x.t x.f && !(k.id == x.t)) = way x k.id from way_down (by omega))
  go_cut [5] from 6 to 32 (fun p wx => p = .pointer (some ⟨W.heap.size, 0, none⟩) ∧ wx = (W.alloc (.cells #[.int .i64 k.id, .int .i64 x.t, .int .i64 x.f] 167)).drew)
  case first =>
   go_region_held3 (fun w' => w'.cell? ⟨w.heap.size, 0, none⟩ = some (.int .i64 x.f) ∧ w'.cell? ⟨w.heap.size, 2, none⟩ = some (.int .i64 x.t) ∧ w'.cell? ⟨g, 0, none⟩ = some (.int .i64 k.id)) (first | exact ⟨c0, c2, d0⟩ | go_keep) (fail)
   all_goals (go_wp2_with fail; go_meet; first | exact ⟨rfl, rfl⟩ | exact ⟨rfl, by rw [show min x.f x.t = x.t by omega, show max x.f x.t = x.f by omega]⟩)
  case rest =>
  obtain ⟨rfl, rfl⟩ := hcut
  have k3 := Blk.new W 167 #[.int .i64 k.id, .int .i64 x.t, .int .i64 x.f]
  have k4 := K1.out.alloc (.cells #[.int .i64 k.id, .int .i64 x.t, .int .i64 x.f] 167)
  have k5 := K2.out.alloc (.cells #[.int .i64 k.id, .int .i64 x.t, .int .i64 x.f] 167)
  have hB3 := HB.out.alloc HB.out.size (.cells #[.int .i64 k.id, .int .i64 x.t, .int .i64 x.f] 167)
  clear c0 c2 d0 K1 K2 HB hz1 hz2 h
  go_wp2_with fail
  generalize W.heap.size = g3 at k3 ⊢
  generalize W.alloc (.cells #[.int .i64 k.id, .int .i64 x.t, .int .i64 x.f] 167) = V at *
  have k3 := k3.drewN 1
  have k4 := k4.drewN 1
  have k5 := k5.drewN 1
  have hB3 := hB3.drew
  change Blk V.drew _ _ _ at k3 k4 k5
  generalize V.drew = U at *
  obtain ⟨c0, c1, c2⟩ := qa.three k3
  obtain ⟨_, _, d2, _, _⟩ := qa.five k4
  obtain ⟨b0, _, _, _, _, _⟩ := qa.six k5
  have HB := Lib.hid hB3
  clear k3 k4 k5 hB3
  rcases Classical.em (k.id = x.t) with h1 | h1
  ·have e2 : (k.id != x.t) = false := by simpa using h1
   have HR := Lib.hid (show false = way x k.id by rw [← HE.out, show (k.id == x.t) = true by simpa using h1]; simp)
   clear h1
   refine qa.region (by kernel_rfl) (by kernel_rfl) ?_
   repeat (go_big_quiet_step (fail))
   refine wpQuiet_nil ?_
   rintro _ ⟨p, rfl⟩
   have HB2 := Lib.hid (HB.out.trans (p.h.mono HB.out.size))
   clear c0 c1 c2 d2 b0
   go_wp2
   go_ret
   exact ⟨nb.ret_bool HR.out, HB2.out⟩
  ·have e2 : (k.id != x.t) = true := by simpa using h1
   have HR := Lib.hid (show inB k.id x.t x.f = way x k.id by rw [← HE.out, show (k.id == x.t) = false by simpa using h1]; simp)
   clear h1
   refine qa.region (by kernel_rfl) (by kernel_rfl) ?_
   repeat (go_big_quiet_step ((go_at_call 125; exact qa.of_below (outside_any _ _ _ _))))
   refine wpQuiet_nil ?_
   rintro _ ⟨p, rfl⟩
   have HB2 := Lib.hid (HB.out.trans (p.h.mono HB.out.size))
   clear c0 c1 c2 d2 b0
   go_wp2
   go_ret
   exact ⟨nb.ret_bool (by rw [← HR.out]), HB2.out⟩
 rcases Int.lt_or_le x.f x.t with h2 | h2
 ·have h3 : ¬ x.t < x.f := by omega
  have HE := Lib.hid (show (inB k.id x.f x.t && !(k.id == x.t)) = way x k.id from way_up (by omega))
  go_cut [5] from 6 to 32 (fun p wx => p = .pointer (some ⟨W.heap.size, 0, none⟩) ∧ wx = (W.alloc (.cells #[.int .i64 k.id, .int .i64 x.f, .int .i64 x.t] 167)).drew)
  case first =>
   go_region_held3 (fun w' => w'.cell? ⟨w.heap.size, 0, none⟩ = some (.int .i64 x.f) ∧ w'.cell? ⟨w.heap.size, 2, none⟩ = some (.int .i64 x.t) ∧ w'.cell? ⟨g, 0, none⟩ = some (.int .i64 k.id)) (first | exact ⟨c0, c2, d0⟩ | go_keep) (fail)
   all_goals (go_wp2_with fail; go_meet; first | exact ⟨rfl, rfl⟩ | exact ⟨rfl, by rw [show min x.f x.t = x.f by omega, show max x.f x.t = x.t by omega]⟩)
  case rest =>
  obtain ⟨rfl, rfl⟩ := hcut
  have k3 := Blk.new W 167 #[.int .i64 k.id, .int .i64 x.f, .int .i64 x.t]
  have k4 := K1.out.alloc (.cells #[.int .i64 k.id, .int .i64 x.f, .int .i64 x.t] 167)
  have k5 := K2.out.alloc (.cells #[.int .i64 k.id, .int .i64 x.f, .int .i64 x.t] 167)
  have hB3 := HB.out.alloc HB.out.size (.cells #[.int .i64 k.id, .int .i64 x.f, .int .i64 x.t] 167)
  clear c0 c2 d0 K1 K2 HB hz1 hz2 h h2 h3
  go_wp2_with fail
  generalize W.heap.size = g3 at k3 ⊢
  generalize W.alloc (.cells #[.int .i64 k.id, .int .i64 x.f, .int .i64 x.t] 167) = V at *
  have k3 := k3.drewN 1
  have k4 := k4.drewN 1
  have k5 := k5.drewN 1
  have hB3 := hB3.drew
  change Blk V.drew _ _ _ at k3 k4 k5
  generalize V.drew = U at *
  obtain ⟨c0, c1, c2⟩ := qa.three k3
  obtain ⟨_, _, d2, _, _⟩ := qa.five k4
  obtain ⟨b0, _, _, _, _, _⟩ := qa.six k5
  have HB := Lib.hid hB3
  clear k3 k4 k5 hB3
  rcases Classical.em (k.id = x.t) with h1 | h1
  ·have e2 : (k.id != x.t) = false := by simpa using h1
   have HR := Lib.hid (show false = way x k.id by rw [← HE.out, show (k.id == x.t) = true by simpa using h1]; simp)
   clear h1
   refine qa.region (by kernel_rfl) (by kernel_rfl) ?_
   repeat (go_big_quiet_step (fail))
   refine wpQuiet_nil ?_
   rintro _ ⟨p, rfl⟩
   have HB2 := Lib.hid (HB.out.trans (p.h.mono HB.out.size))
   clear c0 c1 c2 d2 b0
   go_wp2
   go_ret
   exact ⟨nb.ret_bool HR.out, HB2.out⟩
  ·have e2 : (k.id != x.t) = true := by simpa using h1
   have HR := Lib.hid (show inB k.id x.f x.t = way x k.id by rw [← HE.out, show (k.id == x.t) = false by simpa using h1]; simp)
   clear h1
   refine qa.region (by kernel_rfl) (by kernel_rfl) ?_
   repeat (go_big_quiet_step ((go_at_call 125; exact qa.of_below (outside_any _ _ _ _))))
   refine wpQuiet_nil ?_
   rintro _ ⟨p, rfl⟩
   have HB2 := Lib.hid (HB.out.trans (p.h.mono HB.out.size))
   clear c0 c1 c2 d2 b0
   go_wp2
   go_ret
   exact ⟨nb.ret_bool (by rw [← HR.out]), HB2.out⟩
 ·have h3 : ¬ x.t < x.f := by omega
  have h4 : ¬ x.f < x.t := by omega
  have HE := Lib.hid (show (inB k.id x.f x.f && !(k.id == x.t)) = way x k.id from by have := way_up (x := x) (id := k.id) (by omega); rw [show inB k.id x.f x.f = inB k.id x.f x.t by rw [show x.t = x.f by omega]]; exact this)
  go_cut [5] from 6 to 32 (fun p wx => p = .pointer (some ⟨W.heap.size, 0, none⟩) ∧ wx = (W.alloc (.cells #[.int .i64 k.id, .int .i64 x.f, .int .i64 x.f] 167)).drew)
  case first =>
   go_region_held3 (fun w' => w'.cell? ⟨w.heap.size, 0, none⟩ = some (.int .i64 x.f) ∧ w'.cell? ⟨w.heap.size, 2, none⟩ = some (.int .i64 x.t) ∧ w'.cell? ⟨g, 0, none⟩ = some (.int .i64 k.id)) (first | exact ⟨c0, c2, d0⟩ | go_keep) (fail)
   all_goals (go_wp2_with fail; go_meet; first | exact ⟨rfl, rfl⟩ | exact ⟨rfl, by rw [show min x.f x.t = x.f by omega, show max x.f x.t = x.f by omega]⟩)
  case rest =>
  obtain ⟨rfl, rfl⟩ := hcut
  have k3 := Blk.new W 167 #[.int .i64 k.id, .int .i64 x.f, .int .i64 x.f]
  have k4 := K1.out.alloc (.cells #[.int .i64 k.id, .int .i64 x.f, .int .i64 x.f] 167)
  have k5 := K2.out.alloc (.cells #[.int .i64 k.id, .int .i64 x.f, .int .i64 x.f] 167)
  have hB3 := HB.out.alloc HB.out.size (.cells #[.int .i64 k.id, .int .i64 x.f, .int .i64 x.f] 167)
  clear c0 c2 d0 K1 K2 HB hz1 hz2 h h2 h3 h4
  go_wp2_with fail
  generalize W.heap.size = g3 at k3 ⊢
  generalize W.alloc (.cells #[.int .i64 k.id, .int .i64 x.f, .int .i64 x.f] 167) = V at *
  have k3 := k3.drewN 1
  have k4 := k4.drewN 1
  have k5 := k5.drewN 1
  have hB3 := hB3.drew
  change Blk V.drew _ _ _ at k3 k4 k5
  generalize V.drew = U at *
  obtain ⟨c0, c1, c2⟩ := qa.three k3
  obtain ⟨_, _, d2, _, _⟩ := qa.five k4
  obtain ⟨b0, _, _, _, _, _⟩ := qa.six k5
  have HB := Lib.hid hB3
  clear k3 k4 k5 hB3
  rcases Classical.em (k.id = x.t) with h1 | h1
  ·have e2 : (k.id != x.t) = false := by simpa using h1
   have HR := Lib.hid (show false = way x k.id by rw [← HE.out, show (k.id == x.t) = true by simpa using h1]; simp)
   clear h1
   refine qa.region (by kernel_rfl) (by kernel_rfl) ?_
   repeat (go_big_quiet_step (fail))
   refine wpQuiet_nil ?_
   rintro _ ⟨p, rfl⟩
   have HB2 := Lib.hid (HB.out.trans (p.h.mono HB.out.size))
   clear c0 c1 c2 d2 b0
   go_wp2
   go_ret
   exact ⟨nb.ret_bool HR.out, HB2.out⟩
  ·have e2 : (k.id != x.t) = true := by simpa using h1
   have HR := Lib.hid (show inB k.id x.f x.f = way x k.id by rw [← HE.out, show (k.id == x.t) = false by simpa using h1]; simp)
   clear h1
   refine qa.region (by kernel_rfl) (by kernel_rfl) ?_
   repeat (go_big_quiet_step ((go_at_call 125; exact qa.of_below (outside_any _ _ _ _))))
   refine wpQuiet_nil ?_
   rintro _ ⟨p, rfl⟩
   have HB2 := Lib.hid (HB.out.trans (p.h.mono HB.out.size))
   clear c0 c1 c2 d2 b0
   go_wp2
   go_ret
   exact ⟨nb.ret_bool (by rw [← HR.out]), HB2.out⟩
end Go.Proofs.YtckicpnnclbkpaaGreatDoor.kp

