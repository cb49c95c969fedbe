/-
  Merged texts: IKeep3.
-/
import Derived.Test.YtckicpnnclbkpaaGreatDoorE27
namespace Go.Proofs.YtckicpnnclbkpaaGreatDoor.kp
open Go.ChangeShapes Go.WideShapes Go.ChangeAt Go.RowKit
open wd ow rl ok nb nx li
theorem mark_parts (k : Kp) (x : Mk) : (inB x.f 0 3 = false ∧ false = (okMk x && markOk k x)) ∨ (inB x.f 0 3 = true ∧ inB x.n 1 99 = false ∧ false = (okMk x && markOk k x)) ∨ (inB x.f 0 3 = true ∧ inB x.n 1 99 = true ∧ inB x.u 1 999 = false ∧ false = (okMk x && markOk k x)) ∨
  (inB x.f 0 3 = true ∧ inB x.n 1 99 = true ∧ inB x.u 1 999 = true ∧ ¬ k.time < x.u ∧ false = (okMk x && markOk k x)) ∨ (inB x.f 0 3 = true ∧ inB x.n 1 99 = true ∧ inB x.u 1 999 = true ∧ k.time < x.u ∧ iss k x.f x.n = (okMk x && markOk k x)) := by
 unfold markOk okMk
 rw [show (!(x.f == k.id && decide (k.next ≤ x.n))) = iss k x.f x.n from rfl]
 by_cases h : k.time < x.u <;> cases inB x.f 0 3 <;> cases inB x.n 1 99 <;> cases inB x.u 1 999 <;> simp [h]
set_option maxRecDepth 100000 in
set_option maxHeartbeats 4000000 in
theorem may_mark (g : Nat) (k : Kp) (a b c : Value) (w : World) (h : Blk w g 39 (kpC k a b c)) (x : Mk) :
  Calls Tryz.prog 137 #[.pointer (some ⟨g, 0, none⟩), mark x.f x.n x.u] w (BoolK w (okMk x && markOk k x)) := by
 have k1 := Blk.new w 108 #[.int .i64 x.f, .int .i64 x.n, .int .i64 x.u]
 have k2 := h.alloc (.cells #[.int .i64 x.f, .int .i64 x.n, .int .i64 x.u] 108)
 have hB0 := (Below.refl w.heap.size w).alloc (Nat.le_refl _) (.cells #[.int .i64 x.f, .int .i64 x.n, .int .i64 x.u] 108)
 unfold mark at *
 clear h
 go_enter Tryz.func137, Tryz.ntmps137
 go_wp2_with fail
 generalize w.alloc (.cells #[.int .i64 x.f, .int .i64 x.n, .int .i64 x.u] 108) = W at *
 have K1 := Lib.hid k1
 have K2 := Lib.hid k2
 have HB0 := Lib.hid hB0
 clear k1 k2 hB0
 refine (limited_any x.f _).mono ?_
 rintro e w1 ⟨rfl, hB1⟩
 go_wp2_with fail
 refine (outside_any x.f 0 3 _).mono ?_
 rintro e w2 ⟨rfl, hB2⟩
 have hW2 := hB1.trans (hB2.mono hB1.size)
 have hP2 := K1.out.below hW2 K1.out.lt
 obtain ⟨c0, c1, c2, _⟩ := three hP2
 have HP2 := Lib.hid hP2
 have HW2 := Lib.hid hW2
 clear hB1 hB2 hP2 hW2
 rcases mark_parts k x with ⟨h1, hE⟩ | ⟨h1, h2, hE⟩ | ⟨h1, h2, h3, hE⟩ | ⟨h1, h2, h3, h4, hE⟩ | ⟨h1, h2, h3, h4, hE⟩
 ·have HE := Lib.hid hE
  rw [h1]
  have HB := Lib.hid (HB0.out.trans (HW2.out.mono HB0.out.size))
  clear h1 hE
  go_wp2
  go_ret
  exact ⟨nb.ret_bool HE.out, HB.out⟩
 all_goals
  have HE := Lib.hid hE
  rw [h1]
  clear h1 hE
  go_wp2_with fail
  refine (limNum_any x.n _).mono ?_
  rintro e w3 ⟨rfl, hB3⟩
  go_wp2_with fail
  refine (outside_any x.n 1 99 _).mono ?_
  rintro e w4 ⟨rfl, hB4⟩
  have hW4 := HW2.out.trans ((hB3.trans (hB4.mono hB3.size)).mono HW2.out.size)
  have hP4 := K1.out.below hW4 K1.out.lt
  clear c0 c1 c2 hB3 hB4 HP2 HW2
  obtain ⟨c0, c1, c2, _⟩ := three hP4
  have HP4 := Lib.hid hP4
  have HW4 := Lib.hid hW4
  clear hP4 hW4
  rw [h2]
  clear h2
 ·have HB := Lib.hid (HB0.out.trans (HW4.out.mono HB0.out.size))
  go_wp2
  go_ret
  exact ⟨nb.ret_bool HE.out, HB.out⟩
 all_goals
  go_wp2_with fail
  refine (limUntil_any x.u _).mono ?_
  rintro e w5 ⟨rfl, hB5⟩
  go_wp2_with fail
  refine (outside_any x.u 1 999 _).mono ?_
  rintro e w6 ⟨rfl, hB6⟩
  have hW6 := HW4.out.trans ((hB5.trans (hB6.mono hB5.size)).mono HW4.out.size)
  have hP6 := K1.out.below hW6 K1.out.lt
  have hQ6 := K2.out.below hW6 K2.out.lt
  clear c0 c1 c2 hB5 hB6 HP4 HW4
  rw [h3]
  clear h3
  have HB := Lib.hid (HB0.out.trans (hW6.mono HB0.out.size))
  clear hW6
 ·clear hP6 hQ6
  go_wp2
  go_ret
  exact ⟨nb.ret_bool HE.out, HB.out⟩
 all_goals
  have H2 := Lib.hid (fun p : qa.After w6 => issued_any g k a b c p.W (qa.blk hQ6 p) x.f x.n x.u)
  obtain ⟨c0, c1, c2⟩ := qa.three hP6
  obtain ⟨d0, d1, d2, d3, d4, d5⟩ := qa.six hQ6
  clear hP6 hQ6
  go_wp2_with fail
  try have h4 := Int.not_lt.2 h4
  refine qa.region (by kernel_rfl) (by kernel_rfl) ?_
  repeat (go_big_quiet_step ((go_at_call 166; exact qa.of_below (H2.out _))))
  refine wpQuiet_nil ?_
  rintro _ ⟨p, rfl⟩
  have HB2 := Lib.hid (HB.out.trans (p.h.mono HB.out.size))
  clear c0 c1 c2 d0 d1 d2 d3 d4 d5
  go_wp2
  go_ret
  exact ⟨nb.ret_bool HE.out, HB2.out⟩
end Go.Proofs.YtckicpnnclbkpaaGreatDoor.kp

