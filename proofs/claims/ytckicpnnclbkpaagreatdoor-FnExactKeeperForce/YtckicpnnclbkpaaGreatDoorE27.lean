/-
  Merged texts: IKeep2.
-/
import Derived.Test.YtckicpnnclbkpaaGreatDoorE26
import Derived.Test.YtckicpnnclbkpaaGreatDoorE23
namespace Go.Proofs.YtckicpnnclbkpaaGreatDoor.kp
open Go.ChangeShapes Go.WideShapes Go.ChangeAt Go.RowKit
open wd ow rl ok nb nx li
theorem hold_parts (k : Kp) (x : Nt) : (okNt x = false ∧ false = (okNt x && heldOk k x)) ∨ (okNt x = true ∧ ¬ k.time < x.u ∧ false = (okNt x && heldOk k x)) ∨ (okNt x = true ∧ k.time < x.u ∧ iss k x.f x.n = false ∧ false = (okNt x && heldOk k x)) ∨
  (okNt x = true ∧ k.time < x.u ∧ iss k x.f x.n = true ∧ way x k.id = false ∧ false = (okNt x && heldOk k x)) ∨ (okNt x = true ∧ k.time < x.u ∧ iss k x.f x.n = true ∧ way x k.id = true ∧ (!hasM k.marks x.f x.n) = (okNt x && heldOk k x)) := by
 unfold heldOk
 rw [show (!(x.f == k.id && decide (k.next ≤ x.n))) = iss k x.f x.n from rfl]
 by_cases h : k.time < x.u <;> cases okNt x <;> cases iss k x.f x.n <;> cases way x k.id <;> simp [h]
theorem in_parts (k : Kp) (x : Nt) : (okNt x = false ∧ false = (okNt x && inOk k x)) ∨ (okNt x = true ∧ (x.t == k.id) = false ∧ false = (okNt x && inOk k x)) ∨ (okNt x = true ∧ (x.t == k.id) = true ∧ iss k x.f x.n = false ∧ false = (okNt x && inOk k x)) ∨
  (okNt x = true ∧ (x.t == k.id) = true ∧ iss k x.f x.n = true ∧ x.u ≤ k.time ∧ true = (okNt x && inOk k x)) ∨ (okNt x = true ∧ (x.t == k.id) = true ∧ iss k x.f x.n = true ∧ ¬ x.u ≤ k.time ∧ hasM k.marks x.f x.n = (okNt x && inOk k x)) := by
 unfold inOk
 rw [show (!(x.f == k.id && decide (k.next ≤ x.n))) = iss k x.f x.n from rfl]
 by_cases h : x.u ≤ k.time
 ·have h' : decide (k.time < x.u) = false := decide_eq_false (by omega)
  rw [h']
  cases okNt x <;> cases iss k x.f x.n <;> cases (x.t == k.id) <;> simp [h]
 ·have h' : decide (k.time < x.u) = true := decide_eq_true (by omega)
  rw [h']
  cases okNt x <;> cases iss k x.f x.n <;> cases (x.t == k.id) <;> simp [h]
set_option maxRecDepth 100000 in
set_option maxHeartbeats 4000000 in
theorem may_hold (g : Nat) (k : Kp) (a b c : Value) (w : World) (h : Blk w g 39 (kpC k a b c)) (hM : SeesMk w b k.marks) (hl : k.marks.length ≤ 1048576) (x : Nt) (hx : x.s.size ≤ maxLen) :
  Calls Tryz.prog 135 #[.pointer (some ⟨g, 0, none⟩), note x.f x.n x.t x.u x.s] w (BoolK w (okNt x && heldOk k x)) := by
 have k1 := Blk.new w 105 #[.int .i64 x.f, .int .i64 x.n, .int .i64 x.t, .int .i64 x.u, .string x.s]
 have k2 := h.alloc (.cells #[.int .i64 x.f, .int .i64 x.n, .int .i64 x.t, .int .i64 x.u, .string x.s] 105)
 have hB0 := (Below.refl w.heap.size w).alloc (Nat.le_refl _) (.cells #[.int .i64 x.f, .int .i64 x.n, .int .i64 x.t, .int .i64 x.u, .string x.s] 105)
 have hM0 := hM.later hB0
 have H1 := Lib.hid (fun V => show Calls Tryz.prog 165 #[note x.f x.n x.t x.u x.s] V (BoolK V (okNt x)) from iok_any x.f x.n x.t x.u x.s V hx)
 unfold note at *
 clear h hM
 go_enter Tryz.func135, Tryz.ntmps135
 go_wp2_with fail
 generalize w.alloc (.cells #[.int .i64 x.f, .int .i64 x.n, .int .i64 x.t, .int .i64 x.u, .string x.s] 105) = W at *
 obtain ⟨c0, c1, c2, c3, c4⟩ := qa.five k1
 obtain ⟨d0, d1, d2, d3, d4, d5⟩ := qa.six k2
 have H2 := Lib.hid (fun p : qa.After W => issued_any g k a b c p.W (qa.blk k2 p) x.f x.n x.u)
 have H3 := Lib.hid (fun p : qa.After W => onway_any g k a b c p.W (qa.blk k2 p) x)
 have H4 := Lib.hid (fun p : qa.After W => hasM_any p.W b k.marks (hM0.later p.h) hl x.f x.n x.u)
 have H5 := Lib.hid (fun V => nmark_any x.f x.n x.t x.u x.s V)
 unfold note at H3 H5
 have HB := Lib.hid hB0
 clear k1 k2 hB0 hM0 hx
 rcases hold_parts k x with ⟨h1, hE⟩ | ⟨h1, h2, hE⟩ | ⟨h1, h2, h3, hE⟩ | ⟨h1, h2, h3, h4, hE⟩ | ⟨h1, h2, h3, h4, hE⟩
 all_goals
  have HE := Lib.hid hE
  clear hE
  rw [h1] at H1
  clear h1
  try (rw [h3] at H2; clear h3)
  try (rw [h4] at H3; clear h4)
  refine qa.region (by kernel_rfl) (by kernel_rfl) ?_
  repeat (go_big_quiet_step (first | (go_at_call 165; exact qa.of_below (H1.out _)) | (go_at_call 167; exact qa.of_below (H5.out _)) | (go_at_call 166; exact qa.of_below (H2.out _)) | (go_at_call 168; exact qa.of_below (H3.out _)) | (go_at_call 169; exact qa.of_below (H4.out _))))
  refine wpQuiet_nil ?_
  rintro _ ⟨p, rfl⟩
  have HB2 := Lib.hid (HB.out.trans (p.h.mono HB.out.size))
  clear c0 c1 c2 c3 c4 d0 d1 d2 d3 d4 d5
  go_wp2
  go_ret
  exact ⟨nb.ret_bool HE.out, HB2.out⟩
set_option maxRecDepth 100000 in
set_option maxHeartbeats 4000000 in
theorem may_inbox (g : Nat) (k : Kp) (a b c : Value) (w : World) (h : Blk w g 39 (kpC k a b c)) (hM : SeesMk w b k.marks) (hl : k.marks.length ≤ 1048576) (x : Nt) (hx : x.s.size ≤ maxLen) :
  Calls Tryz.prog 138 #[.pointer (some ⟨g, 0, none⟩), note x.f x.n x.t x.u x.s] w (BoolK w (okNt x && inOk k x)) := by
 have k1 := Blk.new w 105 #[.int .i64 x.f, .int .i64 x.n, .int .i64 x.t, .int .i64 x.u, .string x.s]
 have k2 := h.alloc (.cells #[.int .i64 x.f, .int .i64 x.n, .int .i64 x.t, .int .i64 x.u, .string x.s] 105)
 have hB0 := (Below.refl w.heap.size w).alloc (Nat.le_refl _) (.cells #[.int .i64 x.f, .int .i64 x.n, .int .i64 x.t, .int .i64 x.u, .string x.s] 105)
 have hM0 := hM.later hB0
 have H1 := Lib.hid (fun V => show Calls Tryz.prog 165 #[note x.f x.n x.t x.u x.s] V (BoolK V (okNt x)) from iok_any x.f x.n x.t x.u x.s V hx)
 unfold note at *
 clear h hM
 go_enter Tryz.func138, Tryz.ntmps138
 go_wp2_with fail
 generalize w.alloc (.cells #[.int .i64 x.f, .int .i64 x.n, .int .i64 x.t, .int .i64 x.u, .string x.s] 105) = W at *
 obtain ⟨c0, c1, c2, c3, c4⟩ := qa.five k1
 obtain ⟨d0, d1, d2, d3, d4, d5⟩ := qa.six k2
 have H2 := Lib.hid (fun p : qa.After W => issued_any g k a b c p.W (qa.blk k2 p) x.f x.n x.u)
 have H4 := Lib.hid (fun p : qa.After W => hasM_any p.W b k.marks (hM0.later p.h) hl x.f x.n x.u)
 have H5 := Lib.hid (fun V => nmark_any x.f x.n x.t x.u x.s V)
 unfold note at H5
 have HB := Lib.hid hB0
 clear k1 k2 hB0 hM0 hx
 rcases in_parts k x with ⟨h1, hE⟩ | ⟨h1, h2, hE⟩ | ⟨h1, h2, h3, hE⟩ | ⟨h1, h2, h3, h4, hE⟩ | ⟨h1, h2, h3, h4, hE⟩
 all_goals
  have HE := Lib.hid hE
  clear hE
  rw [h1] at H1
  clear h1
  try (rw [h3] at H2; clear h3)
  refine qa.region (by kernel_rfl) (by kernel_rfl) ?_
  repeat (go_big_quiet_step (first | (go_at_call 165; exact qa.of_below (H1.out _)) | (go_at_call 167; exact qa.of_below (H5.out _)) | (go_at_call 166; exact qa.of_below (H2.out _)) | (go_at_call 169; exact qa.of_below (H4.out _))))
  refine wpQuiet_nil ?_
  rintro _ ⟨p, rfl⟩
  have HB2 := Lib.hid (HB.out.trans (p.h.mono HB.out.size))
  clear c0 c1 c2 c3 c4 d0 d1 d2 d3 d4 d5
  go_wp2
  go_ret
  exact ⟨nb.ret_bool HE.out, HB2.out⟩
end Go.Proofs.YtckicpnnclbkpaaGreatDoor.kp

