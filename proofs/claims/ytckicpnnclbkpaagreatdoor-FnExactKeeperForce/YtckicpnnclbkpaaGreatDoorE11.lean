/-
  Merged texts: SKeep3, SKeep4.
-/
import Derived.Test.YtckicpnnclbkpaaGreatDoorE10
namespace Go.Proofs.YtckicpnnclbkpaaGreatDoor.kp
open Go.ChangeShapes Go.WideShapes Go.ChangeAt Go.RowKit
open wd ow rl ok nb
theorem okMk_f {x : Mk} (h : inB x.f 0 3 = false ∨ inB x.n 1 99 = false ∨ inB x.u 1 999 = false) : okMk x = false := by
 unfold okMk
 rcases h with h | h | h <;> simp [h]
theorem okMk_t {x : Mk} (h1 : inB x.f 0 3 = true) (h2 : inB x.n 1 99 = true) (h3 : inB x.u 1 999 = true) : okMk x = true := by
 unfold okMk
 rw [h1, h2, h3]
 rfl
theorem ordM_bad {l : List Mk} {k : Nat} {x : Mk} (hx : l[k]? = some x) (h : okMk x = false) : ordM l k = false := by
 unfold ordM
 rw [hx]
 simp [h]
set_option maxRecDepth 100000 in
set_option maxHeartbeats 4000000 in
theorem marks_any (w : World) (v : Value) (l : List Mk) (h : SeesMk w v l) (hl : l.length ≤ 1048576) :
  Calls Tryz.prog 106 #[v] w (BoolK w (okMks l)) := by
 have HS := Lib.hid h
 obtain ⟨A, c, rfl, _⟩ := h
 by_cases hlong : 12 < l.length
 ·rw [okMks_long hlong]
  go_enter Tryz.func106, Tryz.ntmps106
  go_wp2
  go_ret
  exact ⟨rfl, Below.refl _ _⟩
 go_enter Tryz.func106, Tryz.ntmps106
 go_wp2
 go_loopw [3] (fun i wr => ∃ k : Nat, k ≤ l.length ∧ i = .int .i64 k ∧ Hid (allI k (ordM l) = true) ∧ Below w.heap.size w wr) (fun i _ => (l.length + 1 : Nat) - (intOf i).toNat)
 case atStart => exact ⟨0, by omega, rfl, rfl, Below.refl _ _⟩
 case round =>
  obtain ⟨k, hk, rfl, HA, hB⟩ := hrel
  by_cases hkl : k < l.length
  ·have hx : l[k]? = some l[k] := List.getElem?_eq_getElem hkl
   have hc := mark_at (HS.out.later hB) hx
   generalize l[k] = x at hx hc
   obtain ⟨g, c', e, hg, _, t0, t1, t2⟩ := hc
   injection e with e1 e2 e3
   subst e1; subst e3
   have hk0 : (0 : Int) ≤ (k : Int) := by omega
   have hk1 : (k : Int) < (l.length : Int) := by omega
   have H1 := Lib.hid (fun V => (keeper_any x.f V).mono (R' := fun e w' => e = .returned (.bool (inB x.f 0 3)) ∧ w' = V) fun _ _ h => ⟨h.1, h.2.symm⟩)
   have H2 := Lib.hid (fun V => (in_any x.n 1 99 V).mono (R' := fun e w' => e = .returned (.bool (inB x.n 1 99)) ∧ w' = V) fun _ _ h => ⟨h.1, h.2.symm⟩)
   have H3 := Lib.hid (fun V => (in_any x.u 1 999 V).mono (R' := fun e w' => e = .returned (.bool (inB x.u 1 999)) ∧ w' = V) fun _ _ h => ⟨h.1, h.2.symm⟩)
   have hBx := Blk.new wr 108 #[.int .i64 x.f, .int .i64 x.n, .int .i64 x.u]
   have hB2 := Lib.hid (hB.alloc hB.size (.cells #[.int .i64 x.f, .int .i64 x.n, .int .i64 x.u] 108))
   have m0 := hBx.cell 0
   have m1 := hBx.cell 1
   have m2 := hBx.cell 2
   simp only [List.getElem?_toArray, List.getElem?_cons_zero, List.getElem?_cons_succ] at m0 m1 m2
   cases b1 : inB x.f 0 3 with
   | false =>
    have HR := Lib.hid (okMks_bad hkl (ordM_bad hx (okMk_f (.inl b1))))
    rw [b1] at H1
    clear b1 hx
    go_wp2_with fail
    generalize wr.heap.size = R at m0 m1 m2 hBx ⊢
    generalize wr.alloc (.cells #[.int .i64 x.f, .int .i64 x.n, .int .i64 x.u] 108) = V at m0 m1 m2 hBx hB2 ⊢
    go_quiet ((go_at_call 28; with_reducible exact Calls.quiet_of_same (H1.out _)))
    go_wp2
    go_ret
    exact ⟨nb.ret_bool HR.out.symm, below_drewN' hB2.out _⟩
   | true =>
    rw [b1] at H1
    cases b2 : inB x.n 1 99 with
    | false =>
     have HR := Lib.hid (okMks_bad hkl (ordM_bad hx (okMk_f (.inr (.inl b2)))))
     rw [b2] at H2
     clear b1 b2 hx
     go_wp2_with fail
     generalize wr.heap.size = R at m0 m1 m2 hBx ⊢
     generalize wr.alloc (.cells #[.int .i64 x.f, .int .i64 x.n, .int .i64 x.u] 108) = V at m0 m1 m2 hBx hB2 ⊢
     go_quiet ((first | (go_at_call 28; with_reducible exact Calls.quiet_of_same (H1.out _)) | (go_at_call 56; with_reducible exact Calls.quiet_of_same (H2.out _))))
     go_wp2
     go_ret
     exact ⟨nb.ret_bool HR.out.symm, below_drewN' hB2.out _⟩
    | true =>
     rw [b2] at H2
     cases b3 : inB x.u 1 999 with
     | false =>
      have HR := Lib.hid (okMks_bad hkl (ordM_bad hx (okMk_f (.inr (.inr b3)))))
      rw [b3] at H3
      clear b1 b2 b3 hx
      go_wp2_with fail
      generalize wr.heap.size = R at m0 m1 m2 hBx ⊢
      generalize wr.alloc (.cells #[.int .i64 x.f, .int .i64 x.n, .int .i64 x.u] 108) = V at m0 m1 m2 hBx hB2 ⊢
      go_quiet ((first | (go_at_call 28; with_reducible exact Calls.quiet_of_same (H1.out _)) | (go_at_call 56; with_reducible exact Calls.quiet_of_same (H2.out _)) | (go_at_call 56; with_reducible exact Calls.quiet_of_same (H3.out _))))
      go_wp2
      go_ret
      exact ⟨nb.ret_bool HR.out.symm, below_drewN' hB2.out _⟩
     | true =>
      rw [b3] at H3
      have hok := okMk_t b1 b2 b3
      clear b1 b2 b3
      rcases Nat.eq_zero_or_pos k with hk00 | hpos
      ·subst hk00
       have HR := Lib.hid (allI_on HA.out (show ordM l 0 = true by rw [ordM_zero hx, hok]))
       clear hx hok
       go_wp2_with fail
       generalize wr.heap.size = R at m0 m1 m2 hBx ⊢
       generalize wr.alloc (.cells #[.int .i64 x.f, .int .i64 x.n, .int .i64 x.u] 108) = V at m0 m1 m2 hBx hB2 ⊢
       go_quiet ((first | (go_at_call 28; with_reducible exact Calls.quiet_of_same (H1.out _)) | (go_at_call 56; with_reducible exact Calls.quiet_of_same (H2.out _)) | (go_at_call 56; with_reducible exact Calls.quiet_of_same (H3.out _))))
       have R := Lib.hid (below_drewN' hB2.out nq)
       go_wp2
       go_roundw
       case rel => exact ⟨1, by omega, by go_num, HR.out, R.out⟩
       case measure => simp [intOf]
      ·obtain ⟨j, hkj⟩ : ∃ j, k = j + 1 := ⟨k - 1, by omega⟩
       have hy : l[j]? = some l[j] := List.getElem?_eq_getElem (by omega)
       have hcy := mark_at (HS.out.later (hB.alloc hB.size (.cells #[.int .i64 x.f, .int .i64 x.n, .int .i64 x.u] 108))) hy
       generalize l[j] = y at hy hcy
       obtain ⟨g', c'', e', _, _, y0, y1, _⟩ := hcy
       injection e' with e1 e2 e3
       injection e1 with e1
       injection e1 with e1
       subst e1
       clear e2 e3
       have HL := Lib.hid (fun V => (less_any y.f y.n x.f x.n V).mono (R' := fun e w' => e = .returned (.bool (less y.f y.n x.f x.n)) ∧ w' = V) fun _ _ h => ⟨h.1, h.2.symm⟩)
       have i0 : IntKind.i64.wrap ((k : Int) - 1) = (j : Int) := by rw [IntKind.wrap_i64]; omega
       have i1 : (0 : Int) ≤ (j : Int) := by omega
       have i2 : (j : Int) < (l.length : Int) := by omega
       have i3 : (0 : Int) < (k : Int) := by omega
       have HKJ := Lib.hid hkj
       have hx2 : l[j + 1]? = some x := by rw [← hkj]; exact hx
       clear hkj
       cases hls : less y.f y.n x.f x.n with
       | false =>
        have HR := Lib.hid (okMks_bad hkl (show ordM l k = false by rw [HKJ.out, ordM_succ hx2 hy, hls, Bool.and_false]))
        rw [hls] at HL
        clear hx hy hx2 hls hok
        go_wp2_with fail
        generalize wr.heap.size = R at m0 m1 m2 hBx ⊢
        generalize wr.alloc (.cells #[.int .i64 x.f, .int .i64 x.n, .int .i64 x.u] 108) = V at m0 m1 m2 hBx hB2 y0 y1 ⊢
        go_quiet ((first | (go_at_call 28; with_reducible exact Calls.quiet_of_same (H1.out _)) | (go_at_call 56; with_reducible exact Calls.quiet_of_same (H2.out _)) | (go_at_call 56; with_reducible exact Calls.quiet_of_same (H3.out _)) | (go_at_call 149; with_reducible exact Calls.quiet_of_same (HL.out _))))
        go_wp2
        go_ret
        exact ⟨nb.ret_bool HR.out.symm, below_drewN' hB2.out _⟩
       | true =>
        have HR := Lib.hid (allI_on HA.out (show ordM l k = true by rw [HKJ.out, ordM_succ hx2 hy, hls, hok]; rfl))
        rw [hls] at HL
        clear hx hy hx2 hls hok
        go_wp2_with fail
        generalize wr.heap.size = R at m0 m1 m2 hBx ⊢
        generalize wr.alloc (.cells #[.int .i64 x.f, .int .i64 x.n, .int .i64 x.u] 108) = V at m0 m1 m2 hBx hB2 y0 y1 ⊢
        go_quiet ((first | (go_at_call 28; with_reducible exact Calls.quiet_of_same (H1.out _)) | (go_at_call 56; with_reducible exact Calls.quiet_of_same (H2.out _)) | (go_at_call 56; with_reducible exact Calls.quiet_of_same (H3.out _)) | (go_at_call 149; with_reducible exact Calls.quiet_of_same (HL.out _))))
        have R := Lib.hid (below_drewN' hB2.out nq)
        go_wp2
        go_roundw
        case rel => exact ⟨k + 1, by omega, by go_num, HR.out, R.out⟩
        case measure => simp [intOf]; omega
  ·obtain rfl : k = l.length := by omega
   have HR := Lib.hid (okMks_all (by omega) HA.out)
   go_wp2
   go_ret
   exact ⟨nb.ret_bool HR.out.symm, hB⟩
end Go.Proofs.YtckicpnnclbkpaaGreatDoor.kp

namespace Go.Proofs.YtckicpnnclbkpaaGreatDoor.kp
open Go.ChangeShapes Go.WideShapes Go.ChangeAt Go.RowKit
open wd ow rl ok nb
structure KB (w V : World) (k : Kp) (a b c : Value) : Prop where
 box : Blk V w.heap.size 39 #[.int .i64 k.id, .int .i64 k.time, .int .i64 k.next, a, b, c]
 bel : Below w.heap.size w V
section
variable {w V V' : World} {k : Kp} {a b c : Value}
theorem KB.new (w : World) (k : Kp) (a b c : Value) : KB w (w.alloc (.cells #[.int .i64 k.id, .int .i64 k.time, .int .i64 k.next, a, b, c] 39)) k a b c := ⟨Blk.new w _ _, (Below.refl _ w).alloc (Nat.le_refl _) _⟩
theorem KB.later (h : KB w V k a b c) (hb : Below V.heap.size V V') : KB w V' k a b c := ⟨h.box.below hb h.box.lt, h.bel.trans (hb.mono h.bel.size)⟩
theorem KB.alloc (h : KB w V k a b c) (o : Obj) : KB w (V.alloc o) k a b c := h.later ((Below.refl _ _).alloc (Nat.le_refl _) o)
theorem KB.cells (h : KB w V k a b c) : V.cell? ⟨w.heap.size, 0, none⟩ = some (.int .i64 k.id) ∧ V.cell? ⟨w.heap.size, 1, none⟩ = some (.int .i64 k.time) ∧ V.cell? ⟨w.heap.size, 2, none⟩ = some (.int .i64 k.next) ∧ V.cell? ⟨w.heap.size, 3, none⟩ = some a ∧ V.cell? ⟨w.heap.size, 4, none⟩ = some b ∧ V.cell? ⟨w.heap.size, 5, none⟩ = some c :=
 ⟨h.box.cell 0, h.box.cell 1, h.box.cell 2, h.box.cell 3, h.box.cell 4, h.box.cell 5⟩
end
theorem nt_cells {V : World} {R : Nat} {x : Nt} (h : Blk V R 105 #[.int .i64 x.f, .int .i64 x.n, .int .i64 x.t, .int .i64 x.u, .string x.s]) : V.cell? ⟨R, 0, none⟩ = some (.int .i64 x.f) ∧ V.cell? ⟨R, 1, none⟩ = some (.int .i64 x.n) ∧ V.cell? ⟨R, 2, none⟩ = some (.int .i64 x.t) ∧ V.cell? ⟨R, 3, none⟩ = some (.int .i64 x.u) ∧ V.cell? ⟨R, 4, none⟩ = some (.string x.s) :=
 ⟨h.cell 0, h.cell 1, h.cell 2, h.cell 3, h.cell 4⟩
theorem mk_cells {V : World} {R : Nat} {x : Mk} (h : Blk V R 108 #[.int .i64 x.f, .int .i64 x.n, .int .i64 x.u]) : V.cell? ⟨R, 0, none⟩ = some (.int .i64 x.f) ∧ V.cell? ⟨R, 1, none⟩ = some (.int .i64 x.n) ∧ V.cell? ⟨R, 2, none⟩ = some (.int .i64 x.u) := ⟨h.cell 0, h.cell 1, h.cell 2⟩
def pre6 (k : Kp) : Bool := inB k.id 0 3 && inB k.time 0 999 && inB k.next 1 100 && okNts k.held 6 && okMks k.marks && okNts k.inbox 6
theorem okK_pre {k : Kp} (h : pre6 k = false) : okK k = false := by
 unfold okK
 unfold pre6 at h
 rw [h]
 rfl
theorem okK_held {k : Kp} (h : k.held.all (heldOk k) = false) : okK k = false := by unfold okK; rw [h]; simp
theorem okK_marks {k : Kp} (h : k.marks.all (markOk k) = false) : okK k = false := by unfold okK; rw [h]; simp
theorem okK_inbox {k : Kp} (h : k.inbox.all (inOk k) = false) : okK k = false := by unfold okK; rw [h]; simp
theorem okK_all {k : Kp} (h0 : pre6 k = true) (h1 : k.held.all (heldOk k) = true) (h2 : k.marks.all (markOk k) = true) (h3 : k.inbox.all (inOk k) = true) : okK k = true := by
 unfold okK
 unfold pre6 at h0
 rw [h0, h1, h2, h3]
 rfl
theorem pre_f {k : Kp} (h : inB k.id 0 3 = false ∨ inB k.time 0 999 = false ∨ inB k.next 1 100 = false ∨ okNts k.held 6 = false ∨ okMks k.marks = false ∨ okNts k.inbox 6 = false) : pre6 k = false := by
 unfold pre6
 rcases h with h | h | h | h | h | h <;> simp [h]
theorem pre_t {k : Kp} (h1 : inB k.id 0 3 = true) (h2 : inB k.time 0 999 = true) (h3 : inB k.next 1 100 = true) (h4 : okNts k.held 6 = true) (h5 : okMks k.marks = true) (h6 : okNts k.inbox 6 = true) : pre6 k = true := by
 unfold pre6
 rw [h1, h2, h3, h4, h5, h6]
 rfl
theorem held_f {k : Kp} {x : Nt} (h : x.u ≤ k.time ∨ way x k.id = false ∨ (x.f = k.id ∧ k.next ≤ x.n) ∨ hasM k.marks x.f x.n = true) : heldOk k x = false := by
 unfold heldOk
 rcases h with h | h | ⟨h, h'⟩ | h
 ·rw [decide_eq_false (by omega)]; rfl
 ·simp [h]
 ·simp [h, h']
 ·simp [h]
theorem held_t {k : Kp} {x : Nt} (h1 : ¬ x.u ≤ k.time) (h2 : way x k.id = true) (h3 : ¬ (x.f = k.id ∧ k.next ≤ x.n)) (h4 : hasM k.marks x.f x.n = false) : heldOk k x = true := by
 unfold heldOk
 rw [decide_eq_true (by omega), h2, h4]
 have : (x.f == k.id && decide (k.next ≤ x.n)) = false := by
  rw [Bool.and_eq_false_iff]
  by_cases e : x.f = k.id
  ·exact .inr (decide_eq_false (fun h => h3 ⟨e, h⟩))
  ·exact .inl (by simpa using e)
 rw [this]
 rfl
theorem mark_f {k : Kp} {x : Mk} (h : x.u ≤ k.time ∨ (x.f = k.id ∧ k.next ≤ x.n)) : markOk k x = false := by
 unfold markOk
 rcases h with h | ⟨h, h'⟩
 ·rw [decide_eq_false (by omega)]; rfl
 ·simp [h, h']
theorem mark_t {k : Kp} {x : Mk} (h1 : ¬ x.u ≤ k.time) (h3 : ¬ (x.f = k.id ∧ k.next ≤ x.n)) : markOk k x = true := by
 unfold markOk
 rw [decide_eq_true (by omega)]
 have : (x.f == k.id && decide (k.next ≤ x.n)) = false := by
  rw [Bool.and_eq_false_iff]
  by_cases e : x.f = k.id
  ·exact .inr (decide_eq_false (fun h => h3 ⟨e, h⟩))
  ·exact .inl (by simpa using e)
 rw [this]
 rfl
theorem in_f {k : Kp} {x : Nt} (h : x.t ≠ k.id ∨ (x.f = k.id ∧ k.next ≤ x.n) ∨ (k.time < x.u ∧ hasM k.marks x.f x.n = false)) : inOk k x = false := by
 unfold inOk
 rcases h with h | ⟨h, h'⟩ | ⟨h, h'⟩
 ·simp [h]
 ·simp [h, h']
 ·simp [h, h']
theorem in_t {k : Kp} {x : Nt} (h1 : x.t = k.id) (h3 : ¬ (x.f = k.id ∧ k.next ≤ x.n)) (h4 : ¬ (k.time < x.u ∧ hasM k.marks x.f x.n = false)) : inOk k x = true := by
 unfold inOk
 have e1 : (x.f == k.id && decide (k.next ≤ x.n)) = false := by
  rw [Bool.and_eq_false_iff]
  by_cases e : x.f = k.id
  ·exact .inr (decide_eq_false (fun h => h3 ⟨e, h⟩))
  ·exact .inl (by simpa using e)
 have e2 : (decide (k.time < x.u) && !hasM k.marks x.f x.n) = false := by
  rw [Bool.and_eq_false_iff]
  by_cases e : k.time < x.u
  ·right
   cases hh : hasM k.marks x.f x.n with
   | true => rfl
   | false => exact absurd ⟨e, hh⟩ h4
  ·exact .inl (decide_eq_false e)
 rw [e1, e2, h1]
 simp
set_option maxRecDepth 100000 in
set_option maxHeartbeats 800000 in
theorem keepOk_any (w : World) (k : Kp) (a b c : Value) (h : SeesK w k a b c) (hl : k.held.length ≤ 1048576 ∧ k.marks.length ≤ 1048576 ∧ k.inbox.length ≤ 1048576) (hz : (∀ x ∈ k.held, x.s.size ≤ maxLen) ∧ ∀ x ∈ k.inbox, x.s.size ≤ maxLen) :
  Calls Tryz.prog 80 #[kpV k.id k.time k.next a b c] w (BoolK w (okK k)) := by
 obtain ⟨hl1, hl2, hl3⟩ := hl
 obtain ⟨Aa, ca, rfl, _⟩ := h.held
 obtain ⟨Ab, cb, rfl, _⟩ := h.marks
 obtain ⟨Ac, cc, rfl, _⟩ := h.inbox
 have HS := Lib.hid h
 have hT := KB.new w k (.slice Aa k.held.length ca) (.slice Ab k.marks.length cb) (.slice Ac k.inbox.length cc)
 have H1 := Lib.hid (fun V => keeper_any k.id V)
 have H2 := Lib.hid (fun V => in_any k.time 0 999 V)
 have H3 := Lib.hid (fun V => in_any k.next 1 100 V)
 have H4 := Lib.hid (fun V (hV : Below w.heap.size w V) => notes_any V (.slice Aa k.held.length ca) k.held 6 (by omega) (h.held.later hV) hl1 hz.1)
 have H5 := Lib.hid (fun V (hV : Below w.heap.size w V) => marks_any V (.slice Ab k.marks.length cb) k.marks (h.marks.later hV) hl2)
 have H6 := Lib.hid (fun V (hV : Below w.heap.size w V) => notes_any V (.slice Ac k.inbox.length cc) k.inbox 6 (by omega) (h.inbox.later hV) hl3 hz.2)
 have H7 := Lib.hid (fun (x : Nt) V => way_any x k.id V)
 have H8 := Lib.hid (fun (f n : Int) V (hV : Below w.heap.size w V) => ixM_any V (.slice Ab k.marks.length cb) k.marks f n (h.marks.later hV) hl2)
 unfold BoolK at H4 H5 H6 H7
 unfold IsI at H8
 unfold ntV note at H7
 clear h hz
 go_enter Tryz.func80, Tryz.ntmps80
 go_wp2_with fail
 generalize w.alloc (.cells #[.int .i64 k.id, .int .i64 k.time, .int .i64 k.next, .slice Aa k.held.length ca, .slice Ab k.marks.length cb, .slice Ac k.inbox.length cc] 39) = V at hT ⊢
 refine (H1.out _).mono ?_
 rintro e w1 ⟨rfl, rfl⟩
 obtain ⟨c0, c1, c2, c3, c4, c5⟩ := hT.cells
 have HT := Lib.hid hT
 clear hT H1
 cases b1 : inB k.id 0 3 with
 | false =>
  have HR := Lib.hid (okK_pre (pre_f (.inl b1)))
  go_wp2
  go_ret
  exact ⟨nb.ret_bool HR.out.symm, HT.out.bel⟩
 | true =>
 go_wp2_with fail
 refine (H2.out _).mono ?_
 rintro e w1 ⟨rfl, rfl⟩
 clear H2
 cases b2 : inB k.time 0 999 with
 | false =>
  have HR := Lib.hid (okK_pre (pre_f (.inr (.inl b2))))
  go_wp2
  go_ret
  exact ⟨nb.ret_bool HR.out.symm, HT.out.bel⟩
 | true =>
 go_wp2_with fail
 refine (H3.out _).mono ?_
 rintro e w1 ⟨rfl, rfl⟩
 clear H3
 cases b3 : inB k.next 1 100 with
 | false =>
  have HR := Lib.hid (okK_pre (pre_f (.inr (.inr (.inl b3)))))
  go_wp2
  go_ret
  exact ⟨nb.ret_bool HR.out.symm, HT.out.bel⟩
 | true =>
 go_wp2_with fail
 refine (H4.out _ HT.out.bel).mono ?_
 rintro e w1 ⟨rfl, hB1⟩
 have hT1 := HT.out.later hB1
 clear c0 c1 c2 c3 c4 c5 HT H4 hB1
 obtain ⟨c0, c1, c2, c3, c4, c5⟩ := hT1.cells
 have HT := Lib.hid hT1
 clear hT1
 cases b4 : okNts k.held 6 with
 | false =>
  have HR := Lib.hid (okK_pre (pre_f (.inr (.inr (.inr (.inl b4))))))
  go_wp2
  go_ret
  exact ⟨nb.ret_bool HR.out.symm, HT.out.bel⟩
 | true =>
 go_wp2_with fail
 refine (H5.out _ HT.out.bel).mono ?_
 rintro e w2 ⟨rfl, hB1⟩
 have hT1 := HT.out.later hB1
 clear c0 c1 c2 c3 c4 c5 HT H5 hB1
 obtain ⟨c0, c1, c2, c3, c4, c5⟩ := hT1.cells
 have HT := Lib.hid hT1
 clear hT1
 cases b5 : okMks k.marks with
 | false =>
  have HR := Lib.hid (okK_pre (pre_f (.inr (.inr (.inr (.inr (.inl b5)))))))
  go_wp2
  go_ret
  exact ⟨nb.ret_bool HR.out.symm, HT.out.bel⟩
 | true =>
 go_wp2_with fail
 refine (H6.out _ HT.out.bel).mono ?_
 rintro e w3 ⟨rfl, hB1⟩
 have hT1 := HT.out.later hB1
 clear c0 c1 c2 c3 c4 c5 HT H6 hB1
 obtain ⟨c0, c1, c2, c3, c4, c5⟩ := hT1.cells
 have HT := Lib.hid hT1
 clear hT1
 cases b6 : okNts k.inbox 6 with
 | false =>
  have HR := Lib.hid (okK_pre (pre_f (.inr (.inr (.inr (.inr (.inr b6)))))))
  go_wp2
  go_ret
  exact ⟨nb.ret_bool HR.out.symm, HT.out.bel⟩
 | true =>
 have HP := Lib.hid (pre_t b1 b2 b3 b4 b5 b6)
 clear b1 b2 b3 b4 b5 b6 c0 c1 c2 c3 c4 c5
 go_wp2
 go_loopw [3] (fun i wr => ∃ j : Nat, j ≤ k.held.length ∧ i = .int .i64 j ∧ Hid ((k.held.take j).all (heldOk k) = true) ∧ Hid (KB w wr k (.slice Aa k.held.length ca) (.slice Ab k.marks.length cb) (.slice Ac k.inbox.length cc))) (fun i _ => (k.held.length + 1 : Nat) - (intOf i).toNat)
 case atStart => exact ⟨0, by omega, rfl, rfl, HT.out⟩
 case round =>
 obtain ⟨j, hj, rfl, HA, HT2⟩ := hrel
 clear HT
 have lb := HT2.out.box.lt
 obtain ⟨c0, c1, c2, c3, c4, c5⟩ := HT2.out.cells
 by_cases hjl : j < k.held.length
 ·have hx : k.held[j]? = some k.held[j] := List.getElem?_eq_getElem hjl
  have hc := note_at (HS.out.held.later HT2.out.bel) hx
  generalize k.held[j] = x at hx hc
  obtain ⟨g, c', e, hg, _, t0, t1, t2, t3, t4⟩ := hc
  injection e with e1 e2 e3
  subst e1; subst e3
  have hj1 : (j : Int) < (k.held.length : Int) := by omega
  have hj0 : (0 : Int) ≤ (j : Int) := by omega
  have hBx := Blk.new wr 105 #[.int .i64 x.f, .int .i64 x.n, .int .i64 x.t, .int .i64 x.u, .string x.s]
  have HT3 := Lib.hid (HT2.out.alloc (.cells #[.int .i64 x.f, .int .i64 x.n, .int .i64 x.t, .int .i64 x.u, .string x.s] 105))
  by_cases h1 : x.u ≤ k.time
  ·have HR := Lib.hid (okK_held (all_bad hx (held_f (.inl h1))))
   clear hx
   go_wp2
   go_ret
   exact ⟨nb.ret_bool HR.out.symm, HT3.out.bel⟩
  have HW := Lib.hid (H7.out x)
  go_wp2_with fail
  generalize wr.alloc (.cells #[.int .i64 x.f, .int .i64 x.n, .int .i64 x.t, .int .i64 x.u, .string x.s] 105) = V1 at hBx HT3 ⊢
  with_reducible refine (HW.out _).mono ?_
  rintro e w4 ⟨rfl, hB4⟩
  have hBy := hBx.below hB4 hBx.lt
  have HT4 := Lib.hid (HT3.out.later hB4)
  clear c0 c1 c2 c3 c4 c5 hB4 HT3 hBx
  obtain ⟨c0, c1, c2, c3, c4, c5⟩ := HT4.out.cells
  obtain ⟨n0, n1, n2, n3, n4⟩ := nt_cells hBy
  cases hw : way x k.id with
  | false =>
   have HR := Lib.hid (okK_held (all_bad hx (held_f (.inr (.inl hw)))))
   clear hx
   go_wp2
   go_ret
   exact ⟨nb.ret_bool HR.out.symm, HT4.out.bel⟩
  | true =>
   by_cases hf : x.f = k.id
   ·have kf : (x.f == k.id) = true := by simpa using hf
    have HF := Lib.hid hf
    clear hf
    by_cases hn : k.next ≤ x.n
    ·have HR := Lib.hid (okK_held (all_bad hx (held_f (.inr (.inr (.inl ⟨HF.out, hn⟩))))))
     clear hx
     go_wp2
     go_ret
     exact ⟨nb.ret_bool HR.out.symm, HT4.out.bel⟩
    ·have hn' : ¬ k.next ≤ x.n := hn
     go_wp2_with fail
     with_reducible refine (H8.out x.f x.n _ HT4.out.bel).mono ?_
     rintro e w5 ⟨rfl, rfl⟩
     rcases ixM_cases k.marks x.f x.n with ⟨hm, hi⟩ | ⟨hm, i, y, hi, _, _, _⟩
     ·have HR := Lib.hid (all_on HA.out hx (held_t (by omega) hw (by omega) hm))
      rw [hi]
      clear hx hi
      go_wp2
      go_roundw
      case rel => exact ⟨j + 1, by omega, by go_num, HR.out, HT4.out⟩
      case measure => simp [intOf]; omega
     ·have HR := Lib.hid (okK_held (all_bad hx (held_f (.inr (.inr (.inr hm))))))
      rw [hi]
      have i9 : (0 : Int) ≤ ((i : Nat) : Int) := by omega
      clear hx hi
      go_wp2
      go_ret
      exact ⟨nb.ret_bool HR.out.symm, HT4.out.bel⟩
   ·have kf : (x.f == k.id) = false := by simpa using hf
    go_wp2_with fail
    with_reducible refine (H8.out x.f x.n _ HT4.out.bel).mono ?_
    rintro e w5 ⟨rfl, rfl⟩
    rcases ixM_cases k.marks x.f x.n with ⟨hm, hi⟩ | ⟨hm, i, y, hi, _, _, _⟩
    ·have HR := Lib.hid (all_on HA.out hx (held_t (by omega) hw (by omega) hm))
     rw [hi]
     clear hx hi
     go_wp2
     go_roundw
     case rel => exact ⟨j + 1, by omega, by go_num, HR.out, HT4.out⟩
     case measure => simp [intOf]; omega
    ·have HR := Lib.hid (okK_held (all_bad hx (held_f (.inr (.inr (.inr hm))))))
     rw [hi]
     have i9 : (0 : Int) ≤ ((i : Nat) : Int) := by omega
     clear hx hi
     go_wp2
     go_ret
     exact ⟨nb.ret_bool HR.out.symm, HT4.out.bel⟩
 ·have HH := Lib.hid (all_end HA.out (by omega))
  clear HA
  have HT := HT2
  clear HT2
  go_wp2
  clear lb c0 c1 c2 c3 c4 c5 hj hjl
  go_loopw [5] (fun i wr => ∃ j : Nat, j ≤ k.marks.length ∧ i = .int .i64 j ∧ Hid ((k.marks.take j).all (markOk k) = true) ∧ Hid (KB w wr k (.slice Aa k.held.length ca) (.slice Ab k.marks.length cb) (.slice Ac k.inbox.length cc))) (fun i _ => (k.marks.length + 1 : Nat) - (intOf i).toNat)
  case atStart => exact ⟨0, by omega, rfl, rfl, HT.out⟩
  case round =>
  obtain ⟨j, hj, rfl, HA, HT2⟩ := hrel
  clear HT
  have lb := HT2.out.box.lt
  obtain ⟨c0, c1, c2, c3, c4, c5⟩ := HT2.out.cells
  by_cases hjl : j < k.marks.length
  ·have hx : k.marks[j]? = some k.marks[j] := List.getElem?_eq_getElem hjl
   have hc := mark_at (HS.out.marks.later HT2.out.bel) hx
   generalize k.marks[j] = x at hx hc
   obtain ⟨g, c', e, hg, _, t0, t1, t2⟩ := hc
   injection e with e1 e2 e3
   subst e1; subst e3
   have hj1 : (j : Int) < (k.marks.length : Int) := by omega
   have hj0 : (0 : Int) ≤ (j : Int) := by omega
   have hBx := Blk.new wr 108 #[.int .i64 x.f, .int .i64 x.n, .int .i64 x.u]
   have HT3 := Lib.hid (HT2.out.alloc (.cells #[.int .i64 x.f, .int .i64 x.n, .int .i64 x.u] 108))
   by_cases h1 : x.u ≤ k.time
   ·have HR := Lib.hid (okK_marks (all_bad hx (mark_f (.inl h1))))
    clear hx
    go_wp2
    go_ret
    exact ⟨nb.ret_bool HR.out.symm, HT3.out.bel⟩
   by_cases hf : x.f = k.id
   ·have kf : (x.f == k.id) = true := by simpa using hf
    have HF := Lib.hid hf
    clear hf
    by_cases hn : k.next ≤ x.n
    ·have HR := Lib.hid (okK_marks (all_bad hx (mark_f (.inr ⟨HF.out, hn⟩))))
     clear hx
     go_wp2
     go_ret
     exact ⟨nb.ret_bool HR.out.symm, HT3.out.bel⟩
    ·have HR := Lib.hid (all_on HA.out hx (mark_t (by omega) (by omega)))
     clear hx
     go_wp2
     go_roundw
     case rel => exact ⟨j + 1, by omega, by go_num, HR.out, HT3.out⟩
     case measure => simp [intOf]; omega
   ·have kf : (x.f == k.id) = false := by simpa using hf
    have HR := Lib.hid (all_on HA.out hx (mark_t (by omega) (by omega)))
    clear hx hf
    go_wp2
    go_roundw
    case rel => exact ⟨j + 1, by omega, by go_num, HR.out, HT3.out⟩
    case measure => simp [intOf]; omega
  ·have HM := Lib.hid (all_end HA.out (by omega))
   clear HA
   have HT := HT2
   clear HT2
   go_wp2
   clear lb c0 c1 c2 c3 c4 c5 hj hjl
   go_loopw [7] (fun i wr => ∃ j : Nat, j ≤ k.inbox.length ∧ i = .int .i64 j ∧ Hid ((k.inbox.take j).all (inOk k) = true) ∧ Hid (KB w wr k (.slice Aa k.held.length ca) (.slice Ab k.marks.length cb) (.slice Ac k.inbox.length cc))) (fun i _ => (k.inbox.length + 1 : Nat) - (intOf i).toNat)
   case atStart => exact ⟨0, by omega, rfl, rfl, HT.out⟩
   case round =>
   obtain ⟨j, hj, rfl, HA, HT2⟩ := hrel
   clear HT
   have lb := HT2.out.box.lt
   obtain ⟨c0, c1, c2, c3, c4, c5⟩ := HT2.out.cells
   by_cases hjl : j < k.inbox.length
   ·have hx : k.inbox[j]? = some k.inbox[j] := List.getElem?_eq_getElem hjl
    have hc := note_at (HS.out.inbox.later HT2.out.bel) hx
    generalize k.inbox[j] = x at hx hc
    obtain ⟨g, c', e, hg, _, t0, t1, t2, t3, t4⟩ := hc
    injection e with e1 e2 e3
    subst e1; subst e3
    have hj1 : (j : Int) < (k.inbox.length : Int) := by omega
    have hj0 : (0 : Int) ≤ (j : Int) := by omega
    have hBx := Blk.new wr 105 #[.int .i64 x.f, .int .i64 x.n, .int .i64 x.t, .int .i64 x.u, .string x.s]
    have HT3 := Lib.hid (HT2.out.alloc (.cells #[.int .i64 x.f, .int .i64 x.n, .int .i64 x.t, .int .i64 x.u, .string x.s] 105))
    by_cases h1 : x.t = k.id
    ·have kx : (x.t == k.id) = true := by simpa using h1
     have kx' : (x.t != k.id) = false := by simpa using h1
     have HX := Lib.hid h1
     clear h1
     by_cases hf : x.f = k.id
     ·have kf : (x.f == k.id) = true := by simpa using hf
      have HF := Lib.hid hf
      clear hf
      by_cases hn : k.next ≤ x.n
      ·have HR := Lib.hid (okK_inbox (all_bad hx (in_f (.inr (.inl ⟨HF.out, hn⟩)))))
       clear hx
       go_wp2
       go_ret
       exact ⟨nb.ret_bool HR.out.symm, HT3.out.bel⟩
      ·by_cases hu : k.time < x.u
       ·go_wp2_with fail
        generalize wr.alloc (.cells #[.int .i64 x.f, .int .i64 x.n, .int .i64 x.t, .int .i64 x.u, .string x.s] 105) = V1 at hBx HT3 ⊢
        with_reducible refine (H8.out x.f x.n _ HT3.out.bel).mono ?_
        rintro e w5 ⟨rfl, rfl⟩
        rcases ixM_cases k.marks x.f x.n with ⟨hm, hi⟩ | ⟨hm, i, y, hi, _, _, _⟩
        ·have HR := Lib.hid (okK_inbox (all_bad hx (in_f (.inr (.inr ⟨hu, hm⟩)))))
         rw [hi]
         clear hx hi
         go_wp2
         go_ret
         exact ⟨nb.ret_bool HR.out.symm, HT3.out.bel⟩
        ·have HR := Lib.hid (all_on HA.out hx (in_t HX.out (by omega) (fun p => by rw [hm] at p; cases p.2)))
         rw [hi]
         have i9 : (0 : Int) ≤ ((i : Nat) : Int) := by omega
         clear hx hi
         go_wp2
         go_roundw
         case rel => exact ⟨j + 1, by omega, by go_num, HR.out, HT3.out⟩
         case measure => simp [intOf]; omega
       ·have HR := Lib.hid (all_on HA.out hx (in_t HX.out (by omega) (fun p => hu p.1)))
        clear hx
        go_wp2
        go_roundw
        case rel => exact ⟨j + 1, by omega, by go_num, HR.out, HT3.out⟩
        case measure => simp [intOf]; omega
     ·have kf : (x.f == k.id) = false := by simpa using hf
      by_cases hu : k.time < x.u
      ·go_wp2_with fail
       generalize wr.alloc (.cells #[.int .i64 x.f, .int .i64 x.n, .int .i64 x.t, .int .i64 x.u, .string x.s] 105) = V1 at hBx HT3 ⊢
       with_reducible refine (H8.out x.f x.n _ HT3.out.bel).mono ?_
       rintro e w5 ⟨rfl, rfl⟩
       rcases ixM_cases k.marks x.f x.n with ⟨hm, hi⟩ | ⟨hm, i, y, hi, _, _, _⟩
       ·have HR := Lib.hid (okK_inbox (all_bad hx (in_f (.inr (.inr ⟨hu, hm⟩)))))
        rw [hi]
        clear hx hi
        go_wp2
        go_ret
        exact ⟨nb.ret_bool HR.out.symm, HT3.out.bel⟩
       ·have HR := Lib.hid (all_on HA.out hx (in_t HX.out (by omega) (fun p => by rw [hm] at p; cases p.2)))
        rw [hi]
        have i9 : (0 : Int) ≤ ((i : Nat) : Int) := by omega
        clear hx hi
        go_wp2
        go_roundw
        case rel => exact ⟨j + 1, by omega, by go_num, HR.out, HT3.out⟩
        case measure => simp [intOf]; omega
      ·have HR := Lib.hid (all_on HA.out hx (in_t HX.out (by omega) (fun p => hu p.1)))
       clear hx
       go_wp2
       go_roundw
       case rel => exact ⟨j + 1, by omega, by go_num, HR.out, HT3.out⟩
       case measure => simp [intOf]; omega
    ·have kx : (x.t == k.id) = false := by simpa using h1
     have kx' : (x.t != k.id) = true := by simpa using h1
     have HR := Lib.hid (okK_inbox (all_bad hx (in_f (.inl h1))))
     clear hx
     go_wp2
     go_ret
     exact ⟨nb.ret_bool HR.out.symm, HT3.out.bel⟩
   ·have HR := Lib.hid (okK_all HP.out HH.out HM.out (all_end HA.out (by omega)))
    go_wp2
    go_ret
    exact ⟨nb.ret_bool HR.out.symm, HT2.out.bel⟩
end Go.Proofs.YtckicpnnclbkpaaGreatDoor.kp

