/-
  Contract of spec.FrameOk.
-/
import Derived.Test.YtgihbilpimempaaFrRow
import Derived.Lib.Strings
import Derived.Deep.QuietTactic
import Derived.BigQuiet
namespace Go.Proofs.Ytgihbilpimempaa.fr
open Go.ChangeShapes Go.WideShapes Go.ChangeAt Go.RowKit
open Go.Proofs.Ytgihbilpimempaa.nb Go.Proofs.Ytgihbilpimempaa.wd Go.Proofs.Ytgihbilpimempaa.nx Go.Proofs.Ytgihbilpimempaa.ow

def BoolPost (w : World) (b : Bool) (e : Ending) (w' : World) : Prop := e = .returned (.bool b) ∧ Below w.heap.size w w'
theorem okF_head {F : Fr} (h : okHead F = false ∨ inB F.k 1 3 = false) : okF F = false := by
  unfold okF
  rcases h with h | h <;> simp [h]
theorem okF_tail {F : Fr} (h : okHead F = true) (hk : inB F.k 1 3 = true) : okF F = (if F.k = 1 then okPiece F else okAns F) := by
  unfold okF
  rw [h, hk]
  rfl

theorem sfok_head (k s d f n t u z m : Int) (x : ByteArray) (w : World) (h : inB k 1 3 = false ∨ inB s 0 3 = false ∨ inB d 0 3 = false ∨ inB f 0 3 = false ∨ inB t 0 3 = false ∨ inB n 1 99 = false ∨ inB u 1 999 = false) :
    Calls Try.prog 14 #[frv ⟨k, s, d, f, n, t, u, z, m, x⟩] w (BoolPost w false) := by
  unfold frv
  simp only
  cases k1 : inB k 1 3 with
  | false =>
    clear h
    go_enter Try.func14, Try.ntmps14
    go_wp2_with (first | (go_at_call 32; refine (keeper_any _ _).mono ?_; rintro e w' ⟨rfl, rfl⟩) | (go_at_call 31; refine (in_any _ _ _ _).mono ?_; rintro e w' ⟨rfl, rfl⟩))
    go_ret
    exact ⟨rfl, (Below.refl _ _).alloc (Nat.le_refl _) _⟩
  | true =>
  cases k2 : inB s 0 3 with
  | false =>
    clear h
    go_enter Try.func14, Try.ntmps14
    go_wp2_with (first | (go_at_call 32; refine (keeper_any _ _).mono ?_; rintro e w' ⟨rfl, rfl⟩) | (go_at_call 31; refine (in_any _ _ _ _).mono ?_; rintro e w' ⟨rfl, rfl⟩))
    go_ret
    exact ⟨rfl, (Below.refl _ _).alloc (Nat.le_refl _) _⟩
  | true =>
  cases k3 : inB d 0 3 with
  | false =>
    clear h
    go_enter Try.func14, Try.ntmps14
    go_wp2_with (first | (go_at_call 32; refine (keeper_any _ _).mono ?_; rintro e w' ⟨rfl, rfl⟩) | (go_at_call 31; refine (in_any _ _ _ _).mono ?_; rintro e w' ⟨rfl, rfl⟩))
    go_ret
    exact ⟨rfl, (Below.refl _ _).alloc (Nat.le_refl _) _⟩
  | true =>
  cases k4 : inB f 0 3 with
  | false =>
    clear h
    go_enter Try.func14, Try.ntmps14
    go_wp2_with (first | (go_at_call 32; refine (keeper_any _ _).mono ?_; rintro e w' ⟨rfl, rfl⟩) | (go_at_call 31; refine (in_any _ _ _ _).mono ?_; rintro e w' ⟨rfl, rfl⟩))
    go_ret
    exact ⟨rfl, (Below.refl _ _).alloc (Nat.le_refl _) _⟩
  | true =>
  cases k5 : inB t 0 3 with
  | false =>
    clear h
    go_enter Try.func14, Try.ntmps14
    go_wp2_with (first | (go_at_call 32; refine (keeper_any _ _).mono ?_; rintro e w' ⟨rfl, rfl⟩) | (go_at_call 31; refine (in_any _ _ _ _).mono ?_; rintro e w' ⟨rfl, rfl⟩))
    go_ret
    exact ⟨rfl, (Below.refl _ _).alloc (Nat.le_refl _) _⟩
  | true =>
  cases k6 : inB n 1 99 with
  | false =>
    clear h
    go_enter Try.func14, Try.ntmps14
    go_wp2_with (first | (go_at_call 32; refine (keeper_any _ _).mono ?_; rintro e w' ⟨rfl, rfl⟩) | (go_at_call 31; refine (in_any _ _ _ _).mono ?_; rintro e w' ⟨rfl, rfl⟩))
    go_ret
    exact ⟨rfl, (Below.refl _ _).alloc (Nat.le_refl _) _⟩
  | true =>
  cases k7 : inB u 1 999 with
  | false =>
    clear h
    go_enter Try.func14, Try.ntmps14
    go_wp2_with (first | (go_at_call 32; refine (keeper_any _ _).mono ?_; rintro e w' ⟨rfl, rfl⟩) | (go_at_call 31; refine (in_any _ _ _ _).mono ?_; rintro e w' ⟨rfl, rfl⟩))
    go_ret
    exact ⟨rfl, (Below.refl _ _).alloc (Nat.le_refl _) _⟩
  | true =>
  rw [k1, k2, k3, k4, k5, k6, k7] at h
  simp at h

theorem toList_ne {x y : ByteArray} (h : x ≠ y) : (x.toList == y.toList) = false := by
  rw [beq_eq_false_iff_ne]
  intro e
  rw [ByteArray.toList_eq, ByteArray.toList_eq] at e
  apply h
  cases x; cases y
  simp at e
  rw [e]
theorem str_empty {x : ByteArray} (h : x.size = 0) : x = ⟨#[]⟩ := by
  obtain ⟨⟨l⟩⟩ := x
  have : l = [] := List.eq_nil_of_length_eq_zero h
  rw [this]
theorem below_box {w : World} (o : Obj) (n : Nat) : Below w.heap.size w ((w.alloc o).drewN n) := below_drewN' ((Below.refl _ _).alloc (Nat.le_refl _) o) n

set_option maxRecDepth 100000 in
set_option maxHeartbeats 1000000 in
theorem sfok_ans (k s d f n t u z m : Int) (x : ByteArray) (w : World) (hx : x.size ≤ maxLen) (k1 : inB k 1 3 = true) (k2 : inB s 0 3 = true) (k3 : inB d 0 3 = true) (k4 : inB f 0 3 = true) (k5 : inB t 0 3 = true) (k6 : inB n 1 99 = true) (k7 : inB u 1 999 = true) (hk : k ≠ 1) :
    Calls Try.prog 14 #[frv ⟨k, s, d, f, n, t, u, z, m, x⟩] w (BoolPost w (okAns ⟨k, s, d, f, n, t, u, z, m, x⟩)) := by
  unfold maxLen at hx
  have hx' : (x.size : Int) ≤ 9223372036854775807 := by omega
  have hb := Blk.new w 27 #[.int .i64 k, .int .i64 s, .int .i64 d, .int .i64 f, .int .i64 n, .int .i64 t, .int .i64 u, .int .i64 z, .int .i64 m, .string x]
  obtain ⟨c0, c1, c2, c3, c4, c5, c6, c7, c8, c9, hlt⟩ := ten hb
  clear hb hlt
  have HB := Lib.hid (fun n' => below_box (w := w) (.cells #[.int .i64 k, .int .i64 s, .int .i64 d, .int .i64 f, .int .i64 n, .int .i64 t, .int .i64 u, .int .i64 z, .int .i64 m, .string x] 27) n')
  have HN := Lib.hid (fun V => (snext_any d t V).mono (R' := fun e w' => e = .returned (.int .i64 (nxt d t)) ∧ w' = V) fun _ _ h => ⟨h.1, h.2.symm⟩)
  have HE : ∀ y, (okAns ⟨k, s, d, f, n, t, u, z, m, x⟩ = y) = ((decide (nxt d t = s) && decide (z = 0) && decide (m = 0) && decide (x.size = 0)) = y) := fun _ => rfl
  have hk' : ¬ k = 1 := hk
  unfold frv
  simp only
  generalize nxt d t = N at HN HE
  by_cases e1 : N = s
  · have q1 : (N == s) = true := beq_iff_eq.2 e1
    by_cases e2 : z = 0
    · have q2 : (z == 0) = true := beq_iff_eq.2 e2
      by_cases e3 : m = 0
      · have q3 : (m == 0) = true := beq_iff_eq.2 e3
        by_cases e4 : x.size = 0
        · have R := Lib.hid (show okAns ⟨k, s, d, f, n, t, u, z, m, x⟩ = true by rw [HE]; simp [e1, e2, e3, e4])
          have q4 : (x.toList == ([] : List UInt8)) = true := by rw [ByteArray.toList_eq, str_empty e4]; rfl
          clear HE e1 e2 e3 e4
          go_enter Try.func14, Try.ntmps14
          go_wp2_with (first | (go_at_call 32; refine (keeper_any _ _).mono ?_; rintro e w' ⟨rfl, rfl⟩) | (go_at_call 31; refine (in_any _ _ _ _).mono ?_; rintro e w' ⟨rfl, rfl⟩))
          generalize w.heap.size = g at c0 c1 c2 c3 c4 c5 c6 c7 c8 c9 ⊢
          generalize w.alloc (.cells #[.int .i64 k, .int .i64 s, .int .i64 d, .int .i64 f, .int .i64 n, .int .i64 t, .int .i64 u, .int .i64 z, .int .i64 m, .string x] 27) = V at c0 c1 c2 c3 c4 c5 c6 c7 c8 c9 HB ⊢
          go_quiet ((go_at_call 33; with_reducible exact Calls.quiet_of_same (HN.out _)))
          go_wp2
          go_ret
          exact ⟨nb.ret_bool R.out.symm, HB.out _⟩
        · have R := Lib.hid (show okAns ⟨k, s, d, f, n, t, u, z, m, x⟩ = false by rw [HE]; simp [e4])
          have q4 : (x.toList == ([] : List UInt8)) = false := by
            have := toList_ne (x := x) (y := ⟨#[]⟩) (fun h => e4 (by rw [h]; rfl))
            simpa using this
          clear HE e1 e2 e3 e4
          go_enter Try.func14, Try.ntmps14
          go_wp2_with (first | (go_at_call 32; refine (keeper_any _ _).mono ?_; rintro e w' ⟨rfl, rfl⟩) | (go_at_call 31; refine (in_any _ _ _ _).mono ?_; rintro e w' ⟨rfl, rfl⟩))
          generalize w.heap.size = g at c0 c1 c2 c3 c4 c5 c6 c7 c8 c9 ⊢
          generalize w.alloc (.cells #[.int .i64 k, .int .i64 s, .int .i64 d, .int .i64 f, .int .i64 n, .int .i64 t, .int .i64 u, .int .i64 z, .int .i64 m, .string x] 27) = V at c0 c1 c2 c3 c4 c5 c6 c7 c8 c9 HB ⊢
          go_quiet ((go_at_call 33; with_reducible exact Calls.quiet_of_same (HN.out _)))
          go_wp2
          go_ret
          exact ⟨nb.ret_bool R.out.symm, HB.out _⟩
      · have R := Lib.hid (show okAns ⟨k, s, d, f, n, t, u, z, m, x⟩ = false by rw [HE]; simp [e3])
        have q3 : (m == 0) = false := beq_eq_false_iff_ne.2 e3
        clear HE e1 e2 e3
        go_enter Try.func14, Try.ntmps14
        go_wp2_with (first | (go_at_call 32; refine (keeper_any _ _).mono ?_; rintro e w' ⟨rfl, rfl⟩) | (go_at_call 31; refine (in_any _ _ _ _).mono ?_; rintro e w' ⟨rfl, rfl⟩))
        generalize w.heap.size = g at c0 c1 c2 c3 c4 c5 c6 c7 c8 c9 ⊢
        generalize w.alloc (.cells #[.int .i64 k, .int .i64 s, .int .i64 d, .int .i64 f, .int .i64 n, .int .i64 t, .int .i64 u, .int .i64 z, .int .i64 m, .string x] 27) = V at c0 c1 c2 c3 c4 c5 c6 c7 c8 c9 HB ⊢
        go_quiet ((go_at_call 33; with_reducible exact Calls.quiet_of_same (HN.out _)))
        go_wp2
        go_ret
        exact ⟨nb.ret_bool R.out.symm, HB.out _⟩
    · have R := Lib.hid (show okAns ⟨k, s, d, f, n, t, u, z, m, x⟩ = false by rw [HE]; simp [e2])
      have q2 : (z == 0) = false := beq_eq_false_iff_ne.2 e2
      clear HE e1 e2
      go_enter Try.func14, Try.ntmps14
      go_wp2_with (first | (go_at_call 32; refine (keeper_any _ _).mono ?_; rintro e w' ⟨rfl, rfl⟩) | (go_at_call 31; refine (in_any _ _ _ _).mono ?_; rintro e w' ⟨rfl, rfl⟩))
      generalize w.heap.size = g at c0 c1 c2 c3 c4 c5 c6 c7 c8 c9 ⊢
      generalize w.alloc (.cells #[.int .i64 k, .int .i64 s, .int .i64 d, .int .i64 f, .int .i64 n, .int .i64 t, .int .i64 u, .int .i64 z, .int .i64 m, .string x] 27) = V at c0 c1 c2 c3 c4 c5 c6 c7 c8 c9 HB ⊢
      go_quiet ((go_at_call 33; with_reducible exact Calls.quiet_of_same (HN.out _)))
      go_wp2
      go_ret
      exact ⟨nb.ret_bool R.out.symm, HB.out _⟩
  · have R := Lib.hid (show okAns ⟨k, s, d, f, n, t, u, z, m, x⟩ = false by rw [HE]; simp [e1])
    have q1 : (N == s) = false := beq_eq_false_iff_ne.2 e1
    clear HE e1
    go_enter Try.func14, Try.ntmps14
    go_wp2_with (first | (go_at_call 32; refine (keeper_any _ _).mono ?_; rintro e w' ⟨rfl, rfl⟩) | (go_at_call 31; refine (in_any _ _ _ _).mono ?_; rintro e w' ⟨rfl, rfl⟩))
    generalize w.heap.size = g at c0 c1 c2 c3 c4 c5 c6 c7 c8 c9 ⊢
    generalize w.alloc (.cells #[.int .i64 k, .int .i64 s, .int .i64 d, .int .i64 f, .int .i64 n, .int .i64 t, .int .i64 u, .int .i64 z, .int .i64 m, .string x] 27) = V at c0 c1 c2 c3 c4 c5 c6 c7 c8 c9 HB ⊢
    go_quiet ((go_at_call 33; with_reducible exact Calls.quiet_of_same (HN.out _)))
    go_wp2
    go_ret
    exact ⟨nb.ret_bool R.out.symm, HB.out _⟩

set_option maxRecDepth 100000 in
set_option maxHeartbeats 1000000 in
theorem sfok_piece (k s d f n t u z m : Int) (x : ByteArray) (w : World) (hx : x.size ≤ maxLen) (k1 : inB k 1 3 = true) (k2 : inB s 0 3 = true) (k3 : inB d 0 3 = true) (k4 : inB f 0 3 = true) (k5 : inB t 0 3 = true) (k6 : inB n 1 99 = true) (k7 : inB u 1 999 = true) (hk : k = 1) :
    Calls Try.prog 14 #[frv ⟨k, s, d, f, n, t, u, z, m, x⟩] w (BoolPost w (okPiece ⟨k, s, d, f, n, t, u, z, m, x⟩)) := by
  unfold maxLen at hx
  have hx' : (x.size : Int) ≤ 9223372036854775807 := by omega
  have hb := Blk.new w 27 #[.int .i64 k, .int .i64 s, .int .i64 d, .int .i64 f, .int .i64 n, .int .i64 t, .int .i64 u, .int .i64 z, .int .i64 m, .string x]
  obtain ⟨c0, c1, c2, c3, c4, c5, c6, c7, c8, c9, hlt⟩ := ten hb
  clear hb hlt
  have HB := Lib.hid (fun n' => below_box (w := w) (.cells #[.int .i64 k, .int .i64 s, .int .i64 d, .int .i64 f, .int .i64 n, .int .i64 t, .int .i64 u, .int .i64 z, .int .i64 m, .string x] 27) n')
  have HN := Lib.hid (fun V => (snext_any s t V).mono (R' := fun e w' => e = .returned (.int .i64 (nxt s t)) ∧ w' = V) fun _ _ h => ⟨h.1, h.2.symm⟩)
  have HZ := Lib.hid (fun V => (in_any z 1 24 V).mono (R' := fun e w' => e = .returned (.bool (inB z 1 24)) ∧ w' = V) fun _ _ h => ⟨h.1, h.2.symm⟩)
  have HM := Lib.hid (fun V => (in_any m 0 999 V).mono (R' := fun e w' => e = .returned (.bool (inB m 0 999)) ∧ w' = V) fun _ _ h => ⟨h.1, h.2.symm⟩)
  have HE : ∀ y, (okPiece ⟨k, s, d, f, n, t, u, z, m, x⟩ = y) = ((decide (nxt s t = d) && inB z 1 24 && inB m 0 999 && decide (x.size = 4)) = y) := fun _ => rfl
  have hk' : (k != 1) = false := by rw [hk]; rfl
  clear hk
  unfold frv
  simp only
  generalize nxt s t = N at HN HE
  by_cases e1 : N = d
  · have q1 : (N == d) = true := beq_iff_eq.2 e1
    cases e2 : inB z 1 24 with
    | true =>
      rw [e2] at HZ
      cases e3 : inB m 0 999 with
      | true =>
        rw [e3] at HM
        by_cases e4 : x.size = 4
        · have R := Lib.hid (show okPiece ⟨k, s, d, f, n, t, u, z, m, x⟩ = true by rw [HE]; simp [e1, e2, e3, e4])
          have q4 : ((x.size : Int) == 4) = true := by rw [e4]; rfl
          clear HE e1 e4 e2 e3
          go_enter Try.func14, Try.ntmps14
          go_wp2_with (first | (go_at_call 32; refine (keeper_any _ _).mono ?_; rintro e w' ⟨rfl, rfl⟩) | (go_at_call 31; refine (in_any _ _ _ _).mono ?_; rintro e w' ⟨rfl, rfl⟩))
          generalize w.heap.size = g at c0 c1 c2 c3 c4 c5 c6 c7 c8 c9 ⊢
          generalize w.alloc (.cells #[.int .i64 k, .int .i64 s, .int .i64 d, .int .i64 f, .int .i64 n, .int .i64 t, .int .i64 u, .int .i64 z, .int .i64 m, .string x] 27) = V at c0 c1 c2 c3 c4 c5 c6 c7 c8 c9 HB ⊢
          go_quiet ((first | (go_at_call 33; with_reducible exact Calls.quiet_of_same (HN.out _)) | (go_at_call 31; with_reducible exact Calls.quiet_of_same (HZ.out _)) | (go_at_call 31; with_reducible exact Calls.quiet_of_same (HM.out _))))
          go_wp2
          go_ret
          exact ⟨nb.ret_bool R.out.symm, HB.out _⟩
        · have R := Lib.hid (show okPiece ⟨k, s, d, f, n, t, u, z, m, x⟩ = false by rw [HE]; simp [e4])
          have q4 : ((x.size : Int) == 4) = false := beq_eq_false_iff_ne.2 (by omega)
          clear HE e1 e4 e2 e3
          go_enter Try.func14, Try.ntmps14
          go_wp2_with (first | (go_at_call 32; refine (keeper_any _ _).mono ?_; rintro e w' ⟨rfl, rfl⟩) | (go_at_call 31; refine (in_any _ _ _ _).mono ?_; rintro e w' ⟨rfl, rfl⟩))
          generalize w.heap.size = g at c0 c1 c2 c3 c4 c5 c6 c7 c8 c9 ⊢
          generalize w.alloc (.cells #[.int .i64 k, .int .i64 s, .int .i64 d, .int .i64 f, .int .i64 n, .int .i64 t, .int .i64 u, .int .i64 z, .int .i64 m, .string x] 27) = V at c0 c1 c2 c3 c4 c5 c6 c7 c8 c9 HB ⊢
          go_quiet ((first | (go_at_call 33; with_reducible exact Calls.quiet_of_same (HN.out _)) | (go_at_call 31; with_reducible exact Calls.quiet_of_same (HZ.out _)) | (go_at_call 31; with_reducible exact Calls.quiet_of_same (HM.out _))))
          go_wp2
          go_ret
          exact ⟨nb.ret_bool R.out.symm, HB.out _⟩
      | false =>
        have R := Lib.hid (show okPiece ⟨k, s, d, f, n, t, u, z, m, x⟩ = false by rw [HE]; simp [e3])
        rw [e3] at HM
        clear HE e1 e2 e3
        go_enter Try.func14, Try.ntmps14
        go_wp2_with (first | (go_at_call 32; refine (keeper_any _ _).mono ?_; rintro e w' ⟨rfl, rfl⟩) | (go_at_call 31; refine (in_any _ _ _ _).mono ?_; rintro e w' ⟨rfl, rfl⟩))
        generalize w.heap.size = g at c0 c1 c2 c3 c4 c5 c6 c7 c8 c9 ⊢
        generalize w.alloc (.cells #[.int .i64 k, .int .i64 s, .int .i64 d, .int .i64 f, .int .i64 n, .int .i64 t, .int .i64 u, .int .i64 z, .int .i64 m, .string x] 27) = V at c0 c1 c2 c3 c4 c5 c6 c7 c8 c9 HB ⊢
        go_quiet ((first | (go_at_call 33; with_reducible exact Calls.quiet_of_same (HN.out _)) | (go_at_call 31; with_reducible exact Calls.quiet_of_same (HZ.out _)) | (go_at_call 31; with_reducible exact Calls.quiet_of_same (HM.out _))))
        go_wp2
        go_ret
        exact ⟨nb.ret_bool R.out.symm, HB.out _⟩
    | false =>
      have R := Lib.hid (show okPiece ⟨k, s, d, f, n, t, u, z, m, x⟩ = false by rw [HE]; simp [e2])
      rw [e2] at HZ
      clear HE e1 e2
      go_enter Try.func14, Try.ntmps14
      go_wp2_with (first | (go_at_call 32; refine (keeper_any _ _).mono ?_; rintro e w' ⟨rfl, rfl⟩) | (go_at_call 31; refine (in_any _ _ _ _).mono ?_; rintro e w' ⟨rfl, rfl⟩))
      generalize w.heap.size = g at c0 c1 c2 c3 c4 c5 c6 c7 c8 c9 ⊢
      generalize w.alloc (.cells #[.int .i64 k, .int .i64 s, .int .i64 d, .int .i64 f, .int .i64 n, .int .i64 t, .int .i64 u, .int .i64 z, .int .i64 m, .string x] 27) = V at c0 c1 c2 c3 c4 c5 c6 c7 c8 c9 HB ⊢
      go_quiet ((first | (go_at_call 33; with_reducible exact Calls.quiet_of_same (HN.out _)) | (go_at_call 31; with_reducible exact Calls.quiet_of_same (HZ.out _))))
      go_wp2
      go_ret
      exact ⟨nb.ret_bool R.out.symm, HB.out _⟩
  · have R := Lib.hid (show okPiece ⟨k, s, d, f, n, t, u, z, m, x⟩ = false by rw [HE]; simp [e1])
    have q1 : (N == d) = false := beq_eq_false_iff_ne.2 e1
    clear HE e1
    go_enter Try.func14, Try.ntmps14
    go_wp2_with (first | (go_at_call 32; refine (keeper_any _ _).mono ?_; rintro e w' ⟨rfl, rfl⟩) | (go_at_call 31; refine (in_any _ _ _ _).mono ?_; rintro e w' ⟨rfl, rfl⟩))
    generalize w.heap.size = g at c0 c1 c2 c3 c4 c5 c6 c7 c8 c9 ⊢
    generalize w.alloc (.cells #[.int .i64 k, .int .i64 s, .int .i64 d, .int .i64 f, .int .i64 n, .int .i64 t, .int .i64 u, .int .i64 z, .int .i64 m, .string x] 27) = V at c0 c1 c2 c3 c4 c5 c6 c7 c8 c9 HB ⊢
    go_quiet ((go_at_call 33; with_reducible exact Calls.quiet_of_same (HN.out _)))
    go_wp2
    go_ret
    exact ⟨nb.ret_bool R.out.symm, HB.out _⟩

theorem sfok_any (F : Fr) (w : World) (hx : F.x.size ≤ maxLen) : Calls Try.prog 14 #[frv F] w (BoolPost w (okF F)) := by
  obtain ⟨k, s, d, f, n, t, u, z, m, x⟩ := F
  by_cases h : inB k 1 3 = false ∨ inB s 0 3 = false ∨ inB d 0 3 = false ∨ inB f 0 3 = false ∨ inB t 0 3 = false ∨ inB n 1 99 = false ∨ inB u 1 999 = false
  · have e : okF ⟨k, s, d, f, n, t, u, z, m, x⟩ = false := by
      unfold okF okHead
      rcases h with h | h | h | h | h | h | h <;> simp [h]
    rw [e]
    exact sfok_head k s d f n t u z m x w h
  · simp only [not_or, Bool.not_eq_false] at h
    obtain ⟨h1, h2, h3, h4, h5, h6, h7⟩ := h
    rw [okF_tail (by unfold okHead; simp [h2, h3, h4, h5, h6, h7]) h1]
    by_cases hk : k = 1
    · rw [if_pos hk]; exact sfok_piece k s d f n t u z m x w hx h1 h2 h3 h4 h5 h6 h7 hk
    · rw [if_neg hk]; exact sfok_ans k s d f n t u z m x w hx h1 h2 h3 h4 h5 h6 h7 hk
end Go.Proofs.Ytgihbilpimempaa.fr
