/-
  Contract of spec.l12Marks.
-/
import Derived.Test.YtgihbilpimempabSKeep2
namespace Go.Proofs.Ytgihbilpimempab.kp
open Go.ChangeShapes Go.WideShapes Go.ChangeAt Go.RowKit
open Go.Proofs.Ytgihbilpimempab.wd Go.Proofs.Ytgihbilpimempab.ow Go.Proofs.Ytgihbilpimempab.rl Go.Proofs.Ytgihbilpimempab.ok Go.Proofs.Ytgihbilpimempab.nb

theorem okMk_f {x : Mk} (h : inB x.f 0 3 = false ∨ inB x.n 1 99 = false ∨ inB x.u 1 999 = false) : okMk x = false := by
  unfold okMk
  rcases h with h | h | h <;> simp [h]
theorem okMk_t {x : Mk} (h1 : inB x.f 0 3 = true) (h2 : inB x.n 1 99 = true) (h3 : inB x.u 1 999 = true) : okMk x = true := by
  unfold okMk
  rw [h1, h2, h3]
  rfl
theorem ordM_bad {l : List Mk} {k : Nat} {x : Mk} (hx : l[k]? = some x) (h : okMk x = false) : ordM l k = false := by
  unfold ordM
  rw [hx]
  simp [h]

set_option maxRecDepth 100000 in
set_option maxHeartbeats 4000000 in
theorem marks_any (w : World) (v : Value) (l : List Mk) (h : SeesMk w v l) (hl : l.length ≤ 1048576) :
    Calls Try.prog 33 #[v] w (BoolK w (okMks l)) := by
  have HS := Lib.hid h
  obtain ⟨A, c, rfl, _⟩ := h
  by_cases hlong : 12 < l.length
  · rw [okMks_long hlong]
    go_enter Try.func33, Try.ntmps33
    go_wp2
    go_ret
    exact ⟨rfl, Below.refl _ _⟩
  go_enter Try.func33, Try.ntmps33
  go_wp2
  go_loopw [3] (fun i wr => ∃ k : Nat, k ≤ l.length ∧ i = .int .i64 k ∧ Hid (allI k (ordM l) = true) ∧ Below w.heap.size w wr) (fun i _ => (l.length + 1 : Nat) - (intOf i).toNat)
  case atStart => exact ⟨0, by omega, rfl, rfl, Below.refl _ _⟩
  case round =>
    obtain ⟨k, hk, rfl, HA, hB⟩ := hrel
    by_cases hkl : k < l.length
    · have hx : l[k]? = some l[k] := List.getElem?_eq_getElem hkl
      have hc := mark_at (HS.out.later hB) hx
      generalize l[k] = x at hx hc
      obtain ⟨g, c', e, hg, _, t0, t1, t2⟩ := hc
      injection e with e1 e2 e3
      subst e1; subst e3
      have hk0 : (0 : Int) ≤ (k : Int) := by omega
      have hk1 : (k : Int) < (l.length : Int) := by omega
      have H1 := Lib.hid (fun V => (keeper_any x.f V).mono (R' := fun e w' => e = .returned (.bool (inB x.f 0 3)) ∧ w' = V) fun _ _ h => ⟨h.1, h.2.symm⟩)
      have H2 := Lib.hid (fun V => (in_any x.n 1 99 V).mono (R' := fun e w' => e = .returned (.bool (inB x.n 1 99)) ∧ w' = V) fun _ _ h => ⟨h.1, h.2.symm⟩)
      have H3 := Lib.hid (fun V => (in_any x.u 1 999 V).mono (R' := fun e w' => e = .returned (.bool (inB x.u 1 999)) ∧ w' = V) fun _ _ h => ⟨h.1, h.2.symm⟩)
      have hBx := Blk.new wr 60 #[.int .i64 x.f, .int .i64 x.n, .int .i64 x.u]
      have hB2 := Lib.hid (hB.alloc hB.size (.cells #[.int .i64 x.f, .int .i64 x.n, .int .i64 x.u] 60))
      have m0 := hBx.cell 0
      have m1 := hBx.cell 1
      have m2 := hBx.cell 2
      simp only [List.getElem?_toArray, List.getElem?_cons_zero, List.getElem?_cons_succ] at m0 m1 m2
      cases b1 : inB x.f 0 3 with
      | false =>
        have HR := Lib.hid (okMks_bad hkl (ordM_bad hx (okMk_f (.inl b1))))
        rw [b1] at H1
        clear b1 hx
        go_wp2_with fail
        generalize wr.heap.size = R at m0 m1 m2 hBx ⊢
        generalize wr.alloc (.cells #[.int .i64 x.f, .int .i64 x.n, .int .i64 x.u] 60) = V at m0 m1 m2 hBx hB2 ⊢
        go_quiet ((go_at_call 20; with_reducible exact Calls.quiet_of_same (H1.out _)))
        go_wp2
        go_ret
        exact ⟨nb.ret_bool HR.out.symm, below_drewN' hB2.out _⟩
      | true =>
        rw [b1] at H1
        cases b2 : inB x.n 1 99 with
        | false =>
          have HR := Lib.hid (okMks_bad hkl (ordM_bad hx (okMk_f (.inr (.inl b2)))))
          rw [b2] at H2
          clear b1 b2 hx
          go_wp2_with fail
          generalize wr.heap.size = R at m0 m1 m2 hBx ⊢
          generalize wr.alloc (.cells #[.int .i64 x.f, .int .i64 x.n, .int .i64 x.u] 60) = V at m0 m1 m2 hBx hB2 ⊢
          go_quiet ((first | (go_at_call 20; with_reducible exact Calls.quiet_of_same (H1.out _)) | (go_at_call 31; with_reducible exact Calls.quiet_of_same (H2.out _))))
          go_wp2
          go_ret
          exact ⟨nb.ret_bool HR.out.symm, below_drewN' hB2.out _⟩
        | true =>
          rw [b2] at H2
          cases b3 : inB x.u 1 999 with
          | false =>
            have HR := Lib.hid (okMks_bad hkl (ordM_bad hx (okMk_f (.inr (.inr b3)))))
            rw [b3] at H3
            clear b1 b2 b3 hx
            go_wp2_with fail
            generalize wr.heap.size = R at m0 m1 m2 hBx ⊢
            generalize wr.alloc (.cells #[.int .i64 x.f, .int .i64 x.n, .int .i64 x.u] 60) = V at m0 m1 m2 hBx hB2 ⊢
            go_quiet ((first | (go_at_call 20; with_reducible exact Calls.quiet_of_same (H1.out _)) | (go_at_call 31; with_reducible exact Calls.quiet_of_same (H2.out _)) | (go_at_call 31; with_reducible exact Calls.quiet_of_same (H3.out _))))
            go_wp2
            go_ret
            exact ⟨nb.ret_bool HR.out.symm, below_drewN' hB2.out _⟩
          | true =>
            rw [b3] at H3
            have hok := okMk_t b1 b2 b3
            clear b1 b2 b3
            rcases Nat.eq_zero_or_pos k with hk00 | hpos
            · subst hk00
              have HR := Lib.hid (allI_on HA.out (show ordM l 0 = true by rw [ordM_zero hx, hok]))
              clear hx hok
              go_wp2_with fail
              generalize wr.heap.size = R at m0 m1 m2 hBx ⊢
              generalize wr.alloc (.cells #[.int .i64 x.f, .int .i64 x.n, .int .i64 x.u] 60) = V at m0 m1 m2 hBx hB2 ⊢
              go_quiet ((first | (go_at_call 20; with_reducible exact Calls.quiet_of_same (H1.out _)) | (go_at_call 31; with_reducible exact Calls.quiet_of_same (H2.out _)) | (go_at_call 31; with_reducible exact Calls.quiet_of_same (H3.out _))))
              have R := Lib.hid (below_drewN' hB2.out nq)
              go_wp2
              go_roundw
              case rel => exact ⟨1, by omega, by go_num, HR.out, R.out⟩
              case measure => simp [intOf]
            · obtain ⟨j, hkj⟩ : ∃ j, k = j + 1 := ⟨k - 1, by omega⟩
              have hy : l[j]? = some l[j] := List.getElem?_eq_getElem (by omega)
              have hcy := mark_at (HS.out.later (hB.alloc hB.size (.cells #[.int .i64 x.f, .int .i64 x.n, .int .i64 x.u] 60))) hy
              generalize l[j] = y at hy hcy
              obtain ⟨g', c'', e', _, _, y0, y1, _⟩ := hcy
              injection e' with e1 e2 e3
              injection e1 with e1
              injection e1 with e1
              subst e1
              clear e2 e3
              have HL := Lib.hid (fun V => (less_any y.f y.n x.f x.n V).mono (R' := fun e w' => e = .returned (.bool (less y.f y.n x.f x.n)) ∧ w' = V) fun _ _ h => ⟨h.1, h.2.symm⟩)
              have i0 : IntKind.i64.wrap ((k : Int) - 1) = (j : Int) := by rw [IntKind.wrap_i64]; omega
              have i1 : (0 : Int) ≤ (j : Int) := by omega
              have i2 : (j : Int) < (l.length : Int) := by omega
              have i3 : (0 : Int) < (k : Int) := by omega
              have HKJ := Lib.hid hkj
              have hx2 : l[j + 1]? = some x := by rw [← hkj]; exact hx
              clear hkj
              cases hls : less y.f y.n x.f x.n with
              | false =>
                have HR := Lib.hid (okMks_bad hkl (show ordM l k = false by rw [HKJ.out, ordM_succ hx2 hy, hls, Bool.and_false]))
                rw [hls] at HL
                clear hx hy hx2 hls hok
                go_wp2_with fail
                generalize wr.heap.size = R at m0 m1 m2 hBx ⊢
                generalize wr.alloc (.cells #[.int .i64 x.f, .int .i64 x.n, .int .i64 x.u] 60) = V at m0 m1 m2 hBx hB2 y0 y1 ⊢
                go_quiet ((first | (go_at_call 20; with_reducible exact Calls.quiet_of_same (H1.out _)) | (go_at_call 31; with_reducible exact Calls.quiet_of_same (H2.out _)) | (go_at_call 31; with_reducible exact Calls.quiet_of_same (H3.out _)) | (go_at_call 52; with_reducible exact Calls.quiet_of_same (HL.out _))))
                go_wp2
                go_ret
                exact ⟨nb.ret_bool HR.out.symm, below_drewN' hB2.out _⟩
              | true =>
                have HR := Lib.hid (allI_on HA.out (show ordM l k = true by rw [HKJ.out, ordM_succ hx2 hy, hls, hok]; rfl))
                rw [hls] at HL
                clear hx hy hx2 hls hok
                go_wp2_with fail
                generalize wr.heap.size = R at m0 m1 m2 hBx ⊢
                generalize wr.alloc (.cells #[.int .i64 x.f, .int .i64 x.n, .int .i64 x.u] 60) = V at m0 m1 m2 hBx hB2 y0 y1 ⊢
                go_quiet ((first | (go_at_call 20; with_reducible exact Calls.quiet_of_same (H1.out _)) | (go_at_call 31; with_reducible exact Calls.quiet_of_same (H2.out _)) | (go_at_call 31; with_reducible exact Calls.quiet_of_same (H3.out _)) | (go_at_call 52; with_reducible exact Calls.quiet_of_same (HL.out _))))
                have R := Lib.hid (below_drewN' hB2.out nq)
                go_wp2
                go_roundw
                case rel => exact ⟨k + 1, by omega, by go_num, HR.out, R.out⟩
                case measure => simp [intOf]; omega
    · obtain rfl : k = l.length := by omega
      have HR := Lib.hid (okMks_all (by omega) HA.out)
      go_wp2
      go_ret
      exact ⟨nb.ret_bool HR.out.symm, hB⟩
end Go.Proofs.Ytgihbilpimempab.kp
