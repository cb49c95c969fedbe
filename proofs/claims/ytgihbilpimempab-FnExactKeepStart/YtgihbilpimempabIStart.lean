/-
  Contract of impl.KeepStart.
-/
import Derived.Test.YtgihbilpimempabSStart
import Derived.Test.YtgihbilpimempabLim
namespace Go.Proofs.Ytgihbilpimempab.kp
open Go.ChangeShapes Go.WideShapes Go.ChangeAt Go.RowKit
open Go.Proofs.Ytgihbilpimempab.wd Go.Proofs.Ytgihbilpimempab.ow Go.Proofs.Ytgihbilpimempab.rl Go.Proofs.Ytgihbilpimempab.ok Go.Proofs.Ytgihbilpimempab.nb Go.Proofs.Ytgihbilpimempab.li

set_option maxRecDepth 100000 in
theorem istart_any (id : Int) (w : World) : Calls Try.prog 7 #[.int .i64 id] w (KeepPost w (startK id)) := by
  have H1 := Lib.hid (fun V => outside_any id 0 3 V)
  have k0 := Blk.new w 25 #[.int .i64 0, .int .i64 0, .int .i64 0, .slice none 0 0, .slice none 0 0, .slice none 0 0]
  have B0 := (Below.refl w.heap.size w).alloc (Nat.le_refl _) (.cells #[.int .i64 0, .int .i64 0, .int .i64 0, .slice none 0 0, .slice none 0 0, .slice none 0 0] 25)
  cases hb : inB id 0 3 with
  | false =>
    have HE := Lib.hid (show startK id = zeroK by unfold startK; rw [hb]; rfl)
    rw [hb] at H1
    go_enter Try.func7, Try.ntmps7
    go_wp2_with fail
    generalize w.alloc (.cells #[.int .i64 0, .int .i64 0, .int .i64 0, .slice none 0 0, .slice none 0 0, .slice none 0 0] 25) = V at k0 B0 ⊢
    refine (limited_any _ _).mono ?_
    rintro e w1 ⟨rfl, b1⟩
    have k1 := k0.below b1 k0.lt
    have B1 := B0.trans (b1.mono B0.size)
    clear k0 B0 b1
    go_wp2_with fail
    refine (H1.out _).mono ?_
    rintro e w2 ⟨rfl, b2⟩
    have k2 := k1.below b2 k1.lt
    have B2 := B1.trans (b2.mono B1.size)
    obtain ⟨r0, r1, r2, r3, r4, r5, f0, f1, f2, f3, f4, f5⟩ := res_cells k2
    have HC := Lib.hid (put6_blk (a' := .int .i64 0) (b' := .int .i64 0) (c' := .int .i64 0) (d' := .slice none 0 0) (e' := .slice none 0 0) (f' := .slice none 0 0) k2)
    have HD := Lib.hid (put6_below (B := w.heap.size) (R := w.heap.size) (Nat.le_refl _) B2 (.int .i64 0) (.int .i64 0) (.int .i64 0) (.slice none 0 0) (.slice none 0 0) (.slice none 0 0))
    clear k1 B1 b2 k2 B2
    go_wp2
    have x0 := HC.out.cell 0
    have x1 := HC.out.cell 1
    have x2 := HC.out.cell 2
    have x3 := HC.out.cell 3
    have x4 := HC.out.cell 4
    have x5 := HC.out.cell 5
    refine bodyPost_ret (v := kpV 0 0 0 (.slice none 0 0) (.slice none 0 0) (.slice none 0 0)) (by simp [results, Try.results7, go_sem, x0, x1, x2, x3, x4, x5]) rfl ⟨_, _, _, by rw [HE.out] <;> rfl, ?_⟩
    rw [HE.out]
    exact nil_own HD.out rfl rfl rfl
  | true =>
    have HE := Lib.hid (show startK id = ⟨id, 0, 1, [], [], []⟩ by unfold startK; rw [hb]; rfl)
    rw [hb] at H1
    go_enter Try.func7, Try.ntmps7
    go_wp2_with fail
    generalize w.alloc (.cells #[.int .i64 0, .int .i64 0, .int .i64 0, .slice none 0 0, .slice none 0 0, .slice none 0 0] 25) = V at k0 B0 ⊢
    refine (limited_any _ _).mono ?_
    rintro e w1 ⟨rfl, b1⟩
    have k1 := k0.below b1 k0.lt
    have B1 := B0.trans (b1.mono B0.size)
    clear k0 B0 b1
    go_wp2_with fail
    refine (H1.out _).mono ?_
    rintro e w2 ⟨rfl, b2⟩
    have k2 := k1.below b2 k1.lt
    have B2 := B1.trans (b2.mono B1.size)
    obtain ⟨r0, r1, r2, r3, r4, r5, f0, f1, f2, f3, f4, f5⟩ := res_cells k2
    have HC := Lib.hid (put6_blk (a' := .int .i64 id) (b' := .int .i64 0) (c' := .int .i64 1) (d' := .slice none 0 0) (e' := .slice none 0 0) (f' := .slice none 0 0) k2)
    have HD := Lib.hid (put6_below (B := w.heap.size) (R := w.heap.size) (Nat.le_refl _) B2 (.int .i64 id) (.int .i64 0) (.int .i64 1) (.slice none 0 0) (.slice none 0 0) (.slice none 0 0))
    clear k1 B1 b2 k2 B2
    go_wp2
    have x0 := HC.out.cell 0
    have x1 := HC.out.cell 1
    have x2 := HC.out.cell 2
    have x3 := HC.out.cell 3
    have x4 := HC.out.cell 4
    have x5 := HC.out.cell 5
    refine bodyPost_ret (v := kpV id 0 1 (.slice none 0 0) (.slice none 0 0) (.slice none 0 0)) (by simp [results, Try.results7, go_sem, x0, x1, x2, x3, x4, x5]) rfl ⟨_, _, _, by rw [HE.out] <;> rfl, ?_⟩
    rw [HE.out]
    exact nil_own HD.out rfl rfl rfl
end Go.Proofs.Ytgihbilpimempab.kp
