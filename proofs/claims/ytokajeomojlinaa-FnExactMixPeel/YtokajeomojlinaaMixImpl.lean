/-
  Contracts of the program's generator, weights and MixDegree.
-/
import Derived.Test.YtokajeomojlinaaMixBase
import Derived.Test.YtokajeomojlinaaWords
import Derived.RegionTactic
namespace Go.Proofs.Ytokajeomojlinaa.mi
open Go.ChangeShapes Go.WideShapes Go.ChangeAt Go.RowKit
open Go.Proofs.Ytokajeomojlinaa.mp Go.Proofs.Ytokajeomojlinaa.mb Go.Proofs.Ytokajeomojlinaa.wd

def StartPost (w : World) (x : Int) (e : Ending) (w' : World) : Prop :=
  e = .returned (.agg #[.int .i64 (rnd x)]) ∧ Below w.heap.size w w'

theorem start_any (x : Int) (w : World) :
    Calls Try.prog 52 #[.int .i64 x] w (StartPost w x) := by
  go_enter Try.func52, Try.ntmps52
  go_wp2_with ((go_at_call 75; refine (irnd_any _ _).mono ?_; rintro e w' ⟨rfl, rfl⟩))
  exact bodyPost_ret (v := .agg #[.int .i64 (rnd x)]) (by simp [results, Try.results52, go_sem]) rfl ⟨rfl, (Below.refl _ _).alloc (Nat.le_refl _) _⟩

/-- only block b has changed, and none has come -/
def Only (b : Nat) (w w' : World) : Prop := Below b w w' ∧ (∀ k, k ≠ b → w'.heap[k]? = w.heap[k]?) ∧ w'.heap.size = w.heap.size

theorem only_set (w : World) (b o : Nat) (v : Value) : Only b w (w.setCell ⟨b, o, none⟩ v) :=
  ⟨(Below.refl _ _).setCell (p := ⟨b, o, none⟩) (Nat.le_refl _) _, fun i hi => Below.heap_setCell w _ _ i hi, by simp⟩
theorem Only.trans {b : Nat} {w w' w'' : World} (h : Only b w w') (k : Only b w' w'') : Only b w w'' :=
  ⟨h.1.trans k.1, fun i hi => (k.2.1 i hi).trans (h.2.1 i hi), k.2.2.trans h.2.2⟩

def DrawPost (w : World) (g : Nat) (x lim : Int) (e : Ending) (w' : World) : Prop :=
  e = .returned (.int .i64 (rnd x / 16 % lim)) ∧ Blk w' g 68 #[.int .i64 (rnd x)] ∧ Only g w w'

theorem draw_any (w : World) (g : Nat) (x lim : Int) (h : Blk w g 68 #[.int .i64 x]) (l0 : 1 ≤ lim) (l1 : lim ≤ 1000) :
    Calls Try.prog 55 #[.pointer (some ⟨g, 0, none⟩), .int .i64 lim] w (DrawPost w g x lim) := by
  have c0 := h.cell 0
  have f0 := h.frozen 0
  simp at c0
  have hr := rnd_range x
  have H := Lib.hid h
  clear h
  go_enter Try.func55, Try.ntmps55
  go_wp2_with ((go_at_call 75; refine (irnd_any _ _).mono ?_; rintro e w' ⟨rfl, rfl⟩))
  go_ret
  exact ⟨rfl, by simpa using H.out.put 0 (.int .i64 (rnd x)), only_set _ _ _ _⟩

def cw (b d i : Nat) : Int := if i < d then wt b i else 0
def cells (b d : Nat) : Array Value := #[.int .i64 0, .int .i64 (cw b d 1), .int .i64 (cw b d 2), .int .i64 (cw b d 3), .int .i64 (cw b d 4), .int .i64 (cw b d 5), .int .i64 (cw b d 6), .int .i64 (ps b (d - 1))]

def WeighPost (w : World) (b : Nat) (e : Ending) (w' : World) : Prop :=
  e = .returned (.agg (cells b (b + 1))) ∧ Below w.heap.size w w'

theorem iwt_int (b : Nat) (x : Int) (b0 : 1 ≤ b) (b1 : b ≤ 6) (x0 : 1 ≤ x) (x1 : x ≤ 6) (w : World) :
    Calls Try.prog 84 #[.int .i64 b, .int .i64 x] w fun e w' => e = .returned (.int .i64 (wt b x.toNat)) ∧ w = w' := by
  obtain ⟨d, rfl⟩ := Int.eq_ofNat_of_zero_le (show 0 ≤ x by omega)
  exact iwt_any b d b0 b1 (by omega) (by omega) w

def WRel (w : World) (b d : Nat) (wr : World) : Prop :=
  Blk wr w.heap.size 103 #[.int .i64 0, .int .i64 0, .int .i64 0, .int .i64 0, .int .i64 0, .int .i64 0, .int .i64 0, .int .i64 0] ∧
  Blk wr (w.heap.size + 1) 103 (cells b d) ∧ Below w.heap.size w wr ∧ wr.heap.size = w.heap.size + 2

theorem wrel_on {w : World} {b d : Nat} {wr : World} (h : WRel w b d wr) (d0 : 1 ≤ d) (d1 : d ≤ 6) :
    WRel w b (d + 1) (((wr.setCell ⟨w.heap.size + 1, d, none⟩ (.int .i64 (wt b d))).setCell ⟨w.heap.size + 1, 7, none⟩ (.int .i64 (ps b (d - 1) + wt b d))).drew) := by
  obtain ⟨h1, h2, h3, h4⟩ := h
  refine ⟨(h1.far (p := ⟨w.heap.size + 1, d, none⟩) (by simp) _).far (p := ⟨w.heap.size + 1, 7, none⟩) (by simp) _, ?_, ?_, ?_⟩
  · have := (h2.put d (.int .i64 (wt b d))).put 7 (.int .i64 (ps b (d - 1) + wt b d))
    have e : ((cells b d).setIfInBounds d (.int .i64 (wt b d))).setIfInBounds 7 (.int .i64 (ps b (d - 1) + wt b d)) = cells b (d + 1) := by
      rcases six d0 d1 with rfl | rfl | rfl | rfl | rfl | rfl <;> simp [cells, cw, ps]
    rw [e] at this
    exact this
  · exact ((h3.setCell (p := ⟨w.heap.size + 1, d, none⟩) (by simp) _).setCell (p := ⟨w.heap.size + 1, 7, none⟩) (by simp) _).drew
  · simp [World.drew, h4]

set_option maxHeartbeats 1000000 in
theorem weigh_any (b : Nat) (b0 : 1 ≤ b) (b1 : b ≤ 6) (w : World) :
    Calls Try.prog 76 #[.int .i64 b] w (WeighPost w b) := by
  go_enter Try.func76, Try.ntmps76
  go_wp2
  go_loopw [4] (fun i wr => ∃ d : Nat, 1 ≤ d ∧ d ≤ b + 1 ∧ i = .int .i64 d ∧ WRel w b d wr) (fun i _ => (b + 2 : Nat) - (intOf i).toNat)
  case atStart =>
    refine ⟨1, by omega, by omega, rfl, ?_, ?_, ?_, by simp⟩
    · exact (Blk.new _ _ _).alloc _
    · have := Blk.new (w.alloc (.cells #[.int .i64 0, .int .i64 0, .int .i64 0, .int .i64 0, .int .i64 0, .int .i64 0, .int .i64 0, .int .i64 0] 103)) 103 #[.int .i64 0, .int .i64 0, .int .i64 0, .int .i64 0, .int .i64 0, .int .i64 0, .int .i64 0, .int .i64 0]
      simpa [cells, cw, ps, wt] using this
    · exact ((Below.refl _ _).alloc (Nat.le_refl _) _).alloc (by simp) _
  case round =>
    obtain ⟨d, d0, d1, rfl, hW⟩ := hrel
    by_cases hd : d ≤ b
    · have wd := wt_bd b0 b1 d0 (by omega)
      have pd := ps_bd (n := d - 1) b0 b1 (by omega)
      have HW := Lib.hid (wrel_on hW d0 (by omega))
      obtain ⟨h1, h2, h3, h4⟩ := hW
      have c7 := h2.cell 7
      have f7 := h2.frozen 7
      have cd := h2.cell d
      have fd := h2.frozen d
      clear h1 h2 h3 h4
      rcases six d0 (by omega) with rfl | rfl | rfl | rfl | rfl | rfl
      all_goals
        simp [cells] at c7 cd pd
        go_wp2_with ((go_at_call 84; refine (iwt_int b _ b0 b1 (by omega) (by omega) _).mono ?_; rintro e w' ⟨rfl, rfl⟩))
        go_region
        go_wp2
        exact ⟨⟨_, by omega, by omega, by go_num, HW.out⟩, by simp [intOf] <;> omega⟩
    · obtain rfl : d = b + 1 := by omega
      obtain ⟨h1, h2, h3, h4⟩ := hW
      have k0 := h2.cell 0
      have k1 := h2.cell 1
      have k2 := h2.cell 2
      have k3 := h2.cell 3
      have k4 := h2.cell 4
      have k5 := h2.cell 5
      have k6 := h2.cell 6
      have k7 := h2.cell 7
      simp [cells] at k0 k1 k2 k3 k4 k5 k6 k7
      have j0 := h1.cell 0
      have f0 := h1.frozen 0
      have j1 := h1.cell 1
      have f1 := h1.frozen 1
      have j2 := h1.cell 2
      have f2 := h1.frozen 2
      have j3 := h1.cell 3
      have f3 := h1.frozen 3
      have j4 := h1.cell 4
      have f4 := h1.frozen 4
      have j5 := h1.cell 5
      have f5 := h1.frozen 5
      have j6 := h1.cell 6
      have f6 := h1.frozen 6
      have j7 := h1.cell 7
      have f7 := h1.frozen 7
      simp at j0 j1 j2 j3 j4 j5 j6 j7
      have H1 := Lib.hid h1
      have H3 := Lib.hid h3
      clear h1 h2 h3 h4
      go_wp2
      refine bodyPost_ret (v := .agg (cells b (b + 1))) (by simp [results, Try.results76, go_sem, cells, j0, j1, j2, j3, j4, j5, j6, j7]) rfl ⟨rfl, ?_⟩
      exact ((((((((H3.out.setCell (p := ⟨w.heap.size, 0, none⟩) (Nat.le_refl _) _).setCell (p := ⟨w.heap.size, 1, none⟩) (Nat.le_refl _) _).setCell (p := ⟨w.heap.size, 2, none⟩) (Nat.le_refl _) _).setCell (p := ⟨w.heap.size, 3, none⟩) (Nat.le_refl _) _).setCell (p := ⟨w.heap.size, 4, none⟩) (Nat.le_refl _) _).setCell (p := ⟨w.heap.size, 5, none⟩) (Nat.le_refl _) _).setCell (p := ⟨w.heap.size, 6, none⟩) (Nat.le_refl _) _).setCell (p := ⟨w.heap.size, 7, none⟩) (Nat.le_refl _) _)

theorem cw_eq {b k : Nat} (h : k < b + 1) : cw b (b + 1) k = wt b k := by unfold cw; rw [if_pos h]
theorem cells_at {b k : Nat} (b1 : b ≤ 6) (k0 : 1 ≤ k) (k1 : k ≤ b) : (cells b (b + 1))[k]? = some (.int .i64 (wt b k)) := by
  rw [← cw_eq (b := b) (k := k) (by omega)]
  rcases six k0 (by omega) with rfl | rfl | rfl | rfl | rfl | rfl <;> rfl
theorem ts_step {b f d : Nat} : ts b (f + 1) d = wt b d + ts b f (d + 1) := rfl

def DegPost (w : World) (g b : Nat) (x : Int) (e : Ending) (w' : World) : Prop :=
  e = .returned (.int .i64 (deg b (b - 1) 1 (rnd x / 16 % ps b b))) ∧ Below g w w'

set_option maxHeartbeats 1000000 in
theorem drawDeg_any (w : World) (g b : Nat) (x : Int) (b0 : 1 ≤ b) (b1 : b ≤ 6) (h : Blk w g 68 #[.int .i64 x]) :
    Calls Try.prog 77 #[.agg (cells b (b + 1)), .func (.func 55) #[.pointer (some ⟨g, 0, none⟩)] #[]] w (DegPost w g b x) := by
  have hg := h.lt
  have pp := ps_pos b0 b1
  have pb := ps_bd (n := b) b0 b1 (by omega)
  have H := Lib.hid h
  clear h
  unfold cells
  go_enter Try.func77, Try.ntmps77
  go_wp2_with fail
  refine (draw_any _ _ _ _ (H.out.alloc _) (by omega) (by omega)).mono ?_
  rintro e w1 ⟨rfl, hB, hO⟩
  have m0 : 0 ≤ rnd x / 16 % ps b b := Int.emod_nonneg _ (by omega)
  have m1 : rnd x / 16 % ps b b < ps b b := Int.emod_lt_of_pos _ (by omega)
  have HW : Hid (Blk w1 w.heap.size 103 (cells b (b + 1))) := (hO.2.1 w.heap.size (by omega)).trans (Blk.new w 103 (cells b (b + 1)))
  have HB : Hid (Below g w w1) := ((Below.refl _ _).alloc (by omega) _).trans hO.1
  have HT := Lib.hid (ps_ts b0 b1)
  clear hB hO
  generalize hX : rnd x / 16 % ps b b = X at m0 m1 ⊢
  have HX := Lib.hid hX
  clear hX
  go_wp2
  go_loop [5, 6] (fun r i => ∃ (k : Nat) (Y : Int), 1 ≤ k ∧ k ≤ b ∧ i = .int .i64 k ∧ r = .int .i64 Y ∧ 0 ≤ Y ∧ Y ≤ 120 ∧ Hid (Y < ts b (b - k) k) ∧ Hid (deg b (b - 1) 1 X = deg b (b - k) k Y)) (fun _ i => (b + 1 : Nat) - (intOf i).toNat)
  case atStart => exact ⟨1, _, by omega, by omega, rfl, rfl, by omega, by omega, by rw [← HT.out]; exact m1, rfl⟩
  case round =>
    obtain ⟨k, Y, k0, k1, rfl, rfl, Y0, Y1, HY, HK⟩ := hrel
    have ck := HW.out.cell k
    rw [cells_at b1 k0 k1] at ck
    have wk := wt_bd (b := b) (d := k) b0 b1 k0 (by omega)
    by_cases hY : Y < wt b k
    · have HR := Lib.hid (show (deg b (b - 1) 1 X : Int) = k by rw [HK.out, deg_hit hY])
      go_wp2
      go_ret
      exact ⟨ret_int (by rw [HX.out]; exact HR.out.symm), HB.out⟩
    · have hkb : k < b := by
        rcases Nat.lt_or_ge k b with h | h
        · exact h
        · obtain rfl : k = b := by omega
          have := HY.out
          rw [Nat.sub_self] at this
          exact absurd this hY
      go_wp2
      go_round
      case rel => exact ⟨k + 1, _, by omega, by omega, by go_num, rfl, by omega, by omega, by
        have h1 := HY.out; rw [show b - k = (b - (k + 1)) + 1 by omega, ts_step] at h1; exact (by omega : Y - wt b k < ts b (b - (k + 1)) (k + 1)), by
        rw [HK.out, show b - k = (b - (k + 1)) + 1 by omega, deg_miss (by omega)]; exact rfl⟩
      case measure => simp [intOf]; omega

def MdPost (w : World) (b n : Int) (e : Ending) (w' : World) : Prop :=
  e = .returned (.int .i64 (md b n)) ∧ Below w.heap.size w w'

set_option maxHeartbeats 1000000 in
theorem imd_any (blocks num : Int) (w : World) :
    Calls Try.prog 53 #[.int .i64 blocks, .int .i64 num] w (MdPost w blocks num) := by
  cases hok : okM blocks num with
  | false =>
    have HM := Lib.hid (md_no hok)
    go_enter Try.func53, Try.ntmps53
    go_wp2_with ((go_at_call 51; refine (iok_any _ _ _).mono ?_; rintro e w' ⟨rfl, rfl⟩))
    go_ret
    exact ⟨ret_int HM.out.symm, Below.refl _ _⟩
  | true =>
    obtain ⟨b0, b1, n0, n1⟩ := okM_out hok
    obtain ⟨b, rfl⟩ := Int.eq_ofNat_of_zero_le (show 0 ≤ blocks by omega)
    have HM := Lib.hid (md_yes hok)
    by_cases hlt : num < b
    · have HN := Lib.hid (show mdN b num = 1 by unfold mdN; rw [if_pos hlt])
      go_enter Try.func53, Try.ntmps53
      go_wp2_with ((go_at_call 51; refine (iok_any _ _ _).mono ?_; rintro e w' ⟨rfl, rfl⟩))
      go_ret
      exact ⟨ret_int (by rw [HM.out, HN.out]; rfl), Below.refl _ _⟩
    · have HN := Lib.hid (show mdN b num = deg b (b - 1) 1 (rnd (rnd (31 * num + b)) / 16 % ps b b) by unfold mdN; rw [if_neg hlt]; rfl)
      go_enter Try.func53, Try.ntmps53
      go_wp2_with ((go_at_call 51; refine (iok_any _ _ _).mono ?_; rintro e w' ⟨rfl, rfl⟩))
      refine (start_any _ _).mono ?_
      rintro e w1 ⟨rfl, hB1⟩
      go_wp2_with fail
      refine (weigh_any b (by omega) (by omega) _).mono ?_
      rintro e w2 ⟨rfl, hB2⟩
      have hs : (w1.alloc (.cells #[.int .i64 (rnd (31 * num + b))] 68)).heap.size = w1.heap.size + 1 := by simp
      have HG := Lib.hid ((Blk.new w1 68 #[.int .i64 (rnd (31 * num + b))]).below hB2 (by rw [hs]; omega))
      have HB2 := Lib.hid ((hB1.alloc hB1.size _).trans (hB2.mono (by rw [hs]; exact Nat.le_succ_of_le hB1.size)))
      have hz := hB1.size
      clear hs hB1 hB2
      go_wp2_with fail
      refine (drawDeg_any _ _ _ _ (by omega) (by omega) HG.out).mono ?_
      rintro e w3 ⟨rfl, hB3⟩
      go_wp2
      go_ret
      exact ⟨ret_int (by rw [HM.out, HN.out]), HB2.out.trans (hB3.mono hz)⟩
end Go.Proofs.Ytokajeomojlinaa.mi
