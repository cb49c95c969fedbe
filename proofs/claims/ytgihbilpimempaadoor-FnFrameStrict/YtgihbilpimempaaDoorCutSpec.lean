/-
  Contracts of the specification's l2Blocks, MixCut, l2Xor, l2None.
-/
import Derived.Test.YtgihbilpimempaaDoorOwn
import Derived.StillTailTactics
import Derived.Deep.AppendLies
import Derived.Deep.RegionLaw
namespace Go.Proofs.YtgihbilpimempaaDoor.cs
open Go.ChangeShapes Go.WideShapes Go.ChangeAt Go.RowKit
open Go.Proofs.YtgihbilpimempaaDoor.wd Go.Proofs.YtgihbilpimempaaDoor.cp Go.Proofs.YtgihbilpimempaaDoor.ow

theorem blocks_any (n : Nat) (hn : n ≤ 1000000) (w : World) :
    Calls Tryd.prog 65 #[.int .i64 n] w fun e w' => e = .returned (.int .i64 (((n + 3) / 4 : Nat) : Int)) ∧ w = w' := by
  go_enter Tryd.func65, Tryd.ntmps65
  go_wp2
  go_ret
  exact ⟨ret_int (by omega), rfl⟩

theorem none_any (w : World) : Calls Tryd.prog 58 #[] w (StrPost w Q.zero.str) := by
  have hmk : ∀ wx : World, (Instr.makeSlice 22 (.int .i64 4) (.int .i64 4)).run Tryd.prog wx = .ok (.slice (some ⟨wx.heap.size, 0, none⟩) 4 4) (wx.alloc (.cells Q.zero.cells 5)) := by
    intro wx; kernel_rfl
  have hcv : (convert 22 9 (.slice (some ⟨w.heap.size, 0, none⟩) 4 4)).run Tryd.prog (w.alloc (.cells Q.zero.cells 5)) = .ok (.string Q.zero.str) (w.alloc (.cells Q.zero.cells 5)) :=
    run_convert_bytes_back (P := Tryd.prog) _ 22 9 5 ⟨w.heap.size, 0, none⟩ 4 Q.zero.list Tryd.underlying22 Tryd.underlying5 Tryd.underlying9 (fun j hj => by
      have e : (⟨w.heap.size, 0, none⟩ : Addr).add j = ⟨w.heap.size, j, none⟩ := by unfold Addr.add; split <;> simp_all
      rw [e, (Blk.new w 5 Q.zero.cells).cell j]
      have : j = 0 ∨ j = 1 ∨ j = 2 ∨ j = 3 := by simp [Q.list] at hj; omega
      rcases this with rfl | rfl | rfl | rfl <;> rfl)
  go_enter Tryd.func58, Tryd.ntmps58
  go_wp2
  go_ret
  exact ⟨rfl, (Below.refl _ _).alloc (Nat.le_refl _) _⟩

theorem Q_size (q : Q) : q.str.size = 4 := rfl
set_option maxRecDepth 100000 in
set_option maxHeartbeats 400000 in
theorem xor_any (p q : Q) (w : World) : Calls Tryd.prog 59 #[.string p.str, .string q.str] w (StrPost w (p.xor q).str) := by
  obtain ⟨i0, hi, hz0, hz1, hz2⟩ := info_parts infoByte
  have HX := Lib.hid (xors_Q p q)
  have hp := Q_size p
  have hq := Q_size q
  generalize p.str = P at hp HX ⊢
  generalize q.str = R at hq HX ⊢
  go_enter Tryd.func59, Tryd.ntmps59
  go_wp2
  go_loopw [5, 6] (fun v i wr => ∃ k : Nat, k ≤ 4 ∧ i = .int .i64 k ∧ Own 5 w wr v ((xors P R k).map bv)) (fun _ i _ => 5 - (intOf i).toNat)
  case atStart => exact ⟨0, by omega, rfl, Own.empty w⟩
  case round =>
    obtain ⟨k, hk, rfl, hI⟩ := hrel
    by_cases hk4 : k < 4
    · have hb1 : k < P.size := by omega
      have hb2 : k < R.size := by omega
      have HS := Lib.hid (show (xors P R (k + 1)).map bv = (xors P R k).map bv ++ [.int .u8 (bits .xor .u8 (P[k].toNat : Int) (R[k].toNat : Int))] by
        rw [xors_snoc, List.map_append, by_in hb1, by_in hb2, xor_bv]; rfl)
      have hln : ((xors P R k).map bv).length ≤ 4 := by simp [xors_len]; omega
      generalize (xors P R k).map bv = xs at hI hln HS
      go_wp2
      go_region_law (refine step_append_lies _ rfl (.tmp 12) (.tmp 20) 22 rfl w.heap.size 5 i0 (.int .u8 0) 1 1 Tryd.underlying22 hi hz0 hz1 hz2 rfl (by decide) u5 _ _ (by simp [Act.eval]) (hI.1.alloc _) ⟨wr.heap.size, 0, none⟩ 1 1 [.int .u8 (bits .xor .u8 (P[k].toNat : Int) (R[k].toNat : Int))] (by simp [Act.eval]) rfl (cell_one_new _ _ _) (by intro x hx; simp at hx; subst hx; rfl) (by decide) (by unfold maxLen; omega) (by omega) (by have := hI.2.size; simp; omega) _ rfl ?_; intro g cap w1 hown1 hgrow1 _ _)
      all_goals
        have R := Lib.hid (hI.more hown1 (grown_of_drew hgrow1))
        clear hown1 hgrow1 hI
        go_wp2
        go_roundw
        case rel => exact ⟨k + 1, by omega, by go_num, by rw [HS.out]; exact R.out⟩
        case measure => simp [intOf]; omega
    · obtain rfl : k = 4 := by omega
      obtain ⟨g, c, rfl, hcv⟩ := own_text hI (by simp [xors_len])
      rw [xors_len] at hcv ⊢
      rw [HX.out] at hcv
      have HB := Lib.hid hI.2
      clear hI
      go_wp2
      go_ret
      exact ⟨rfl, HB.out⟩
end Go.Proofs.YtgihbilpimempaaDoor.cs
