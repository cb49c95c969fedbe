/-
  The contract of the laws' lbOver at two blocks of four bytes; a mixed block over its blocks is nothing.
-/
import Derived.Test.YtokajeomojlinaaCutSpec
import Derived.Test.YtokajeomojlinaaMakePlain
namespace Go.Proofs.Ytokajeomojlinaa.cs
open Go.ChangeShapes Go.WideShapes Go.ChangeAt Go.RowKit
open Go.Proofs.Ytokajeomojlinaa.wd Go.Proofs.Ytokajeomojlinaa.cp Go.Proofs.Ytokajeomojlinaa.ow

set_option maxRecDepth 100000 in
set_option maxHeartbeats 400000 in
theorem over_any (p q : Q) (w : World) : Calls Try.prog 34 #[.string p.str, .string q.str] w (StrPost w (p.xor q).str) := by
  obtain ⟨i0, hi, hz0, hz1, hz2⟩ := info_parts infoByte
  have HX := Lib.hid (xors_Q p q)
  have hp := Q_size p
  have hq := Q_size q
  generalize p.str = P at hp HX ⊢
  generalize q.str = R at hq HX ⊢
  go_enter Try.func34, Try.ntmps34
  go_wp2
  go_loopw [5, 6] (fun v i wr => ∃ k : Nat, k ≤ 4 ∧ i = .int .i64 k ∧ Own 5 w wr v ((xors P R k).map bv)) (fun _ i _ => 5 - (intOf i).toNat)
  case atStart => exact ⟨0, by omega, rfl, Own.empty w⟩
  case round =>
    obtain ⟨k, hk, rfl, hI⟩ := hrel
    by_cases hk4 : k < 4
    · have hb1 : k < P.size := by omega
      have hb2 : k < R.size := by omega
      have HS := Lib.hid (show (xors P R (k + 1)).map bv = (xors P R k).map bv ++ [.int .u8 (bits .xor .u8 (P[k].toNat : Int) (R[k].toNat : Int))] by
        rw [xors_snoc, List.map_append, by_in hb1, by_in hb2, xor_bv]; rfl)
      have hln : ((xors P R k).map bv).length ≤ 4 := by simp [xors_len]; omega
      generalize (xors P R k).map bv = xs at hI hln HS
      go_wp2
      go_region_law (refine step_append_lies _ rfl (.tmp 20) (.tmp 28) 22 rfl w.heap.size 5 i0 (.int .u8 0) 1 1 Try.underlying22 hi hz0 hz1 hz2 rfl (by decide) u5 _ _ (by simp [Act.eval]) (hI.1.alloc _) ⟨wr.heap.size, 0, none⟩ 1 1 [.int .u8 (bits .xor .u8 (P[k].toNat : Int) (R[k].toNat : Int))] (by simp [Act.eval]) rfl (cell_one_new _ _ _) (by intro x hx; simp at hx; subst hx; rfl) (by decide) (by unfold maxLen; omega) (by omega) (by have := hI.2.size; simp; omega) _ rfl ?_; intro g cap w1 hown1 hgrow1 _ _)
      all_goals
        have R := Lib.hid (hI.more hown1 (grown_of_drew hgrow1))
        clear hown1 hgrow1 hI
        go_wp2
        go_roundw
        case rel => exact ⟨k + 1, by omega, by go_num, by rw [HS.out]; exact R.out⟩
        case measure => simp [intOf]; omega
    · obtain rfl : k = 4 := by omega
      obtain ⟨g, c, rfl, hcv⟩ := own_text hI (by simp [xors_len])
      rw [xors_len] at hcv ⊢
      rw [HX.out] at hcv
      have HB := Lib.hid hI.2
      clear hI
      go_wp2
      go_ret
      exact ⟨rfl, HB.out⟩

/-- what is left of a mixed block when the first k of its blocks are taken away -/
theorem over_all (t : ByteArray) (l : List Int) : (xq t l).xor (xq t (l.take l.length)) = Q.zero := by rw [xq_all, Q.xor_self]
theorem over_on (t : ByteArray) {l : List Int} {k : Nat} (h : k < l.length) (p : Q) : (p.xor (xq t (l.take k))).xor (qb t (l.getD k 0).toNat) = p.xor (xq t (l.take (k + 1))) := by
  rw [xq_on t h, Q.xor_assoc]
end Go.Proofs.Ytokajeomojlinaa.cs
