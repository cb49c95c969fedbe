/-
  The contract of the specification's MixCut.
-/
import Derived.Test.YtgihbilpimempaaDoorCutSpec
namespace Go.Proofs.YtgihbilpimempaaDoor.cs
open Go.ChangeShapes Go.WideShapes Go.ChangeAt Go.RowKit
open Go.Proofs.YtgihbilpimempaaDoor.wd Go.Proofs.YtgihbilpimempaaDoor.cp Go.Proofs.YtgihbilpimempaaDoor.ow

set_option maxRecDepth 100000 in
set_option maxHeartbeats 1600000 in
theorem scut_any (t : ByteArray) (ht : t.size ≤ 1048576) (w : World) :
    Calls Tryd.prog 56 #[.string t] w (OwnPost 9 w ((cut t).map Value.string)) := by
  obtain ⟨i0, hi, hz0, hz1, hz2⟩ := info_parts infoByte
  obtain ⟨s0, si, sz0, sz1, sz2⟩ := info_parts infoStr
  by_cases h0 : t.size < 1
  · have HC := Lib.hid (show cut t = [] by unfold cut; rw [cutN_out (.inl h0)]; rfl)
    go_enter Tryd.func56, Tryd.ntmps56
    go_wp2
    go_ret
    exact ⟨_, rfl, by rw [HC.out]; exact Own.empty w⟩
  by_cases h1 : 24 < t.size
  · have HC := Lib.hid (show cut t = [] by unfold cut; rw [cutN_out (.inr h1)]; rfl)
    go_enter Tryd.func56, Tryd.ntmps56
    go_wp2
    go_ret
    exact ⟨_, rfl, by rw [HC.out]; exact Own.empty w⟩
  have HC := Lib.hid (show cut t = cutTo t ((t.size + 3) / 4) by unfold cut; rw [cutN_in (by omega) (by omega)])
  have hn : (t.size + 3) / 4 ≤ 6 := by omega
  generalize hN : (t.size + 3) / 4 = n at HC hn
  have HN := Lib.hid hN
  clear hN
  go_enter Tryd.func56, Tryd.ntmps56
  go_wp2
  go_loopw [3, 4] (fun v i wr => ∃ k : Nat, k ≤ n ∧ i = .int .i64 k ∧ Own 9 w wr v ((cutTo t k).map Value.string)) (fun _ i _ => (n + 1 : Nat) - (intOf i).toNat)
  case atStart => exact ⟨0, by omega, rfl, Own.empty w⟩
  case round =>
    obtain ⟨k, hk, rfl, hO⟩ := hrel
    by_cases hkn : k < n
    · have HS := Lib.hid (show (cutTo t (k + 1)).map Value.string = (cutTo t k).map Value.string ++ [.string (qb t k).str] by rw [cutTo_snoc]; simp)
      have hlo : ((cutTo t k).map Value.string).length ≤ 6 := by simp [cutTo_len]; omega
      generalize (cutTo t k).map Value.string = os at hO HS hlo
      obtain ⟨wo, rfl⟩ : ∃ x, x = wr := ⟨_, rfl⟩
      go_wp2_with ((go_at_call 65; refine (blocks_any _ (by omega) _).mono ?_; rintro e w' ⟨rfl, rfl⟩; rw [HN.out]))
      go_loopw [5, 6] (fun v i wq => ∃ j : Nat, j ≤ 4 ∧ i = .int .i64 ((4 * k + j : Nat) : Int) ∧ Own 5 wo wq v ((bys t (4 * k) j).map bv)) (fun _ i _ => (4 * k + 5 : Nat) - (intOf i).toNat)
      case atStart => exact ⟨0, by omega, by go_num, Own.empty wo⟩
      case round =>
        obtain ⟨j, hj, rfl, hI⟩ := hrel
        by_cases hj4 : j < 4
        · have HT := Lib.hid (show (bys t (4 * k) (j + 1)).map bv = (bys t (4 * k) j).map bv ++ [bv (by_ t (4 * k + j))] by rw [bys_snoc]; simp)
          have hlb : ((bys t (4 * k) j).map bv).length ≤ 4 := by simp [bys_len]; omega
          generalize (bys t (4 * k) j).map bv = bs at hI HT hlb
          by_cases hin : 4 * k + j < t.size
          · have HE := Lib.hid (show bv (by_ t (4 * k + j)) = .int .u8 (t[4 * k + j].toNat : Int) by rw [by_in hin]; rfl)
            go_wp2_with (at_builtin; refine wpList_append_own _ rfl _ _ 22 rfl wo.heap.size 5 i0 (.int .u8 0) 1 1 Tryd.underlying22 hi hz0 hz1 hz2 rfl (by decide) _ _ _ rfl (hI.1.alloc _) ⟨wr.heap.size, 0, none⟩ 1 1 [.int .u8 (t[4 * k + j].toNat : Int)] rfl rfl ?c1 ?c2 ?c3 ?c4 ?c5 ?_)
            case c1 => exact cell_one_new _ _ _
            case c2 => intro x hx; simp at hx; subst hx; rfl
            case c3 => unfold maxLen; omega
            case c4 => omega
            case c5 => have := hI.2.size; simp; omega
            intro v1 w1 hown1 hgrow1 _
            have R := Lib.hid (hI.more hown1 hgrow1)
            clear hown1 hgrow1 hI
            go_wp2
            go_roundw
            case rel => exact ⟨j + 1, by omega, by go_num, by rw [HT.out, HE.out]; exact R.out⟩
            case measure => simp [intOf]; omega
          · have HE := Lib.hid (show bv (by_ t (4 * k + j)) = .int .u8 0 by rw [by_out (by omega)]; rfl)
            go_wp2_with (at_builtin; refine wpList_append_own _ rfl _ _ 22 rfl wo.heap.size 5 i0 (.int .u8 0) 1 1 Tryd.underlying22 hi hz0 hz1 hz2 rfl (by decide) _ _ _ rfl (hI.1.alloc _) ⟨wr.heap.size, 0, none⟩ 1 1 [.int .u8 0] rfl rfl ?d1 ?d2 ?d3 ?d4 ?d5 ?_)
            case d1 => exact cell_one_new _ _ _
            case d2 => intro x hx; simp at hx; subst hx; rfl
            case d3 => unfold maxLen; omega
            case d4 => omega
            case d5 => have := hI.2.size; simp; omega
            intro v1 w1 hown1 hgrow1 _
            have R := Lib.hid (hI.more hown1 hgrow1)
            clear hown1 hgrow1 hI
            go_wp2
            go_roundw
            case rel => exact ⟨j + 1, by omega, by go_num, by rw [HT.out, HE.out]; exact R.out⟩
            case measure => simp [intOf]; omega
        · obtain rfl : j = 4 := by omega
          rw [← qb_list] at hI
          obtain ⟨g, c, rfl, hcv⟩ := own_text hI (by rw [Q.list_len]; omega)
          rw [Q.list_len] at hcv
          have hcv' : (convert 22 9 (.slice (some ⟨g, 0, none⟩) 4 c)).run Tryd.prog wr = .ok (.string (qb t k).str) wr := hcv
          clear hcv
          have hO2 := hO.later hI.2
          clear hI hO
          rw [Q.list_len]
          go_wp2_with (at_builtin; refine wpList_append_own _ rfl _ _ 58 rfl w.heap.size 9 s0 (.string ⟨#[]⟩) 1 16 Tryd.underlying58 si sz0 sz1 sz2 rfl (by decide) _ _ _ rfl (hO2.1.alloc _) ⟨wr.heap.size, 0, none⟩ 1 1 [.string (qb t k).str] rfl rfl ?e1 ?e2 ?e3 ?e4 ?e5 ?_)
          case e1 => exact cell_one_new _ _ _
          case e2 => intro x hx; simp at hx; subst hx; rfl
          case e3 => unfold maxLen; omega
          case e4 => omega
          case e5 => have := hO2.2.size; simp; omega
          intro v1 w1 hown1 hgrow1 _
          have R := Lib.hid (hO2.more hown1 hgrow1)
          clear hown1 hgrow1 hO2
          go_wp2
          go_roundw
          case rel => exact ⟨k + 1, by omega, by go_num, by rw [HS.out]; exact R.out⟩
          case measure => simp [intOf]; omega
    · obtain rfl : k = n := by omega
      go_wp2_with ((go_at_call 65; refine (blocks_any _ (by omega) _).mono ?_; rintro e w' ⟨rfl, rfl⟩; rw [HN.out]))
      go_ret
      exact ⟨_, rfl, by rw [HC.out]; exact hO⟩
end Go.Proofs.YtgihbilpimempaaDoor.cs
