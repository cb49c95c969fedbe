/-
  Contract of slices.Repeat at one true and three.
-/
import Derived.Test.YtckicpnnclbkpaaKrRiver
import Derived.Laws.CopyOwn
import Derived.Deep.RegionLaw
namespace Go.Proofs.Ytckicpnnclbkpaa.kr
open Go.ChangeShapes Go.WideShapes Go.ChangeAt Go.RowKit
open Go.Proofs.Ytckicpnnclbkpaa.wd Go.Proofs.Ytckicpnnclbkpaa.nb Go.Proofs.Ytckicpnnclbkpaa.li Go.Proofs.Ytckicpnnclbkpaa.ow Go.Proofs.Ytckicpnnclbkpaa.rl Go.Proofs.Ytckicpnnclbkpaa.kp Go.Proofs.Ytckicpnnclbkpaa.sl Go.Proofs.Ytckicpnnclbkpaa.op

theorem infoBo : (Try.prog.info? 4).map (fun i => (i.zero, i.size, i.bytes)) = some (some (.bool false), 1, 1) := by kernel_rfl
theorem infoKr : (Try.prog.info? 36).map (fun i => (i.zero, i.size, i.bytes)) = some (some (.agg #[.int .i64 0, .bool false, .string ⟨#[]⟩, .int .i64 0, .slice none 0 0]), 5, 64) := by kernel_rfl
theorem mul64_13 (w : World) : Calls Try.prog 36 #[.int .u64 1, .int .u64 3] w fun e w' => e = .returned (.tuple #[.int .u64 0, .int .u64 3]) ∧ w = w' := by
  go_enter Try.func36, Try.ntmps36
  go_wp2
  go_ret2
  exact ⟨rfl, rfl⟩
theorem mul13 (w : World) : Calls Try.prog 25 #[.int .u64 1, .int .u64 3] w fun e w' => e = .returned (.tuple #[.int .u64 0, .int .u64 3]) ∧ w = w' := by
  go_enter Try.func25, Try.ntmps25
  go_wp2_with fail
  refine (mul64_13 _).mono ?_
  rintro e w1 ⟨rfl, rfl⟩
  go_wp2
  go_ret2
  exact ⟨rfl, rfl⟩
theorem three_new {w w1 : World} {xs : List Value} (hown : w1.ownsRow w.heap.size 4 1 (.slice (some ⟨w.heap.size, 0, none⟩) 3 3) 3 xs) (hx : xs = [.bool false, .bool false, .bool false]) : w1.heap[w.heap.size]? = some (.cells ([.bool false, .bool false, .bool false] : List Value).toArray 4 (0, 0)) := by
  rcases hown.2 with ⟨e, _⟩ | ⟨g, cap, cur, e, _, hh, _, _, hs, ht⟩
  · cases e
  · injection e with e1 e2 e3
    injection e1 with e1
    injection e1 with e1
    subst e1
    have hc : cur = ([.bool false, .bool false, .bool false] : List Value).toArray := by
      apply Array.ext'
      have h1 : cur.toList.length = 3 := by rw [Array.length_toList, hs, ← e3]
      rw [List.take_of_length_le (by rw [h1]; exact Nat.le_refl _), hx] at ht
      exact ht
    rw [← hc]
    exact hh
def rp (k : Nat) : List Value := match k with | 1 => [.bool true, .bool false, .bool false] | 2 => [.bool true, .bool true, .bool false] | _ => [.bool true, .bool true, .bool true]
def RepP (w : World) (e : Ending) (w' : World) : Prop := ∃ v, e = .returned v ∧ OwnR boS 4 w w' v [true, true, true]
set_option maxRecDepth 100000 in
set_option maxHeartbeats 1600000 in
theorem rep3 (w : World) (gx : Nat) (h : Blk w gx 4 #[.bool true]) : Calls Try.prog 10 #[.slice (some ⟨gx, 0, none⟩) 1 1, .int .i64 3] w (RepP w) := by
  obtain ⟨i0, hi, hz0, hz1, hz2⟩ := info_parts infoBo
  have HX := Lib.hid h
  clear h
  go_enter Try.func10, Try.ntmps10
  go_wp2_with fail
  refine (mul13 _).mono ?_
  rintro e w1 ⟨rfl, rfl⟩
  go_wp2_with (at_make; refine wpList_make_full _ rfl _ _ 23 rfl w.heap.size 4 i0 _ 1 Try.underlying23 hi hz0 hz1 _ _ _ _ 3 rfl rfl rfl rfl (by rw [hz2]; omega) (by unfold maxLen; omega) (Nat.le_refl _) ?_)
  intro w1 hown hgrow
  have HG0 := Lib.hid (three_new hown (by unfold madeCells; simp [List.range_succ]))
  have HB0 := Lib.hid (show Below w.heap.size w w1 from ⟨hgrow.os, hgrow.tape, hgrow.output, hgrow.size, fun k hk => hgrow.block k hk (by simp)⟩)
  have HLe := Lib.hid (Nat.le_refl w.heap.size)
  have hx0 : w1.cell? ⟨gx, 0, none⟩ = some (.bool true) := by
    have h := (HX.out.below HB0.out HX.out.lt).cell 0
    simpa using h
  have hcx : ∀ j v, ([.bool true] : List Value)[j]? = some v → w1.cell? ((⟨gx, 0, none⟩ : Addr).add j) = some v := fun j v hv => by
    cases j with
    | zero => simp at hv; subst hv; exact hx0
    | succ j => simp at hv
  clear hown hgrow
  go_wp2_with (refine wpList_copy_splice rfl _ _ 23 23 rfl 4 Try.underlying23 (by kernel_rfl) (some ⟨w.heap.size, 0, none⟩) (some ⟨gx, 0, none⟩) 3 3 1 1 rfl rfl w.heap.size 0 [.bool false, .bool false, .bool false] 4 HG0.out [.bool true] rfl (fun _ => ⟨rfl, ⟨gx, 0, none⟩, rfl, hcx⟩) (by decide) (by simp [Value.oneCell']) w.heap.size w HB0.out (Nat.le_refl _) ?_)
  intro w2 hg2 hb2
  have HG2 := Lib.hid (show w2.heap[w.heap.size]? = some (.cells ([.bool true, .bool false, .bool false] : List Value).toArray 4 (0, 0)) from hg2.out)
  have HB2 := Lib.hid hb2
  clear hg2 hb2 hx0 hcx HG0 HB0 HX
  clear HLe
  obtain ⟨g, hgw⟩ : ∃ g, g = w.heap.size := ⟨_, rfl⟩
  have HLe := Lib.hid (show w.heap.size ≤ g by omega)
  rw [← hgw] at HG2 ⊢
  clear hgw
  go_wp2
  go_loopw [8] (fun n wr => ∃ k : Nat, (k = 1 ∨ k = 2 ∨ k = 3) ∧ n = .int .i64 k ∧ Hid (wr.heap[g]? = some (.cells (rp k).toArray 4 (0, 0))) ∧ Hid (Below w.heap.size w wr)) (fun n _ => 4 - (intOf n).toNat)
  case atStart => exact ⟨1, by omega, rfl, HG2.out, HB2.out⟩
  case round =>
    clear HG2 HB2
    obtain ⟨k, hk, rfl, HG, HB⟩ := hrel
    rcases hk with rfl | rfl | rfl
    · have HG' := Lib.hid (show wr.heap[g]? = some (.cells ([.bool true, .bool false, .bool false] : List Value).toArray 4 (0, 0)) from HG.out)
      clear HG
      have HG := HG'
      clear HG'
      have hg0 : wr.cell? ⟨g, 0, none⟩ = some (.bool true) := by
        have h := (show Blk wr g 4 ([.bool true, .bool false, .bool false] : List Value).toArray from HG.out).cell 0
        simpa using h
      have hgd := HG.out
      have hbd := HB.out.drew
      have hcell : ∀ j v, ([.bool true] : List Value)[j]? = some v → wr.drew.cell? ((⟨g, 0, none⟩ : Addr).add j) = some v := fun j v hv => by
        cases j with
        | zero => simp at hv; subst hv; exact hg0
        | succ j => simp at hv
      go_wp2
      go_region_law (refine step_copy_splice rfl (.tmp 41) (.tmp 44) 23 23 rfl 4 Try.underlying23 (by kernel_rfl) (some ⟨g, 1, none⟩) (some ⟨g, 0, none⟩) 2 2 1 3 (by simp [Act.eval, Act.put]) (by simp [Act.eval, Act.put]) g 1 [.bool true, .bool false, .bool false] 4 hgd [.bool true] rfl (fun _ => ⟨rfl, ⟨g, 0, none⟩, rfl, hcell⟩) (by decide) (by simp [Value.oneCell']) w.heap.size w hbd HLe.out ?_; intro w4 hg4 hb4)
      all_goals
        have HG4 := Lib.hid (show w4.heap[g]? = some (.cells ([.bool true, .bool true, .bool false] : List Value).toArray 4 (0, 0)) from hg4.out)
        have HB4 := Lib.hid hb4
        clear hg4 hb4 hg0 hgd hbd hcell HG HB
        go_wp2
        go_roundw
        case rel => exact ⟨.int .i64 2, _, _, _, _, _, _, _, _, _, _, _, _, _, ⟨2, by omega, rfl, HG4.out, HB4.out⟩, rfl⟩
        case measure =>
          show 4 - (intOf (.int .i64 (IntKind.i64.wrap 2))).toNat < 4 - (intOf (.int .i64 ((1 : Nat) : Int))).toNat
          decide
    · have HG' := Lib.hid (show wr.heap[g]? = some (.cells ([.bool true, .bool true, .bool false] : List Value).toArray 4 (0, 0)) from HG.out)
      clear HG
      have HG := HG'
      clear HG'
      have hg0 : wr.cell? ⟨g, 0, none⟩ = some (.bool true) := by
        have h := (show Blk wr g 4 ([.bool true, .bool true, .bool false] : List Value).toArray from HG.out).cell 0
        simpa using h
      have hgd := HG.out
      have hbd := HB.out.drew
      have hcell : ∀ j v, ([.bool true] : List Value)[j]? = some v → wr.drew.cell? ((⟨g, 0, none⟩ : Addr).add j) = some v := fun j v hv => by
        cases j with
        | zero => simp at hv; subst hv; exact hg0
        | succ j => simp at hv
      go_wp2
      go_region_law (refine step_copy_splice rfl (.tmp 41) (.tmp 44) 23 23 rfl 4 Try.underlying23 (by kernel_rfl) (some ⟨g, 2, none⟩) (some ⟨g, 0, none⟩) 1 1 2 3 (by simp [Act.eval, Act.put]) (by simp [Act.eval, Act.put]) g 2 [.bool true, .bool true, .bool false] 4 hgd [.bool true] rfl (fun _ => ⟨rfl, ⟨g, 0, none⟩, rfl, hcell⟩) (by decide) (by simp [Value.oneCell']) w.heap.size w hbd HLe.out ?_; intro w4 hg4 hb4)
      all_goals
        have HG4 := Lib.hid (show w4.heap[g]? = some (.cells ([.bool true, .bool true, .bool true] : List Value).toArray 4 (0, 0)) from hg4.out)
        have HB4 := Lib.hid hb4
        clear hg4 hb4 hg0 hgd hbd hcell HG HB
        go_wp2
        go_roundw
        case rel => exact ⟨.int .i64 3, _, _, _, _, _, _, _, _, _, _, _, _, _, ⟨3, by omega, rfl, HG4.out, HB4.out⟩, rfl⟩
        case measure =>
          show 4 - (intOf (.int .i64 (IntKind.i64.wrap 3))).toNat < 4 - (intOf (.int .i64 ((2 : Nat) : Int))).toNat
          decide
    · have R := Lib.hid (show OwnR boS 4 w wr (.slice (some ⟨g, 0, none⟩) 3 3) [true, true, true] from ⟨⟨rfl, .inr ⟨g, 3, _, rfl, HLe.out, HG.out, Nat.le_refl _, by unfold maxLen; omega, rfl, rfl⟩⟩, HB.out⟩)
      go_wp2
      go_ret
      exact ⟨_, rfl, R.out⟩
end Go.Proofs.Ytckicpnnclbkpaa.kr
