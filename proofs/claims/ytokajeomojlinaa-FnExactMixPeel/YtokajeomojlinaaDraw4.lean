/-
  Contracts of the drawing of lists of encoded blocks: l72Mixed, DrawMixPeel, DrawMixText; and of the laws' lbTrue.
-/
import Derived.Test.YtokajeomojlinaaOnePlain
import Derived.Test.YtokajeomojlinaaDraw3
import Derived.Test.YtokajeomojlinaaMakeSpec
import Derived.Deep.RegionHeld3
import Derived.Deep.AppendLies
namespace Go.Proofs.Ytokajeomojlinaa.ls
open Go.ChangeShapes Go.WideShapes Go.ChangeAt Go.RowKit
open Go.Proofs.Ytokajeomojlinaa.wd Go.Proofs.Ytokajeomojlinaa.cp Go.Proofs.Ytokajeomojlinaa.mp Go.Proofs.Ytokajeomojlinaa.pp Go.Proofs.Ytokajeomojlinaa.ow Go.Proofs.Ytokajeomojlinaa.pk Go.Proofs.Ytokajeomojlinaa.dr Go.Proofs.Ytokajeomojlinaa.cs

/-- those of a list whose number is in range, with the text's data -/
def trueL (t : ByteArray) (l : List Mx) : List Mx := (l.filter fun m => decide (0 ≤ m.1 ∧ m.1 ≤ 999)).map fun m => (m.1, mk t m.1)
theorem trueL_t {t : ByteArray} {l : List Mx} {m : Mx} (h : 0 ≤ m.1 ∧ m.1 ≤ 999) : trueL t (l ++ [m]) = trueL t l ++ [(m.1, mk t m.1)] := by simp [trueL, h]
theorem trueL_f {t : ByteArray} {l : List Mx} {m : Mx} (h : ¬ (0 ≤ m.1 ∧ m.1 ≤ 999)) : trueL t (l ++ [m]) = trueL t l := by
  unfold trueL
  rw [List.filter_append]
  simp [h]
theorem trueL_len (t : ByteArray) (l : List Mx) : (trueL t l).length ≤ l.length := by
  unfold trueL
  rw [List.length_map]
  exact List.length_filter_le _ _
theorem trueL_TL (t : ByteArray) (l : List Mx) : TL t (trueL t l) := fun m hm => by
  obtain ⟨x, _, rfl⟩ := List.mem_map.mp hm
  rfl

def ListPost (w : World) (l : List Mx) (e : Ending) (w' : World) : Prop := ∃ v, e = .returned v ∧ OwnZ 40 2 w w' v l.length (l.flatMap mc)

set_option maxRecDepth 100000 in
set_option maxHeartbeats 4000000 in
theorem lbTrue_any (w : World) (t : ByteArray) (ht : t.size ≤ 1048576) (v : Value) (l : List Mx) (h : SeesM w v l) (hl : l.length ≤ 1048576) :
    Calls Try.prog 29 #[.string t, v] w (ListPost w (trueL t l)) := by
  obtain ⟨i0, hi, hz0, hz1, hz2⟩ := info_parts infoMixed
  obtain ⟨A, c, rfl, hc⟩ := h
  have hS : SeesM w (.slice A l.length c) l := ⟨A, c, rfl, hc⟩
  have HS := Lib.hid hS
  clear hS hc
  go_enter Try.func29, Try.ntmps29
  go_wp2
  go_loopw [5, 6] (fun o i wr => ∃ k : Nat, k ≤ l.length ∧ i = .int .i64 k ∧ OwnZ 40 2 w wr o (trueL t (l.take k)).length ((trueL t (l.take k)).flatMap mc)) (fun _ i _ => (l.length + 1 : Nat) - (intOf i).toNat)
  case atStart => exact ⟨0, by omega, rfl, OwnZ.empty w⟩
  case round =>
    obtain ⟨k, hk, rfl, hO⟩ := hrel
    by_cases hkl : k < l.length
    · have hx : l[k]? = some l[k] := List.getElem?_eq_getElem hkl
      generalize l[k] = m at hx
      obtain ⟨num, d⟩ := m
      obtain ⟨g0, c0, hA0, hlt0, _⟩ := HS.out.at hx
      obtain ⟨g, c', hA, hlt, _, r0, _⟩ := (HS.out.later hO.2).at hx
      have hgw : g < w.heap.size := by
        rw [hA0] at hA
        injection hA with hA _ _
        injection hA with hA
        injection hA with hA _ _
        exact hA ▸ hlt0
      clear hA0 hlt0
      injection hA with hA _ hcc
      subst hA
      subst hcc
      have HT := Lib.hid (take_snoc hx)
      have hlp := trueL_len t (l.take k)
      have hlk : (l.take k).length ≤ l.length := by rw [List.length_take]; omega
      have hk0 : (0 : Int) ≤ (k : Int) := by omega
      have hk1 : (k : Int) < (l.length : Int) := by omega
      clear hx
      by_cases h0 : 0 ≤ num
      · by_cases h1 : num ≤ 999
        · have HP := Lib.hid (trueL_t (t := t) (l := l.take k) (m := (num, d)) ⟨h0, h1⟩)
          have HFl := Lib.hid (show (trueL t (l.take k)).flatMap mc ++ mc (num, mk t num) = (trueL t (l.take k) ++ [(num, mk t num)]).flatMap mc by simp)
          have HLn := Lib.hid (show (trueL t (l.take k) ++ [(num, mk t num)]).length = (trueL t (l.take k)).length + 1 by simp)
          generalize (trueL t (l.take k)).length = nn at hO hlp HLn
          generalize (trueL t (l.take k)).flatMap mc = xs at hO HFl
          have hno : some g ≠ u5.ownBlock := fun e => by have := (hO.1.lt _ e.symm).1; omega
          go_wp2_with fail
          go_region_held3 (fun w' => w'.cell? ⟨g, k * 2, none⟩ = some (.int .i64 num)) (first | exact r0 | exact s1 | exact s0 | (exact (World.cell?_alloc_lt _ _ _ hz22).trans s0) | go_keep) (first | (go_at_call 22; refine (smake_any t ht _ _).mono ?_; rintro e w2 ⟨rfl, hB2⟩; have s0 := (hB2.cell (p := ⟨g, k * 2, none⟩) hlt).trans r0; have hO2 := hO.later ⟨hB2.os, hB2.tape, hB2.output, hB2.size, hB2.block⟩; have hz22 : g < w2.heap.size := Nat.lt_of_lt_of_le hlt hB2.size) | (refine step_append_lies _ rfl (.tmp 28) (.tmp 42) 33 rfl w.heap.size 40 i0 _ 2 24 Try.underlying33 hi hz0 hz1 hz2 rfl (by decide) u5 nn xs (by simp [Act.eval]) (hO2.1.alloc _) ⟨w2.heap.size, 0, none⟩ 1 1 (mc (num, mk t num)) (by simp [Act.eval]) rfl (World.news_of_block (heap_alloc_new w2 _)) (mc_one _) (by decide) (by unfold maxLen; omega) (by omega) (by have := hO2.2.size; simp; omega) _ rfl ?_; intro gg cap w4 hown4 hgrow4 _ _; have s1 := (hgrow4.cell_far ⟨g, k * 2, none⟩ (by simp; omega) hno).trans ((World.cell?_alloc_lt _ _ _ hz22).trans s0)))
          have R := Lib.hid (hO2.more hown4 hgrow4)
          clear hown4 hgrow4 hO2 hO hB2 s0 s1 r0
          go_wp2
          go_roundw
          case rel => exact ⟨k + 1, by omega, by go_num, by rw [HT.out, HP.out, HLn.out, ← HFl.out]; exact R.out⟩
          case measure => simp [intOf]; omega
        · have HP := Lib.hid (trueL_f (t := t) (l := l.take k) (m := (num, d)) (fun h => h1 h.2))
          go_wp2
          go_roundw
          case rel => exact ⟨k + 1, by omega, by go_num, by rw [HT.out, HP.out]; exact hO⟩
          case measure => simp [intOf]; omega
      · have HP := Lib.hid (trueL_f (t := t) (l := l.take k) (m := (num, d)) (fun h => h0 h.1))
        go_wp2
        go_roundw
        case rel => exact ⟨k + 1, by omega, by go_num, by rw [HT.out, HP.out]; exact hO⟩
        case measure => simp [intOf]; omega
    · obtain rfl : k = l.length := by omega
      rw [List.take_length] at hO
      go_wp2
      go_ret
      exact ⟨_, rfl, hO⟩
end Go.Proofs.Ytokajeomojlinaa.ls
