/-
  MixMake answers as the specification at every drawn text and number; a mixed block over itself, and over all its blocks, is zero: the law returns true for every two codes; no condition.
-/
import Derived.Test.YtokajeomojlinaaRows
import Derived.WalkKit
import Derived.ProofKit
import Derived.OpenShut
import Derived.ShutString
import Derived.ChangeOld
import Derived.Below
import Derived.Test.YtokajeomojlinaaMakeImpl
import Derived.Test.YtokajeomojlinaaOver
import Derived.Test.YtokajeomojlinaaStrLists
import Derived.Test.YtokajeomojlinaaDraw3
namespace Go.Proofs.Ytokajeomojlinaa.fnMixTwice
open Go.ChangeShapes Go.WideShapes Go.ChangeAt Go.RowKit
open Go.ChangeMaps (open_string shut_string)
open Go.Proofs.Ytokajeomojlinaa.wd Go.Proofs.Ytokajeomojlinaa.mp Go.Proofs.Ytokajeomojlinaa.cp Go.Proofs.Ytokajeomojlinaa.ow Go.Proofs.Ytokajeomojlinaa.cs Go.Proofs.Ytokajeomojlinaa.mi Go.Proofs.Ytokajeomojlinaa.ci Go.Proofs.Ytokajeomojlinaa.dr
set_option linter.unusedVariables false

theorem own : ownKnob Try.prog.godebug = none := by kernel_rfl
theorem laidOut : laidOutB Try.prog = true := by kernel_rfl

/-- WHAT THE WALK IS TOLD OF A SLICE OF INTEGERS THAT CAME IN: it is nil; or it leads to a row of 'cap' cells, the numbers 'zs' (the first 'len' are its elements, the rest its spare room), each fitting its kind. -/
def IsRow (k : IntKind) (w : World) (a : Option Addr) (len cap : Nat) (zs : List Int) : Prop :=
  (a = none ∧ len = 0 ∧ cap = 0 ∧ zs = []) ∨
  ∃ x, a = some x ∧ len ≤ cap ∧ cap ≤ maxLen ∧ zs.length = cap ∧ (∀ i, i < zs.length → w.cell? (x.add i) = some (.int k (zs.getD i 0))) ∧ ∀ n ∈ zs, (Lit.int k n).wf = true

theorem walk (a0 : Option Addr) (len0 cap0 : Nat) (z0 : List Int) (a1 : Option Addr) (len1 cap1 : Nat) (z1 : List Int) (w : World) (w0 : IsRow .u8 w a0 len0 cap0 z0) (w1 : IsRow .u8 w a1 len1 cap1 z1) :
    Calls Try.prog 12 #[.slice a0 len0 cap0, .slice a1 len1 cap1] w fun e w' => e = .returned (.bool true) ∧ Below w.heap.size w w' := by
  obtain ⟨hb0, hl0, hm0⟩ := bytes_of_row w0
  obtain ⟨hb1, hl1, hm1⟩ := bytes_of_row w1
  clear w0 w1
  have hm0' : cap0 ≤ 9223372036854775807 := hm0
  have hm1' : cap1 ≤ 9223372036854775807 := hm1
  by_cases hg0 : 1048576 < len0
  · go_enter Try.func12, Try.ntmps12
    go_wp2
    go_ret
    exact ⟨rfl, Below.refl _ _⟩
  by_cases hg1 : 1048576 < len1
  · go_enter Try.func12, Try.ntmps12
    go_wp2
    go_ret
    exact ⟨rfl, Below.refl _ _⟩
  have hmk : ∀ wx : World, (Instr.makeSlice 22 (.int .i64 4) (.int .i64 4)).run Try.prog wx = .ok (.slice (some ⟨wx.heap.size, 0, none⟩) 4 4) (wx.alloc (.cells Q.zero.cells 5)) := by
    intro wx; kernel_rfl
  have hcv : ∀ wx : World, (convert 22 9 (.slice (some ⟨wx.heap.size, 0, none⟩) 4 4)).run Try.prog (wx.alloc (.cells Q.zero.cells 5)) = .ok (.string Q.zero.str) (wx.alloc (.cells Q.zero.cells 5)) := fun wx =>
    run_convert_bytes_back (P := Try.prog) _ 22 9 5 ⟨wx.heap.size, 0, none⟩ 4 Q.zero.list Try.underlying22 Try.underlying5 Try.underlying9 (fun j hj => by
      have e : (⟨wx.heap.size, 0, none⟩ : Addr).add j = ⟨wx.heap.size, j, none⟩ := by unfold Addr.add; split <;> simp_all
      rw [e, (Blk.new wx 5 Q.zero.cells).cell j]
      have : j = 0 ∨ j = 1 ∨ j = 2 ∨ j = 3 := by simp [Q.list] at hj; omega
      rcases this with rfl | rfl | rfl | rfl <;> rfl)
  have HMK := Lib.hid hmk
  have HCV := Lib.hid hcv
  clear hmk hcv
  go_enter Try.func12, Try.ntmps12
  go_wp2_with fail
  refine (lbText_any _ _ _ _ hb0 hl0 hm0).mono ?_
  rintro e w1 ⟨t, rfl, ht0, ht1, hB1⟩
  have hb1' := Bytes_later hb1 hB1
  go_wp2_with fail
  refine (drawMixMake _ _ _ _ hb1' hl1 hm1).mono ?_
  rintro e w2 ⟨t', num, rfl, ht', n0, n1, hB2⟩
  have HB2 := Lib.hid (hB1.trans (hB2.mono hB1.size))
  clear hB1 hB2 hb1' hb1 hb0
  go_wp2_with fail
  refine (imake_any t (by omega) _ _).mono ?_
  rintro e w3 ⟨rfl, hB3⟩
  have HB3 := Lib.hid (HB2.out.trans (hB3.mono HB2.out.size))
  clear hB3 HB2
  go_wp2_with fail
  refine (smake_any t (by omega) _ _).mono ?_
  rintro e w4 ⟨rfl, hB4⟩
  have HB4 := Lib.hid (HB3.out.trans (hB4.mono HB3.out.size))
  clear hB4 HB3
  by_cases hl0 : mo (cutN t) num = []
  · have hX := mk_no hl0
    rw [hX]
    go_wp2_with fail
    refine (smake_any t (by omega) _ _).mono ?_
    rintro e w5 ⟨rfl, hB5⟩
    have HB5 := Lib.hid (HB4.out.trans (hB5.mono HB4.out.size))
    rw [hX]
    clear hB5 hX
    go_wp2
    go_ret
    exact ⟨rfl, HB5.out⟩
  have HX := Lib.hid (mk_yes hl0)
  rw [HX.out]
  have HA := Lib.hid (fun k h => mo_at (b := cutN t) (num := num) (k := k) h)
  have hls := mo_small (cutN t) num
  have hlp : 0 < (mo (cutN t) num).length := List.length_pos_iff.mpr hl0
  have he : (xq t (mo (cutN t) num)).str.toList.isEmpty = false := by rw [ByteArray.toList_eq]; rfl
  go_wp2_with fail
  refine (icut_any t (by omega) _).mono ?_
  rintro e w5 ⟨v1, rfl, hI1⟩
  obtain ⟨A1, c1, rfl, hc1⟩ := strs_form hI1
  have HC1 := Lib.hid hc1
  have HB5 := Lib.hid (HB4.out.trans (hI1.2.mono HB4.out.size))
  have HCut := Lib.hid (cut_len t)
  rw [HCut.out]
  clear hc1 hI1 HB4
  go_wp2_with fail
  refine (imo_any _ _ _).mono ?_
  rintro e w6 ⟨v2, rfl, hI2⟩
  obtain ⟨A2, c2, rfl, hc2⟩ := ints_form hI2
  have HC2 := Lib.hid hc2
  have HB6 := Lib.hid (HB5.out.trans (hI2.2.mono HB5.out.size))
  have HB56 := Lib.hid hI2.2
  clear hc2 hI2 HB5
  obtain ⟨g2, rfl, _, hg2, hcell2⟩ := HC2.out hlp
  have HCell2 := Lib.hid hcell2
  obtain ⟨x00, x01⟩ := HA.out 0 hlp
  obtain ⟨g1, rfl, _, hg1, hcell1⟩ := HC1.out (by rw [HCut.out]; omega)
  have hg1' : g1 < w6.heap.size := Nat.lt_of_lt_of_le hg1 HB56.out.size
  have HCell1 : Hid (∀ i x, (cut t)[i]? = some x → w6.cell? ⟨g1, i, none⟩ = some (.string x)) := fun i x hx => (HB56.out.cell (p := ⟨g1, i, none⟩) hg1).trans (hcell1 i x hx)
  have hn6 := cutN_le t
  have hz := HB6.out.size
  clear hcell1 hcell2 HC1 HC2 HB56 x00 x01 hl0
  generalize hL : mo (cutN t) num = l at hls hlp HX HA HCell2 he ⊢
  clear hL
  generalize hN : cutN t = n at hn6 HA ⊢
  have HN := Lib.hid hN
  clear hN
  have HZ0 := Lib.hid (show (xq t l).str = ((xq t l).xor (xq t (l.take 0))).str by rw [show xq t (l.take 0) = Q.zero from rfl, Q.xor_zero])
  go_wp2
  go_loopw [11, 12] (fun y i wr => ∃ k : Nat, k ≤ l.length ∧ i = .int .i64 k ∧ y = .string ((xq t l).xor (xq t (l.take k))).str ∧ Below w6.heap.size w6 wr) (fun _ i _ => (l.length + 1 : Nat) - (intOf i).toNat)
  case atStart => exact ⟨0, by omega, rfl, by rw [← HZ0.out], Below.refl _ _⟩
  case round =>
    obtain ⟨k, hk, rfl, rfl, hB⟩ := hrel
    clear HZ0
    by_cases hkl : k < l.length
    · obtain ⟨x0, x1⟩ := HA.out k hkl
      have e2 := (hB.cell (p := ⟨g2, k, none⟩) hg2).trans (HCell2.out k hkl)
      have HO := Lib.hid (over_on t hkl (xq t l))
      generalize l.getD k 0 = x at x0 x1 e2 HO
      obtain ⟨i, rfl⟩ := Int.eq_ofNat_of_zero_le x0
      rw [Int.toNat_natCast] at HO
      have hin : i < n := by omega
      have e1 := (hB.cell (p := ⟨g1, i, none⟩) hg1').trans (HCell1.out i _ (cut_at (by rw [HN.out]; exact hin)))
      generalize (xq t l).xor (xq t (l.take k)) = p at HO
      go_wp2_with fail
      refine (over_any _ _ _).mono ?_
      rintro e w7 ⟨rfl, hB7⟩
      have R := Lib.hid (hB.trans (hB7.mono hB.size))
      clear hB7 hB
      go_wp2
      go_roundw
      case rel => exact ⟨k + 1, by omega, by go_num, by rw [HO.out], R.out⟩
      case measure => simp [intOf]; omega
    · obtain rfl : k = l.length := by omega
      rw [over_all]
      have hmk := HMK.out wr
      have hcv := HCV.out wr
      have HB7 := Lib.hid (HB6.out.trans (hB.mono hz))
      have hz7 := HB7.out.size
      clear hB
      go_wp2_with fail
      refine (imake_any t (by omega) _ _).mono ?_
      rintro e w8 ⟨rfl, hB8⟩
      rw [HX.out]
      have HB8 := Lib.hid ((HB7.out.alloc hz7 _).trans (hB8.mono (by simp; omega)))
      have HXS := Lib.hid (Q.xor_self (xq t l))
      clear hB8 hmk hcv
      go_wp2_with fail
      refine (over_any _ _ _).mono ?_
      rintro e w9 ⟨rfl, hB9⟩
      rw [HXS.out]
      have HB9 := Lib.hid (HB8.out.trans (hB9.mono HB8.out.size))
      clear hB9
      go_wp2
      go_ret
      exact ⟨rfl, HB9.out⟩

set_option maxRecDepth 100000 in
theorem lifted (os : Os) (started : os.Started) (H : Type) (enc : TypeId × Value → H) :
    ReturnsInHanded {} Try.checked os 12 .any (Rows.fnMixTwiceSpec.pre6 enc Try.prog Try.f12 Rows.fnMixTwiceRow.domain false) (Rows.fnMixTwiceSpec.post enc Try.prog Try.f12 false true false false) := by
  refine returnsInHanded_of_change (C := Try.checked) own started (by kernel_rfl) Try.func12
    (ChangeSpec.witness6 (enc := enc) (C := Try.checked) false ⟨#[], #[.slice none 0 0, .slice none 0 0], []⟩ 8 (by kernel_rfl) (by kernel_rfl) (by kernel_rfl) (by kernel_rfl)) ?_
  intro W base args ds gs before hval0 hW hcnd _
  have hval : ∀ (j : Nat) t v, Try.f12.params[j]? = some t → args[j]? = some v → Value.okWide Try.prog W .any base t v := hval0
  have hW' := hW
  obtain ⟨p, q, hA0, hV, rfl, hfz, hnd⟩ := hW
  have hA : DataW.TrodAll enc Try.prog W 0 (fun _ => true) true Try.f12.params.toList args.toList ds p := hA0
  rw [Try.params12] at hA hval
  obtain ⟨v0, vs0, d0, ds0, p0, q0, hargs, rfl, rfl, h0, r0⟩ := trodAll_cons hA
  obtain ⟨v1, vs1, d1, ds1, p1, q1, rfl, rfl, rfl, h1, r1⟩ := trodAll_cons r0
  obtain ⟨rfl, rfl, rfl⟩ := trodAll_nil r1
  obtain rfl : args = #[v0, v1] := by cases args; simp_all
  obtain ⟨rfl, rfl⟩ := trodVars_none hV
  obtain ⟨a0, len0, cap0, rfl⟩ := okWide_slice Try.underlying22 (hval 0 22 v0 rfl rfl)
  have k0 := h0
  have lt0 : ∀ x ∈ p0, x.block < W.heap.size := by obtain ⟨m, hm⟩ := k0; exact DataW.trod_lt m _ _ _ hm
  obtain ⟨z0, w0⟩ : ∃ zs, IsRow .u8 W a0 len0 cap0 zs := by
    obtain ⟨fuel, hf⟩ := h0
    rcases open_ints Try.underlying22 Try.underlying5 (by kernel_rfl) hf with ⟨hcs, _⟩ | ⟨x, l, c, zs, hcs, _, hl, hm, hz, _, hcell, hwz⟩
    · simp [Value.cells] at hcs
      obtain ⟨rfl, rfl, rfl⟩ := hcs
      exact ⟨[], .inl ⟨rfl, rfl, rfl, rfl⟩⟩
    · simp [Value.cells] at hcs
      obtain ⟨rfl, rfl, rfl⟩ := hcs
      exact ⟨zs, .inr ⟨_, rfl, hl, hm, by simpa using hz, hcell, hwz⟩⟩
  obtain ⟨a1, len1, cap1, rfl⟩ := okWide_slice Try.underlying22 (hval 1 22 v1 rfl rfl)
  have k1 := h1
  have lt1 : ∀ x ∈ p1, x.block < W.heap.size := by obtain ⟨m, hm⟩ := k1; exact DataW.trod_lt m _ _ _ hm
  obtain ⟨z1, w1⟩ : ∃ zs, IsRow .u8 W a1 len1 cap1 zs := by
    obtain ⟨fuel, hf⟩ := h1
    rcases open_ints Try.underlying22 Try.underlying5 (by kernel_rfl) hf with ⟨hcs, _⟩ | ⟨x, l, c, zs, hcs, _, hl, hm, hz, _, hcell, hwz⟩
    · simp [Value.cells] at hcs
      obtain ⟨rfl, rfl, rfl⟩ := hcs
      exact ⟨[], .inl ⟨rfl, rfl, rfl, rfl⟩⟩
    · simp [Value.cells] at hcs
      obtain ⟨rfl, rfl, rfl⟩ := hcs
      exact ⟨zs, .inr ⟨_, rfl, hl, hm, by simpa using hz, hcell, hwz⟩⟩
  clear hA0 hval0
  refine (walk a0 len0 cap0 z0 a1 len1 cap1 z1 W w0 w1).mono fun e W' ⟨he, bel⟩ => ?_
  subst he
  exact ⟨_, rfl, _, _, _, [], _, [], hW', trodAll_mk1 (shut_bool Try.underlying4 _), (trodAll_cons_mk (Below.trod laidOut (by kernel_rfl) (of_decide_eq_true (by kernel_rfl)) k0 bel lt0) (trodAll_cons_mk (Below.trod laidOut (by kernel_rfl) (of_decide_eq_true (by kernel_rfl)) k1 bel lt1) trodAll_mk0)), rfl, bel.frame _, fun h => by cases h⟩

theorem over : Rows.fnMixTwiceRow.holds Try.pinned (OpenSpec.ofChange Rows.fnMixTwiceSpec) :=
  OpenClaim.holds_of_wide 12 Try.f12 rfl rfl rfl rfl rfl rfl rfl ⟨rfl, rfl, rfl, rfl, rfl⟩ rfl rfl rfl rfl rfl (by kernel_rfl) Try.func12 (by kernel_rfl)
    (of_decide_eq_true (by kernel_rfl)) (by unfold Func.isWrapper; first | (rw [if_pos (by decide +kernel)]; kernel_rfl) | (rw [if_neg (by decide +kernel)]; exact ⟨rfl, rfl⟩))
    (fun os started H enc _ => lifted os started H enc)

/-- ████ THE STATEMENT ████ -/
theorem proved : Rows.FnMixTwiceSaid := over
#print axioms proved
end Go.Proofs.Ytokajeomojlinaa.fnMixTwice
