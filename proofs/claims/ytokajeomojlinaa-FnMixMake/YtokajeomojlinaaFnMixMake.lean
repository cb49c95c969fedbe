/-
  MixMake answers as the specification at every drawn text and number, byte by byte the exclusive or of the blocks that MixOf names: the law returns true for every code; no condition.
-/
import Derived.Test.YtokajeomojlinaaRows
import Derived.WalkKit
import Derived.ProofKit
import Derived.OpenShut
import Derived.ShutString
import Derived.ChangeOld
import Derived.Below
import Derived.Test.YtokajeomojlinaaMakeImpl
import Derived.Test.YtokajeomojlinaaGetPlain
import Derived.Test.YtokajeomojlinaaStrLists
import Derived.Test.YtokajeomojlinaaDraw3
namespace Go.Proofs.Ytokajeomojlinaa.fnMixMake
open Go.ChangeShapes Go.WideShapes Go.ChangeAt Go.RowKit
open Go.ChangeMaps (open_string shut_string)
open Go.Proofs.Ytokajeomojlinaa.wd Go.Proofs.Ytokajeomojlinaa.mp Go.Proofs.Ytokajeomojlinaa.cp Go.Proofs.Ytokajeomojlinaa.ow Go.Proofs.Ytokajeomojlinaa.cs Go.Proofs.Ytokajeomojlinaa.mi Go.Proofs.Ytokajeomojlinaa.ci Go.Proofs.Ytokajeomojlinaa.dr
set_option linter.unusedVariables false

theorem own : ownKnob Try.prog.godebug = none := by kernel_rfl
theorem laidOut : laidOutB Try.prog = true := by kernel_rfl

/-- WHAT THE WALK IS TOLD OF A SLICE OF INTEGERS THAT CAME IN: it is nil; or it leads to a row of 'cap' cells, the numbers 'zs' (the first 'len' are its elements, the rest its spare room), each fitting its kind. -/
def IsRow (k : IntKind) (w : World) (a : Option Addr) (len cap : Nat) (zs : List Int) : Prop :=
  (a = none ∧ len = 0 ∧ cap = 0 ∧ zs = []) ∨
  ∃ x, a = some x ∧ len ≤ cap ∧ cap ≤ maxLen ∧ zs.length = cap ∧ (∀ i, i < zs.length → w.cell? (x.add i) = some (.int k (zs.getD i 0))) ∧ ∀ n ∈ zs, (Lit.int k n).wf = true

theorem walk (a0 : Option Addr) (len0 cap0 : Nat) (z0 : List Int) (w : World) (w0 : IsRow .u8 w a0 len0 cap0 z0) :
    Calls Try.prog 4 #[.slice a0 len0 cap0] w fun e w' => e = .returned (.bool true) ∧ Below w.heap.size w w' := by
  obtain ⟨hb0, hl0, hm0⟩ := bytes_of_row w0
  clear w0
  have hm0' : cap0 ≤ 9223372036854775807 := hm0
  by_cases hg0 : 1048576 < len0
  · go_enter Try.func4, Try.ntmps4
    go_wp2
    go_ret
    exact ⟨rfl, Below.refl _ _⟩
  go_enter Try.func4, Try.ntmps4
  go_wp2_with fail
  refine (drawMixMake _ _ _ _ hb0 hl0 hm0).mono ?_
  rintro e w1 ⟨t, num, rfl, ht, n0, n1, hB1⟩
  go_wp2_with fail
  refine (smake_any t (by omega) _ _).mono ?_
  rintro e w2 ⟨rfl, hB2⟩
  go_wp2_with fail
  refine (imake_any t (by omega) _ _).mono ?_
  rintro e w3 ⟨rfl, hB3⟩
  have HM1 := Lib.hid (fun h => mk_no (t := t) (num := num) h)
  have HM2 := Lib.hid (fun h => mk_yes (t := t) (num := num) h)
  have HA := Lib.hid (fun k h => mo_at (b := cutN t) (num := num) (k := k) h)
  generalize mk t num = X at HM1 HM2 ⊢
  have HB3 := Lib.hid ((hB1.trans (hB2.mono hB1.size)).trans (hB3.mono (Nat.le_trans hB1.size hB2.size)))
  clear hB1 hB2 hB3
  go_wp2_with fail
  refine (icut_any t (by omega) _).mono ?_
  rintro e w4 ⟨v1, rfl, hI1⟩
  obtain ⟨A1, c1, rfl, hc1⟩ := strs_form hI1
  have HC1 := Lib.hid hc1
  have HB4 := Lib.hid (HB3.out.trans (hI1.2.mono HB3.out.size))
  have HCut := Lib.hid (cut_len t)
  rw [HCut.out]
  clear hc1 hI1 HB3
  have hls := mo_small (cutN t) num
  go_wp2_with fail
  refine (imo_any _ _ _).mono ?_
  rintro e w5 ⟨v2, rfl, hI2⟩
  obtain ⟨A2, c2, rfl, hc2⟩ := ints_form hI2
  have HC2 := Lib.hid hc2
  have HB5 := Lib.hid (HB4.out.trans (hI2.2.mono HB4.out.size))
  have HB45 := Lib.hid hI2.2
  have hz45 := hI2.2.size
  clear hc2 hI2 HB4
  generalize hL : mo (cutN t) num = l at hls HM1 HM2 HA HC2 ⊢
  clear hL
  by_cases hl0 : l.length = 0
  · have hX := HM1.out (List.eq_nil_of_length_eq_zero hl0)
    subst hX
    rw [hl0]
    go_wp2
    go_ret
    exact ⟨rfl, HB5.out⟩
  have hX := HM2.out (fun h => hl0 (by rw [h]; rfl))
  have hd2 : ((l.length : Int) == 0) = false := by rw [beq_eq_false_iff_ne]; omega
  obtain ⟨g2, rfl, _, hg2, hcell2⟩ := HC2.out (by omega)
  have HCell2 := Lib.hid hcell2
  obtain ⟨x00, x01⟩ := HA.out 0 (by omega)
  obtain ⟨g1, rfl, _, hg1, hcell1⟩ := HC1.out (by rw [HCut.out]; omega)
  have HCell1 : Hid (∀ i x, (cut t)[i]? = some x → w5.cell? ⟨g1, i, none⟩ = some (.string x)) := fun i x hx => (HB45.out.cell (p := ⟨g1, i, none⟩) hg1).trans (hcell1 i x hx)
  have hX4 : X.size = 4 := by rw [hX]; rfl
  have HXG : Hid (∀ i (h : i < X.size), X[i] = ci.Q.get (xq t l) i) := by subst hX; exact fun i h => str_get _ h
  have hn6 := cutN_le t
  clear hcell1 hcell2 HC1 HC2 HM1 HM2 hX HB45 x00 x01
  generalize hN : cutN t = n at hn6 HA ⊢
  have HN := Lib.hid hN
  clear hN
  go_wp2
  go_loop [9] (fun i => ∃ j : Nat, j ≤ 4 ∧ i = .int .i64 j) (fun i => 5 - (intOf i).toNat)
  case atStart => exact ⟨0, by omega, rfl⟩
  case round =>
    obtain ⟨j, hj, rfl⟩ := hrel
    by_cases hj4 : j < 4
    · go_wp2
      go_loop [10, 11] (fun b i => ∃ k : Nat, k ≤ l.length ∧ i = .int .i64 k ∧ b = .int .u8 ((ci.Q.get (xq t (l.take k)) j).toNat : Int)) (fun _ i => (l.length + 1 : Nat) - (intOf i).toNat)
      case atStart => exact ⟨0, by omega, rfl, by show _ = Value.int .u8 ((ci.Q.get Q.zero j).toNat : Int); rw [get_zero]; rfl⟩
      case round =>
        obtain ⟨k, hk, rfl, rfl⟩ := hrel
        by_cases hkl : k < l.length
        · obtain ⟨x0, x1⟩ := HA.out k hkl
          have e2 := HCell2.out k hkl
          have HX := Lib.hid (xq_get t hkl j)
          generalize l.getD k 0 = x at x0 x1 e2 HX
          obtain ⟨i, rfl⟩ := Int.eq_ofNat_of_zero_le x0
          rw [Int.toNat_natCast] at HX
          have hin : i < n := by omega
          have e1 := HCell1.out i _ (cut_at (by rw [HN.out]; exact hin))
          have hq4 := Q.str_size (qb t i)
          have hsj : j < (qb t i).str.size := by omega
          have hgt := str_get (qb t i) hsj
          generalize (qb t i).str = s at e1 hq4 hsj hgt
          generalize ci.Q.get (qb t i) j = y at hgt HX
          generalize ci.Q.get (xq t (l.take k)) j = z at HX
          go_wp2
          go_round
          case rel => exact ⟨k + 1, by omega, by go_num, by rw [HX.out]⟩
          case measure => simp [intOf]; omega
        · obtain rfl : k = l.length := by omega
          have hxj : j < X.size := by omega
          have hxg := HXG.out j hxj
          rw [xq_all]
          generalize ci.Q.get (xq t l) j = z at hxg
          go_wp2
          go_round
          case rel => exact ⟨j + 1, by omega, by go_num⟩
          case measure => simp [intOf]; omega
    · go_wp2
      go_ret
      exact ⟨rfl, HB5.out⟩

set_option maxRecDepth 100000 in
theorem lifted (os : Os) (started : os.Started) (H : Type) (enc : TypeId × Value → H) :
    ReturnsInHanded {} Try.checked os 4 .any (Rows.fnMixMakeSpec.pre6 enc Try.prog Try.f4 Rows.fnMixMakeRow.domain false) (Rows.fnMixMakeSpec.post enc Try.prog Try.f4 false true false false) := by
  refine returnsInHanded_of_change (C := Try.checked) own started (by kernel_rfl) Try.func4
    (ChangeSpec.witness6 (enc := enc) (C := Try.checked) false ⟨#[], #[.slice none 0 0], []⟩ 8 (by kernel_rfl) (by kernel_rfl) (by kernel_rfl) (by kernel_rfl)) ?_
  intro W base args ds gs before hval0 hW hcnd _
  have hval : ∀ (j : Nat) t v, Try.f4.params[j]? = some t → args[j]? = some v → Value.okWide Try.prog W .any base t v := hval0
  have hW' := hW
  obtain ⟨p, q, hA0, hV, rfl, hfz, hnd⟩ := hW
  have hA : DataW.TrodAll enc Try.prog W 0 (fun _ => true) true Try.f4.params.toList args.toList ds p := hA0
  rw [Try.params4] at hA hval
  obtain ⟨v0, vs0, d0, ds0, p0, q0, hargs, rfl, rfl, h0, r0⟩ := trodAll_cons hA
  obtain ⟨rfl, rfl, rfl⟩ := trodAll_nil r0
  obtain rfl : args = #[v0] := by cases args; simp_all
  obtain ⟨rfl, rfl⟩ := trodVars_none hV
  obtain ⟨a0, len0, cap0, rfl⟩ := okWide_slice Try.underlying22 (hval 0 22 v0 rfl rfl)
  have k0 := h0
  have lt0 : ∀ x ∈ p0, x.block < W.heap.size := by obtain ⟨m, hm⟩ := k0; exact DataW.trod_lt m _ _ _ hm
  obtain ⟨z0, w0⟩ : ∃ zs, IsRow .u8 W a0 len0 cap0 zs := by
    obtain ⟨fuel, hf⟩ := h0
    rcases open_ints Try.underlying22 Try.underlying5 (by kernel_rfl) hf with ⟨hcs, _⟩ | ⟨x, l, c, zs, hcs, _, hl, hm, hz, _, hcell, hwz⟩
    · simp [Value.cells] at hcs
      obtain ⟨rfl, rfl, rfl⟩ := hcs
      exact ⟨[], .inl ⟨rfl, rfl, rfl, rfl⟩⟩
    · simp [Value.cells] at hcs
      obtain ⟨rfl, rfl, rfl⟩ := hcs
      exact ⟨zs, .inr ⟨_, rfl, hl, hm, by simpa using hz, hcell, hwz⟩⟩
  clear hA0 hval0
  refine (walk a0 len0 cap0 z0 W w0).mono fun e W' ⟨he, bel⟩ => ?_
  subst he
  exact ⟨_, rfl, _, _, _, [], _, [], hW', trodAll_mk1 (shut_bool Try.underlying4 _), (trodAll_cons_mk (Below.trod laidOut (by kernel_rfl) (of_decide_eq_true (by kernel_rfl)) k0 bel lt0) trodAll_mk0), rfl, bel.frame _, fun h => by cases h⟩

theorem over : Rows.fnMixMakeRow.holds Try.pinned (OpenSpec.ofChange Rows.fnMixMakeSpec) :=
  OpenClaim.holds_of_wide 4 Try.f4 rfl rfl rfl rfl rfl rfl rfl ⟨rfl, rfl, rfl, rfl, rfl⟩ rfl rfl rfl rfl rfl (by kernel_rfl) Try.func4 (by kernel_rfl)
    (of_decide_eq_true (by kernel_rfl)) (by unfold Func.isWrapper; first | (rw [if_pos (by decide +kernel)]; kernel_rfl) | (rw [if_neg (by decide +kernel)]; exact ⟨rfl, rfl⟩))
    (fun os started H enc _ => lifted os started H enc)

/-- ████ THE STATEMENT ████ -/
theorem proved : Rows.FnMixMakeSaid := over
#print axioms proved
end Go.Proofs.Ytokajeomojlinaa.fnMixMake
