/-
  MixMake answers as the specification at every drawn text and number, and at the text with one byte changed; the two answers differ just where MixOf names the changed block: the law returns true for every two codes; no condition.
-/
import Derived.Test.YtokajeomojlinaaRows
import Derived.WalkKit
import Derived.ProofKit
import Derived.OpenShut
import Derived.ShutString
import Derived.ChangeOld
import Derived.Below
import Derived.Test.YtokajeomojlinaaMakeImpl
import Derived.Test.YtokajeomojlinaaBytesOf
import Derived.Test.YtokajeomojlinaaDraw3
namespace Go.Proofs.Ytokajeomojlinaa.fnMixUnlike
open Go.ChangeShapes Go.WideShapes Go.ChangeAt Go.RowKit
open Go.ChangeMaps (open_string shut_string)
open Go.Proofs.Ytokajeomojlinaa.wd Go.Proofs.Ytokajeomojlinaa.mp Go.Proofs.Ytokajeomojlinaa.cp Go.Proofs.Ytokajeomojlinaa.ow Go.Proofs.Ytokajeomojlinaa.cs Go.Proofs.Ytokajeomojlinaa.mi Go.Proofs.Ytokajeomojlinaa.ci Go.Proofs.Ytokajeomojlinaa.dr
set_option linter.unusedVariables false

theorem own : ownKnob Try.prog.godebug = none := by kernel_rfl
theorem laidOut : laidOutB Try.prog = true := by kernel_rfl

/-- WHAT THE WALK IS TOLD OF A SLICE OF INTEGERS THAT CAME IN: it is nil; or it leads to a row of 'cap' cells, the numbers 'zs' (the first 'len' are its elements, the rest its spare room), each fitting its kind. -/
def IsRow (k : IntKind) (w : World) (a : Option Addr) (len cap : Nat) (zs : List Int) : Prop :=
  (a = none ∧ len = 0 ∧ cap = 0 ∧ zs = []) ∨
  ∃ x, a = some x ∧ len ≤ cap ∧ cap ≤ maxLen ∧ zs.length = cap ∧ (∀ i, i < zs.length → w.cell? (x.add i) = some (.int k (zs.getD i 0))) ∧ ∀ n ∈ zs, (Lit.int k n).wf = true

theorem walk (a0 : Option Addr) (len0 cap0 : Nat) (z0 : List Int) (a1 : Option Addr) (len1 cap1 : Nat) (z1 : List Int) (w : World) (w0 : IsRow .u8 w a0 len0 cap0 z0) (w1 : IsRow .u8 w a1 len1 cap1 z1) :
    Calls Try.prog 11 #[.slice a0 len0 cap0, .slice a1 len1 cap1] w fun e w' => e = .returned (.bool true) ∧ Below w.heap.size w w' := by
  obtain ⟨hb0, hl0, hm0⟩ := bytes_of_row w0
  obtain ⟨hb1, hl1, hm1⟩ := bytes_of_row w1
  clear w0 w1
  have hm0' : cap0 ≤ 9223372036854775807 := hm0
  have hm1' : cap1 ≤ 9223372036854775807 := hm1
  by_cases hg0 : 1048576 < len0
  · go_enter Try.func11, Try.ntmps11
    go_wp2
    go_ret
    exact ⟨rfl, Below.refl _ _⟩
  by_cases hg1 : 1048576 < len1
  · go_enter Try.func11, Try.ntmps11
    go_wp2
    go_ret
    exact ⟨rfl, Below.refl _ _⟩
  go_enter Try.func11, Try.ntmps11
  go_wp2_with fail
  refine (lbText_any _ _ _ _ hb0 hl0 hm0).mono ?_
  rintro e w1 ⟨t, rfl, ht0, ht1, hB1⟩
  have hb1' := Bytes_later hb1 hB1
  go_wp2_with fail
  refine (drawMixMake _ _ _ _ hb1' hl1 hm1).mono ?_
  rintro e w2 ⟨t', num, rfl, ht', n0, n1, hB2⟩
  have HB2 := Lib.hid (hB1.trans (hB2.mono hB1.size))
  clear hB1 hB2 hb1' hb1 hb0
  obtain ⟨cap, w3, hrun, hM⟩ := bytes_of w2 t
  have hat : len1 % t.size < t.size := Nat.mod_lt _ (by omega)
  generalize hA : len1 % t.size = a at hat
  have HAt := Lib.hid hA
  have hc3 : w3.cell? ⟨w2.heap.size, a, none⟩ = some (.int .u8 ((by_ t a).toNat : Int)) := (hM.1 a hat).1
  have hf3 := (hM.1 a hat).2
  have hAi : (len1 : Int) % (t.size : Int) = (a : Int) := by rw [← hA]; rfl
  have hcap := hM.2.1
  have hdn : (UInt8.ofNat (1 + len0 % 255)).toNat = 1 + len0 % 255 := by simp; omega
  have hd : UInt8.ofNat (1 + len0 % 255) ≠ 0 := fun e => by rw [e] at hdn; simp at hdn; omega
  have hxr : bits .xor .u8 ((by_ t a).toNat : Int) (1 + (len0 : Int) % 255) = ((by_ t a ^^^ UInt8.ofNat (1 + len0 % 255)).toNat : Int) := by
    rw [← xor_bv, hdn]; congr 1
  have HCv := Lib.hid (fun w2' hB => chg_text (w2 := w2') (d := UInt8.ofNat (1 + len0 % 255)) hM hat hB)
  have HB3 := Lib.hid (HB2.out.trans (hM.2.2.1.mono HB2.out.size))
  have hz3 := hM.2.2.2
  have hz2 := HB2.out.size
  have HO1 := Lib.hid (fun h => mk_out t hat (UInt8.ofNat (1 + len0 % 255)) num h)
  have HO2 := Lib.hid (fun h => mk_in t hat hd num h)
  have HCS := Lib.hid (chg_size t a (UInt8.ofNat (1 + len0 % 255)))
  clear hM hA hd hdn
  generalize UInt8.ofNat (1 + len0 % 255) = d at hxr HCv HO1 HO2 HCS
  go_wp2_with fail
  refine (smake_any t (by omega) _ _).mono ?_
  rintro e w4 ⟨rfl, hB4⟩
  have HB4 : Hid (Below w3.heap.size (w3.setCell ⟨w2.heap.size, a, none⟩ (bv (by_ t a ^^^ d))) w4) := by
    have hs : (w3.setCell ⟨w2.heap.size, a, none⟩ (bv (by_ t a ^^^ d))).heap.size = w3.heap.size := by simp
    rw [← hs]
    exact hB4
  clear hB4 hrun hc3 hf3 hxr
  go_wp2_with fail
  refine (imake_any t (by omega) _ _).mono ?_
  rintro e w5 ⟨rfl, hB5⟩
  have HB5 := Lib.hid (HB4.out.trans (hB5.mono (by have := HB4.out.size; simp at this; exact this)))
  have hcv5 := HCv.out w5 HB5.out
  clear hB5 HB4
  generalize hT : chg t a d = u at HO1 HO2 HCv hcv5 HCS
  go_wp2_with fail
  refine (imake_any u (by rw [HCS.out]; omega) _ _).mono ?_
  rintro e w6 ⟨rfl, hB6⟩
  have HB6 := Lib.hid (HB5.out.trans (hB6.mono (by have := HB5.out.size; simp at this; exact this)))
  have hcv6 := HCv.out w6 HB6.out
  clear hB6 HB5 hcv5
  generalize hX : mk t num = X at HO1 HO2 ⊢
  generalize hY : mk u num = Y at HO1 HO2 ⊢
  have HX := Lib.hid hX
  have HY := Lib.hid hY
  have HT := Lib.hid hT
  clear hX hY hT
  go_wp2_with fail
  refine (smake_any u (by rw [HCS.out]; omega) _ _).mono ?_
  rintro e w7 ⟨rfl, hB7⟩
  rw [HY.out]
  have HB7 := Lib.hid (HB6.out.trans (hB7.mono (by have := HB6.out.size; simp at this; exact this)))
  have hls := mo_small (cutN t) num
  have HN := Lib.hid (cutN_in (t := t) ht0 ht1)
  clear hB7 HB6 hcv6
  go_wp2_with fail
  rw [show ((t.size : Int) + 4 - 1) / 4 = ((cutN t : Nat) : Int) by rw [HN.out]; omega]
  refine (imo_any _ _ _).mono ?_
  rintro e w8 ⟨v2, rfl, hI2⟩
  obtain ⟨A2, c2, rfl, hc2⟩ := ints_form hI2
  have HC2 := Lib.hid hc2
  have HB8 : Hid (Below w.heap.size w w8) := by
    have h1 := HB7.out.trans (hI2.2.mono (by have := HB7.out.size; simp at this; exact this))
    exact (HB3.out.setCell (p := ⟨w2.heap.size, a, none⟩) hz2 _).trans (h1.mono (by omega))
  clear hc2 hI2 HB7
  generalize mo (cutN t) num = l at hls HO1 HO2 HC2 ⊢
  go_wp2
  go_loop [14, 15] (fun b i => ∃ k : Nat, k ≤ l.length ∧ i = .int .i64 k ∧ b = .bool (inTo l ((a : Int) / 4) k)) (fun _ i => (l.length + 1 : Nat) - (intOf i).toNat)
  case atStart => exact ⟨0, by omega, rfl, rfl⟩
  case round =>
    obtain ⟨k, hk, rfl, rfl⟩ := hrel
    by_cases hkl : k < l.length
    · obtain ⟨g2, rfl, _, hg2, hcell2⟩ := HC2.out (by omega)
      have e2 := hcell2 k hkl
      have HS := Lib.hid (inTo_on (x := (a : Int) / 4) hkl)
      clear hcell2
      generalize l.getD k 0 = x at e2 HS
      cases hin : inTo l ((a : Int) / 4) k with
      | true =>
        rw [hin] at HS
        clear hin
        go_wp2
        go_round
        case rel => exact ⟨k + 1, by omega, by go_num, by rw [HS.out]; rfl⟩
        case measure => simp [intOf]; omega
      | false =>
        rw [hin] at HS
        clear hin
        go_wp2
        go_round
        case rel => exact ⟨k + 1, by omega, by go_num, by rw [HS.out]; simp⟩
        case measure => simp [intOf]; omega
    · obtain rfl : k = l.length := by omega
      rw [inTo_all]
      by_cases hm : (((a / 4 : Nat) : Int)) ∈ l
      · have hne := toList_ne (x := X) (y := Y) (fun e => HO2.out hm e.symm)
        have hdm : decide ((a : Int) / 4 ∈ l) = true := decide_eq_true hm
        rw [hdm]
        clear hm hdm
        go_wp2
        go_ret
        exact ⟨rfl, HB8.out⟩
      · have hE : Y = X := HO1.out hm
        have hdm : decide ((a : Int) / 4 ∈ l) = false := decide_eq_false hm
        rw [hdm]
        subst hE
        clear hm hdm
        go_wp2
        go_ret
        exact ⟨rfl, HB8.out⟩

set_option maxRecDepth 100000 in
theorem lifted (os : Os) (started : os.Started) (H : Type) (enc : TypeId × Value → H) :
    ReturnsInHanded {} Try.checked os 11 .any (Rows.fnMixUnlikeSpec.pre6 enc Try.prog Try.f11 Rows.fnMixUnlikeRow.domain false) (Rows.fnMixUnlikeSpec.post enc Try.prog Try.f11 false true false false) := by
  refine returnsInHanded_of_change (C := Try.checked) own started (by kernel_rfl) Try.func11
    (ChangeSpec.witness6 (enc := enc) (C := Try.checked) false ⟨#[], #[.slice none 0 0, .slice none 0 0], []⟩ 8 (by kernel_rfl) (by kernel_rfl) (by kernel_rfl) (by kernel_rfl)) ?_
  intro W base args ds gs before hval0 hW hcnd _
  have hval : ∀ (j : Nat) t v, Try.f11.params[j]? = some t → args[j]? = some v → Value.okWide Try.prog W .any base t v := hval0
  have hW' := hW
  obtain ⟨p, q, hA0, hV, rfl, hfz, hnd⟩ := hW
  have hA : DataW.TrodAll enc Try.prog W 0 (fun _ => true) true Try.f11.params.toList args.toList ds p := hA0
  rw [Try.params11] at hA hval
  obtain ⟨v0, vs0, d0, ds0, p0, q0, hargs, rfl, rfl, h0, r0⟩ := trodAll_cons hA
  obtain ⟨v1, vs1, d1, ds1, p1, q1, rfl, rfl, rfl, h1, r1⟩ := trodAll_cons r0
  obtain ⟨rfl, rfl, rfl⟩ := trodAll_nil r1
  obtain rfl : args = #[v0, v1] := by cases args; simp_all
  obtain ⟨rfl, rfl⟩ := trodVars_none hV
  obtain ⟨a0, len0, cap0, rfl⟩ := okWide_slice Try.underlying22 (hval 0 22 v0 rfl rfl)
  have k0 := h0
  have lt0 : ∀ x ∈ p0, x.block < W.heap.size := by obtain ⟨m, hm⟩ := k0; exact DataW.trod_lt m _ _ _ hm
  obtain ⟨z0, w0⟩ : ∃ zs, IsRow .u8 W a0 len0 cap0 zs := by
    obtain ⟨fuel, hf⟩ := h0
    rcases open_ints Try.underlying22 Try.underlying5 (by kernel_rfl) hf with ⟨hcs, _⟩ | ⟨x, l, c, zs, hcs, _, hl, hm, hz, _, hcell, hwz⟩
    · simp [Value.cells] at hcs
      obtain ⟨rfl, rfl, rfl⟩ := hcs
      exact ⟨[], .inl ⟨rfl, rfl, rfl, rfl⟩⟩
    · simp [Value.cells] at hcs
      obtain ⟨rfl, rfl, rfl⟩ := hcs
      exact ⟨zs, .inr ⟨_, rfl, hl, hm, by simpa using hz, hcell, hwz⟩⟩
  obtain ⟨a1, len1, cap1, rfl⟩ := okWide_slice Try.underlying22 (hval 1 22 v1 rfl rfl)
  have k1 := h1
  have lt1 : ∀ x ∈ p1, x.block < W.heap.size := by obtain ⟨m, hm⟩ := k1; exact DataW.trod_lt m _ _ _ hm
  obtain ⟨z1, w1⟩ : ∃ zs, IsRow .u8 W a1 len1 cap1 zs := by
    obtain ⟨fuel, hf⟩ := h1
    rcases open_ints Try.underlying22 Try.underlying5 (by kernel_rfl) hf with ⟨hcs, _⟩ | ⟨x, l, c, zs, hcs, _, hl, hm, hz, _, hcell, hwz⟩
    · simp [Value.cells] at hcs
      obtain ⟨rfl, rfl, rfl⟩ := hcs
      exact ⟨[], .inl ⟨rfl, rfl, rfl, rfl⟩⟩
    · simp [Value.cells] at hcs
      obtain ⟨rfl, rfl, rfl⟩ := hcs
      exact ⟨zs, .inr ⟨_, rfl, hl, hm, by simpa using hz, hcell, hwz⟩⟩
  clear hA0 hval0
  refine (walk a0 len0 cap0 z0 a1 len1 cap1 z1 W w0 w1).mono fun e W' ⟨he, bel⟩ => ?_
  subst he
  exact ⟨_, rfl, _, _, _, [], _, [], hW', trodAll_mk1 (shut_bool Try.underlying4 _), (trodAll_cons_mk (Below.trod laidOut (by kernel_rfl) (of_decide_eq_true (by kernel_rfl)) k0 bel lt0) (trodAll_cons_mk (Below.trod laidOut (by kernel_rfl) (of_decide_eq_true (by kernel_rfl)) k1 bel lt1) trodAll_mk0)), rfl, bel.frame _, fun h => by cases h⟩

theorem over : Rows.fnMixUnlikeRow.holds Try.pinned (OpenSpec.ofChange Rows.fnMixUnlikeSpec) :=
  OpenClaim.holds_of_wide 11 Try.f11 rfl rfl rfl rfl rfl rfl rfl ⟨rfl, rfl, rfl, rfl, rfl⟩ rfl rfl rfl rfl rfl (by kernel_rfl) Try.func11 (by kernel_rfl)
    (of_decide_eq_true (by kernel_rfl)) (by unfold Func.isWrapper; first | (rw [if_pos (by decide +kernel)]; kernel_rfl) | (rw [if_neg (by decide +kernel)]; exact ⟨rfl, rfl⟩))
    (fun os started H enc _ => lifted os started H enc)

/-- ████ THE STATEMENT ████ -/
theorem proved : Rows.FnMixUnlikeSaid := over
#print axioms proved
end Go.Proofs.Ytokajeomojlinaa.fnMixUnlike
