/-
  Peeling answers as the specification at every drawn list, and from a text's own encoded blocks it gives the same whatever their order, and were they there twice: the law returns true for every two codes; no condition.
-/
import Derived.Test.YtokajeomojlinaaRows
import Derived.WalkKit
import Derived.ProofKit
import Derived.OpenShut
import Derived.ShutString
import Derived.ChangeOld
import Derived.Below
import Derived.Test.YtokajeomojlinaaAppendL
import Derived.Test.YtokajeomojlinaaCutImpl4
namespace Go.Proofs.Ytokajeomojlinaa.fnMixTurn
open Go.ChangeShapes Go.WideShapes Go.ChangeAt Go.RowKit
open Go.ChangeMaps (open_string shut_string)
open Go.Proofs.Ytokajeomojlinaa.wd Go.Proofs.Ytokajeomojlinaa.mp Go.Proofs.Ytokajeomojlinaa.cp Go.Proofs.Ytokajeomojlinaa.ow Go.Proofs.Ytokajeomojlinaa.cs Go.Proofs.Ytokajeomojlinaa.ci Go.Proofs.Ytokajeomojlinaa.sl Go.Proofs.Ytokajeomojlinaa.dr Go.Proofs.Ytokajeomojlinaa.pp Go.Proofs.Ytokajeomojlinaa.ls
set_option linter.unusedVariables false

theorem own : ownKnob Try.prog.godebug = none := by kernel_rfl
theorem laidOut : laidOutB Try.prog = true := by kernel_rfl

/-- WHAT THE WALK IS TOLD OF A SLICE OF INTEGERS THAT CAME IN: it is nil; or it leads to a row of 'cap' cells, the numbers 'zs' (the first 'len' are its elements, the rest its spare room), each fitting its kind. -/
def IsRow (k : IntKind) (w : World) (a : Option Addr) (len cap : Nat) (zs : List Int) : Prop :=
  (a = none ∧ len = 0 ∧ cap = 0 ∧ zs = []) ∨
  ∃ x, a = some x ∧ len ≤ cap ∧ cap ≤ maxLen ∧ zs.length = cap ∧ (∀ i, i < zs.length → w.cell? (x.add i) = some (.int k (zs.getD i 0))) ∧ ∀ n ∈ zs, (Lit.int k n).wf = true

set_option maxRecDepth 100000 in
set_option maxHeartbeats 4000000 in
theorem walk (a0 : Option Addr) (len0 cap0 : Nat) (z0 : List Int) (a1 : Option Addr) (len1 cap1 : Nat) (z1 : List Int) (w : World) (w0 : IsRow .u8 w a0 len0 cap0 z0) (w1 : IsRow .u8 w a1 len1 cap1 z1) :
    Calls Try.prog 6 #[.slice a0 len0 cap0, .slice a1 len1 cap1] w fun e w' => e = .returned (.bool true) ∧ Below w.heap.size w w' := by
  obtain ⟨i0, hi, hz0, hz1, hz2⟩ := info_parts infoMixed
  obtain ⟨hb0, hl0, hm0⟩ := bytes_of_row w0
  obtain ⟨hb1, hl1, hm1⟩ := bytes_of_row w1
  clear w0 w1
  have hm0' : cap0 ≤ 9223372036854775807 := hm0
  have hm1' : cap1 ≤ 9223372036854775807 := hm1
  by_cases hg0 : 1048576 < len0
  · go_enter Try.func6, Try.ntmps6
    go_wp2
    go_ret
    exact ⟨rfl, Below.refl _ _⟩
  by_cases hg1 : 1048576 < len1
  · go_enter Try.func6, Try.ntmps6
    go_wp2
    go_ret
    exact ⟨rfl, Below.refl _ _⟩
  go_enter Try.func6, Try.ntmps6
  go_wp2_with fail
  refine (lbText_any _ _ _ _ hb0 hl0 hm0).mono ?_
  rintro e w1 ⟨t, rfl, ht0, ht1, hB1⟩
  have hb1' := Bytes_later hb1 hB1
  go_wp2_with fail
  refine (drawMixPeel _ _ _ _ hb1' hl1 hm1).mono ?_
  rintro e w2 ⟨n, v, l, rfl, n0, n1, hl, hO2⟩
  have hS2 := sees_mixed hO2
  have HB2 := Lib.hid (hB1.trans (hO2.2.mono hB1.size))
  clear hB1 hO2 hb1' hb1 hb0
  go_wp2_with fail
  refine (ipeel_any _ _ _ l hS2 (by omega)).mono ?_
  rintro e w3 ⟨v3, rfl, hI3⟩
  have hS3 := hS2.later hI3.2
  go_wp2_with fail
  refine (speel_any _ _ _ l hS3 (by omega)).mono ?_
  rintro e w4 ⟨v4, rfl, hI4⟩
  have hS4 := hS3.later hI4.2
  have HB4 := Lib.hid ((HB2.out.trans (hI3.2.mono HB2.out.size)).trans (hI4.2.mono (Nat.le_trans HB2.out.size hI3.2.size)))
  go_wp2_with fail
  refine (lb_same _ _ _ (peelL n l) ((sees_of_own hI3).later hI4.2) (sees_of_own hI4) (peel_short n l)).mono ?_
  rintro e w5 ⟨rfl, q, rfl⟩
  have hS5 : SeesM (w4.drewN q) v l := hS4
  have HB5 := Lib.hid (below_drewN' HB4.out q)
  clear hI3 hI4 HB4 hS2 hS3 hS4 HB2
  generalize w4.drewN q = w5 at hS5 HB5 ⊢
  go_wp2_with fail
  refine (lbTrue_any _ t (by omega) _ l hS5 (by omega)).mono ?_
  rintro e w6 ⟨v6, rfl, hO6⟩
  have hS6 := sees_mixed hO6
  have HB6 := Lib.hid (HB5.out.trans (hO6.2.mono HB5.out.size))
  have hT := trueL_TL t l
  have hLL : (trueL t l).length ≤ 30 := by have := trueL_len t l; omega
  clear hS5 HB5
  generalize trueL t l = L at hS6 hT hLL hO6
  have hLL2 : L.length ≤ 30 := by omega
  obtain ⟨A3, c3, rfl, _⟩ := hO6.form
  have HPart := Lib.hid hO6.part
  have hAlt : ∀ g o, A3 = some ⟨g, o, none⟩ → L ≠ [] → g < w6.heap.size := fun g o e _ => by subst e; exact (hO6.1.lt g rfl).2
  clear hO6
  have HS := Lib.hid hS6
  clear hS6
  go_wp2
  go_loopw [9, 10] (fun o i wr => ∃ k : Nat, k ≤ L.length ∧ i = .int .i64 ((k : Int) - 1) ∧ OwnZ 40 2 w6 wr o (L.drop k).reverse.length ((L.drop k).reverse.flatMap mc)) (fun _ i _ => (intOf i + 1).toNat)
  case atStart => exact ⟨L.length, by omega, rfl, by rw [List.drop_length]; exact OwnZ.empty w6⟩
  case round =>
    obtain ⟨k, hk, rfl, hO⟩ := hrel
    by_cases hk0 : 0 < k
    · obtain ⟨j, rfl⟩ : ∃ j, k = j + 1 := ⟨k - 1, by omega⟩
      have hx : L[j]? = some L[j] := List.getElem?_eq_getElem (by omega)
      have hdr : L.drop j = L[j] :: L.drop (j + 1) := List.drop_eq_getElem_cons (by omega)
      generalize L[j] = m at hx hdr
      have HR := Lib.hid (show (L.drop j).reverse = (L.drop (j + 1)).reverse ++ [m] by rw [hdr]; simp)
      obtain ⟨g, c', hA, hlt, _, r0, r1⟩ := (HS.out.later hO.2).at hx
      injection hA with hA _ hcc
      subst hA
      subst hcc
      have HFl := Lib.hid (show (L.drop (j + 1)).reverse.flatMap mc ++ mc m = ((L.drop (j + 1)).reverse ++ [m]).flatMap mc by simp)
      have HLn := Lib.hid (show ((L.drop (j + 1)).reverse ++ [m]).length = (L.drop (j + 1)).reverse.length + 1 by simp)
      have hln : (L.drop (j + 1)).reverse.length ≤ 30 := by simp; omega
      have hj0 : (0 : Int) ≤ (j : Int) := by omega
      have hj1 : (j : Int) < (L.length : Int) := by omega
      have hjj : ((j + 1 : Nat) : Int) - 1 = (j : Int) := by omega
      obtain ⟨num, d⟩ := m
      clear hx hdr
      rw [hjj]
      generalize (L.drop (j + 1)).reverse.length = nn at hO hln HLn
      generalize (L.drop (j + 1)).reverse.flatMap mc = xs at hO HFl
      go_wp2_with (at_builtin; refine wpList_append_own _ rfl _ _ 33 rfl w6.heap.size 40 i0 _ 2 24 Try.underlying33 hi hz0 hz1 hz2 rfl (by decide) _ _ _ rfl (hO.1.alloc _) ⟨wr.heap.size, 0, none⟩ 1 1 (mc (num, d)) rfl rfl ?c1 ?c2 ?c3 ?c4 ?c5 ?_)
      case c1 => first | exact World.news_of_block (heap_alloc_new wr _) | exact fun j u hu => hu
      case c2 => exact mc_one _
      case c3 => unfold maxLen; omega
      case c4 => omega
      case c5 => have := hO.2.size; simp; omega
      intro v7 w7 hown hgrow _
      have R := Lib.hid (hO.more hown hgrow)
      clear hown hgrow hO r0 r1
      go_wp2
      go_roundw
      case rel => exact ⟨j, by omega, by go_num, by rw [HR.out, HLn.out, ← HFl.out]; exact R.out⟩
      case measure => (first | (simp [intOf]; done) | (simp [intOf]; omega))
    · obtain rfl : k = 0 := by omega
      rw [List.drop_zero] at hO
      have hSb := sees_mixed hO
      have hSl := HS.out.later hO.2
      have HB := Lib.hid (HB6.out.trans (hO.2.mono HB6.out.size))
      have HB66 := HB6
      clear HB6
      have HCut := Lib.hid (cut_len t)
      have HEq := Lib.hid (peel_same ht0 ht1 hT (l' := L.reverse) (fun m => by simp))
      have HEq2 := Lib.hid (peel_same ht0 ht1 hT (l' := L.reverse ++ L) (fun m => by simp))
      have HRl := Lib.hid (show L.reverse.length = L.length by simp)
      go_wp2_with fail
      refine (icut_any t (by omega) _).mono ?_
      rintro e w7 ⟨v7, rfl, hI7⟩
      obtain ⟨A1, c1, rfl, _⟩ := strs_form hI7
      rw [HCut.out]
      have hSb7 := hSb.later hI7.2
      have hSl7 := hSl.later hI7.2
      have hO7 := hO.later hI7.2
      have HB7 := Lib.hid (HB.out.trans (hI7.2.mono HB.out.size))
      clear hSb hSl hO HB hI7
      go_wp2_with fail
      refine (ipeel_any _ _ _ _ hSl7 (by omega)).mono ?_
      rintro e w8 ⟨v8, rfl, hI8⟩
      have hSb8 := hSb7.later hI8.2
      have hSl8 := hSl7.later hI8.2
      have hO8 := hO7.later hI8.2
      have HB8 := Lib.hid (HB7.out.trans (hI8.2.mono HB7.out.size))
      have hP := sees_of_own hI8
      have hNe : ∀ g n c, v8 = .slice (some ⟨g, 0, none⟩) n c → some g ≠ u9.ownBlock := fun g n c e he => by
        subst e
        have h1 := (hI8.1.lt g rfl).1
        have h2 := (hO7.1.lt g he.symm).2
        omega
      clear hSb7 hSl7 hO7 HB7 hI8
      go_wp2_with fail
      refine (ipeel_any _ _ _ _ hSb8 (by rw [HRl.out]; omega)).mono ?_
      rintro e w9 ⟨v9, rfl, hI9⟩
      rw [HEq.out] at hI9
      have hSl9 := hSl8.later hI9.2
      have hO9 := hO8.later hI9.2
      have HB9 := Lib.hid (HB8.out.trans (hI9.2.mono HB8.out.size))
      have hP9 := hP.later hI9.2
      clear hSb8 hSl8 hO8 HB8 hP
      go_wp2_with fail
      refine (lb_same _ _ _ (peelL (cutN t) L) (sees_of_own hI9) hP9 (peel_short _ _)).mono ?_
      rintro e w10 ⟨rfl, q, rfl⟩
      have hSlA : SeesM (w9.drewN q) _ L := hSl9
      have hOA : OwnZ 40 2 w6 (w9.drewN q) _ _ _ := ⟨hO9.1, below_drewN' hO9.2 q⟩
      have HBA := Lib.hid (below_drewN' HB9.out q)
      have hPA : sl.SeesS (w9.drewN q) v8 (peelL (cutN t) L) := hP9
      clear hSl9 hO9 HB9 hP9 hI9
      generalize w9.drewN q = wA at *
      have hPt := Part.later HPart.out hOA.2 hAlt
      have HLe := Lib.hid (show (L.reverse ++ L).length = L.length + L.length by simp)
      have HFl := Lib.hid (show L.reverse.flatMap mc ++ L.flatMap mc = (L.reverse ++ L).flatMap mc by simp)
      have hrl : L.reverse.length ≤ 30 := by rw [HRl.out]; exact hLL2
      have hbz := hOA.2.size
      go_wp2_with (at_builtin; refine wpList_append_mixed rfl _ _ 33 rfl w6.heap.size 40 i0 _ 24 Try.underlying33 hi hz0 hz1 hz2 rfl _ _ _ rfl hOA.1 A3 _ c3 L rfl rfl hPt (by unfold maxLen; omega) (by omega) hbz ?_)
      intro vB wB hown hgrow
      have hPB := sees_grown hPA hgrow hNe
      rw [← HLe.out, HFl.out] at hown
      have hOB := hOA.grow hown hgrow
      have hSB := sees_mixed hOB
      have HBB := Lib.hid (HB66.out.trans (hOB.2.mono HB66.out.size))
      clear hPA hOA hPt hSlA hown hgrow hOB HBA hbz
      generalize L.reverse ++ L = LL at hSB HEq2 HLe
      have hL2 : LL.length ≤ 60 := by rw [HLe.out]; omega
      go_wp2_with fail
      refine (ipeel_any _ _ _ _ hSB (by omega)).mono ?_
      rintro e wC ⟨vC, rfl, hIC⟩
      rw [HEq2.out] at hIC
      have HBC := Lib.hid (HBB.out.trans (hIC.2.mono HBB.out.size))
      have hPC := hPB.later hIC.2
      clear hPB hSB HBB
      go_wp2_with fail
      refine (lb_same _ _ _ (peelL (cutN t) L) (sees_of_own hIC) hPC (peel_short _ _)).mono ?_
      rintro e wD ⟨rfl, q, rfl⟩
      have HBD := Lib.hid (below_drewN' HBC.out q)
      clear hPC hIC HBC
      go_wp2
      go_ret
      exact ⟨rfl, HBD.out⟩

set_option maxRecDepth 100000 in
theorem lifted (os : Os) (started : os.Started) (H : Type) (enc : TypeId × Value → H) :
    ReturnsInHanded {} Try.checked os 6 .any (Rows.fnMixTurnSpec.pre6 enc Try.prog Try.f6 Rows.fnMixTurnRow.domain false) (Rows.fnMixTurnSpec.post enc Try.prog Try.f6 false true false false) := by
  refine returnsInHanded_of_change (C := Try.checked) own started (by kernel_rfl) Try.func6
    (ChangeSpec.witness6 (enc := enc) (C := Try.checked) false ⟨#[], #[.slice none 0 0, .slice none 0 0], []⟩ 8 (by kernel_rfl) (by kernel_rfl) (by kernel_rfl) (by kernel_rfl)) ?_
  intro W base args ds gs before hval0 hW hcnd _
  have hval : ∀ (j : Nat) t v, Try.f6.params[j]? = some t → args[j]? = some v → Value.okWide Try.prog W .any base t v := hval0
  have hW' := hW
  obtain ⟨p, q, hA0, hV, rfl, hfz, hnd⟩ := hW
  have hA : DataW.TrodAll enc Try.prog W 0 (fun _ => true) true Try.f6.params.toList args.toList ds p := hA0
  rw [Try.params6] at hA hval
  obtain ⟨v0, vs0, d0, ds0, p0, q0, hargs, rfl, rfl, h0, r0⟩ := trodAll_cons hA
  obtain ⟨v1, vs1, d1, ds1, p1, q1, rfl, rfl, rfl, h1, r1⟩ := trodAll_cons r0
  obtain ⟨rfl, rfl, rfl⟩ := trodAll_nil r1
  obtain rfl : args = #[v0, v1] := by cases args; simp_all
  obtain ⟨rfl, rfl⟩ := trodVars_none hV
  obtain ⟨a0, len0, cap0, rfl⟩ := okWide_slice Try.underlying22 (hval 0 22 v0 rfl rfl)
  have k0 := h0
  have lt0 : ∀ x ∈ p0, x.block < W.heap.size := by obtain ⟨m, hm⟩ := k0; exact DataW.trod_lt m _ _ _ hm
  obtain ⟨z0, w0⟩ : ∃ zs, IsRow .u8 W a0 len0 cap0 zs := by
    obtain ⟨fuel, hf⟩ := h0
    rcases open_ints Try.underlying22 Try.underlying5 (by kernel_rfl) hf with ⟨hcs, _⟩ | ⟨x, l, c, zs, hcs, _, hl, hm, hz, _, hcell, hwz⟩
    · simp [Value.cells] at hcs
      obtain ⟨rfl, rfl, rfl⟩ := hcs
      exact ⟨[], .inl ⟨rfl, rfl, rfl, rfl⟩⟩
    · simp [Value.cells] at hcs
      obtain ⟨rfl, rfl, rfl⟩ := hcs
      exact ⟨zs, .inr ⟨_, rfl, hl, hm, by simpa using hz, hcell, hwz⟩⟩
  obtain ⟨a1, len1, cap1, rfl⟩ := okWide_slice Try.underlying22 (hval 1 22 v1 rfl rfl)
  have k1 := h1
  have lt1 : ∀ x ∈ p1, x.block < W.heap.size := by obtain ⟨m, hm⟩ := k1; exact DataW.trod_lt m _ _ _ hm
  obtain ⟨z1, w1⟩ : ∃ zs, IsRow .u8 W a1 len1 cap1 zs := by
    obtain ⟨fuel, hf⟩ := h1
    rcases open_ints Try.underlying22 Try.underlying5 (by kernel_rfl) hf with ⟨hcs, _⟩ | ⟨x, l, c, zs, hcs, _, hl, hm, hz, _, hcell, hwz⟩
    · simp [Value.cells] at hcs
      obtain ⟨rfl, rfl, rfl⟩ := hcs
      exact ⟨[], .inl ⟨rfl, rfl, rfl, rfl⟩⟩
    · simp [Value.cells] at hcs
      obtain ⟨rfl, rfl, rfl⟩ := hcs
      exact ⟨zs, .inr ⟨_, rfl, hl, hm, by simpa using hz, hcell, hwz⟩⟩
  clear hA0 hval0
  refine (walk a0 len0 cap0 z0 a1 len1 cap1 z1 W w0 w1).mono fun e W' ⟨he, bel⟩ => ?_
  subst he
  exact ⟨_, rfl, _, _, _, [], _, [], hW', trodAll_mk1 (shut_bool Try.underlying4 _), (trodAll_cons_mk (Below.trod laidOut (by kernel_rfl) (of_decide_eq_true (by kernel_rfl)) k0 bel lt0) (trodAll_cons_mk (Below.trod laidOut (by kernel_rfl) (of_decide_eq_true (by kernel_rfl)) k1 bel lt1) trodAll_mk0)), rfl, bel.frame _, fun h => by cases h⟩

theorem over : Rows.fnMixTurnRow.holds Try.pinned (OpenSpec.ofChange Rows.fnMixTurnSpec) :=
  OpenClaim.holds_of_wide 6 Try.f6 rfl rfl rfl rfl rfl rfl rfl ⟨rfl, rfl, rfl, rfl, rfl⟩ rfl rfl rfl rfl rfl (by kernel_rfl) Try.func6 (by kernel_rfl)
    (of_decide_eq_true (by kernel_rfl)) (by unfold Func.isWrapper; first | (rw [if_pos (by decide +kernel)]; kernel_rfl) | (rw [if_neg (by decide +kernel)]; exact ⟨rfl, rfl⟩))
    (fun os started H enc _ => lifted os started H enc)

/-- ████ THE STATEMENT ████ -/
theorem proved : Rows.FnMixTurnSaid := over
#print axioms proved
end Go.Proofs.Ytokajeomojlinaa.fnMixTurn
