/-
  Peeling answers as the specification at every drawn list, and a block that the first half of a text's own encoded blocks gives is the block that all give: the law returns true for every two codes; no condition.
-/
import Derived.Test.YtokajeomojlinaaRows
import Derived.WalkKit
import Derived.ProofKit
import Derived.OpenShut
import Derived.ShutString
import Derived.ChangeOld
import Derived.Below
import Derived.Test.YtokajeomojlinaaPeelTrue2
import Derived.Test.YtokajeomojlinaaCutImpl4
namespace Go.Proofs.Ytokajeomojlinaa.fnMixMore
open Go.ChangeShapes Go.WideShapes Go.ChangeAt Go.RowKit
open Go.ChangeMaps (open_string shut_string)
open Go.Proofs.Ytokajeomojlinaa.wd Go.Proofs.Ytokajeomojlinaa.mp Go.Proofs.Ytokajeomojlinaa.cp Go.Proofs.Ytokajeomojlinaa.ow Go.Proofs.Ytokajeomojlinaa.cs Go.Proofs.Ytokajeomojlinaa.ci Go.Proofs.Ytokajeomojlinaa.sl Go.Proofs.Ytokajeomojlinaa.dr Go.Proofs.Ytokajeomojlinaa.pp Go.Proofs.Ytokajeomojlinaa.ls
set_option linter.unusedVariables false

theorem own : ownKnob Try.prog.godebug = none := by kernel_rfl
theorem laidOut : laidOutB Try.prog = true := by kernel_rfl

/-- WHAT THE WALK IS TOLD OF A SLICE OF INTEGERS THAT CAME IN: it is nil; or it leads to a row of 'cap' cells, the numbers 'zs' (the first 'len' are its elements, the rest its spare room), each fitting its kind. -/
def IsRow (k : IntKind) (w : World) (a : Option Addr) (len cap : Nat) (zs : List Int) : Prop :=
  (a = none ∧ len = 0 ∧ cap = 0 ∧ zs = []) ∨
  ∃ x, a = some x ∧ len ≤ cap ∧ cap ≤ maxLen ∧ zs.length = cap ∧ (∀ i, i < zs.length → w.cell? (x.add i) = some (.int k (zs.getD i 0))) ∧ ∀ n ∈ zs, (Lit.int k n).wf = true

set_option maxRecDepth 100000 in
set_option maxHeartbeats 4000000 in
theorem walk (a0 : Option Addr) (len0 cap0 : Nat) (z0 : List Int) (a1 : Option Addr) (len1 cap1 : Nat) (z1 : List Int) (w : World) (w0 : IsRow .u8 w a0 len0 cap0 z0) (w1 : IsRow .u8 w a1 len1 cap1 z1) :
    Calls Try.prog 7 #[.slice a0 len0 cap0, .slice a1 len1 cap1] w fun e w' => e = .returned (.bool true) ∧ Below w.heap.size w w' := by
  obtain ⟨hb0, hl0, hm0⟩ := bytes_of_row w0
  obtain ⟨hb1, hl1, hm1⟩ := bytes_of_row w1
  clear w0 w1
  have hm0' : cap0 ≤ 9223372036854775807 := hm0
  have hm1' : cap1 ≤ 9223372036854775807 := hm1
  by_cases hg0 : 1048576 < len0
  · go_enter Try.func7, Try.ntmps7
    go_wp2
    go_ret
    exact ⟨rfl, Below.refl _ _⟩
  by_cases hg1 : 1048576 < len1
  · go_enter Try.func7, Try.ntmps7
    go_wp2
    go_ret
    exact ⟨rfl, Below.refl _ _⟩
  go_enter Try.func7, Try.ntmps7
  go_wp2_with fail
  refine (lbText_any _ _ _ _ hb0 hl0 hm0).mono ?_
  rintro e w1 ⟨t, rfl, ht0, ht1, hB1⟩
  have hb1' := Bytes_later hb1 hB1
  go_wp2_with fail
  refine (drawMixPeel _ _ _ _ hb1' hl1 hm1).mono ?_
  rintro e w2 ⟨n, v, l, rfl, n0, n1, hl, hO2⟩
  have hS2 := sees_mixed hO2
  have HB2 := Lib.hid (hB1.trans (hO2.2.mono hB1.size))
  clear hB1 hO2 hb1' hb1 hb0
  go_wp2_with fail
  refine (ipeel_any _ _ _ l hS2 (by omega)).mono ?_
  rintro e w3 ⟨v3, rfl, hI3⟩
  have hS3 := hS2.later hI3.2
  go_wp2_with fail
  refine (speel_any _ _ _ l hS3 (by omega)).mono ?_
  rintro e w4 ⟨v4, rfl, hI4⟩
  have hS4 := hS3.later hI4.2
  have HB4 := Lib.hid ((HB2.out.trans (hI3.2.mono HB2.out.size)).trans (hI4.2.mono (Nat.le_trans HB2.out.size hI3.2.size)))
  go_wp2_with fail
  refine (lb_same _ _ _ (peelL n l) ((sees_of_own hI3).later hI4.2) (sees_of_own hI4) (peel_short n l)).mono ?_
  rintro e w5 ⟨rfl, q, rfl⟩
  have hS5 : SeesM (w4.drewN q) v l := hS4
  have HB5 := Lib.hid (below_drewN' HB4.out q)
  clear hI3 hI4 HB4 hS2 hS3 hS4 HB2
  generalize w4.drewN q = w5 at hS5 HB5 ⊢
  go_wp2_with fail
  refine (lbTrue_any _ t (by omega) _ l hS5 (by omega)).mono ?_
  rintro e w6 ⟨v6, rfl, hO6⟩
  have hS6 := sees_mixed hO6
  have HB6 := Lib.hid (HB5.out.trans (hO6.2.mono HB5.out.size))
  have hT := trueL_TL t l
  have hLL : (trueL t l).length ≤ 1048576 := by have := trueL_len t l; omega
  clear hS5 HB5
  generalize trueL t l = L at hS6 hT hLL hO6
  obtain ⟨A3, c3, rfl, _⟩ := hO6.form
  have hcp := own_cap hO6
  clear hO6
  go_wp2_with fail
  refine (icut_any t (by omega) _).mono ?_
  rintro e w7 ⟨v7, rfl, hI7⟩
  have hS7 := hS6.later hI7.2
  obtain ⟨A1, c1, rfl, _⟩ := strs_form hI7
  have HB7 := Lib.hid (HB6.out.trans (hI7.2.mono HB6.out.size))
  have HCut := Lib.hid (cut_len t)
  rw [HCut.out]
  clear hI7 HB6 hS6
  go_wp2_with fail
  refine (ipeel_any _ _ _ _ hS7 hLL).mono ?_
  rintro e w8 ⟨v8, rfl, hI8⟩
  have hS8 := hS7.later hI8.2
  have HB8 := Lib.hid (HB7.out.trans (hI8.2.mono HB7.out.size))
  obtain ⟨A2, c2, rfl, hc2⟩ := strs_form hI8
  have HLen := Lib.hid (fun L => peel_len ht0 ht1 L)
  rw [HLen.out] at hc2 ⊢
  clear hS7 HB7
  have hS9 := sees_take hS8 (k := L.length / 2) (by omega)
  have hL2 : (L.take (L.length / 2)).length ≤ 1048576 := by rw [List.length_take]; omega
  have h3 : (L.length : Int) ≤ (c3 : Int) := by omega
  have h4 : (c3 : Int) ≤ 9223372036854775807 := by omega
  have HTk := Lib.hid (fun m (h : m ∈ L.take (L.length / 2)) => List.mem_of_mem_take h)
  go_wp2_with fail
  generalize L.take (L.length / 2) = L' at hS9 hL2 HTk
  refine (ipeel_any _ _ _ _ hS9 hL2).mono ?_
  rintro e w9 ⟨v9, rfl, hI9⟩
  have HB9 := Lib.hid (HB8.out.trans (hI9.2.mono HB8.out.size))
  obtain ⟨A4, c4, rfl, hc4⟩ := strs_form hI9
  rw [HLen.out] at hc4 ⊢
  have HAt := Lib.hid (fun i h => peel_at ht0 ht1 hT (i := i) h)
  have HAt' := Lib.hid (fun i h => peel_at ht0 ht1 (l := L') (fun m hm => hT m (HTk.out m hm)) (i := i) h)
  have HMo := Lib.hid (fun i h => peel_more (t := t) (l := L') (l' := L) HTk.out (i := i) h)
  have hn6 := cutN_le t
  have hn1 : 1 ≤ cutN t := by have := cutN_in ht0 ht1; omega
  clear HLen hS8 hS9 HCut HB8
  generalize cutN t = n at *
  obtain ⟨g1, rfl, _, hg1, hcell1⟩ := hc2 (by omega)
  obtain ⟨g2, rfl, _, hg2, hcell2⟩ := hc4 (by omega)
  have HC1 : Hid (∀ i x, (peelL n L)[i]? = some x → w9.cell? ⟨g1, i, none⟩ = some (.string x)) := fun i x hx => (hI9.2.cell (p := ⟨g1, i, none⟩) hg1).trans (hcell1 i x hx)
  have HC2 : Hid (∀ i x, (peelL n L')[i]? = some x → w9.cell? ⟨g2, i, none⟩ = some (.string x)) := hcell2
  clear hcell1 hcell2 hc2 hc4 hI8 hI9
  go_wp2
  go_loopw [12] (fun i wr => ∃ k : Nat, k ≤ n ∧ i = .int .i64 k ∧ ∃ q, wr = w9.drewN q) (fun i _ => (n + 1 : Nat) - (intOf i).toNat)
  case atStart => exact ⟨0, by omega, rfl, 0, rfl⟩
  case round =>
    obtain ⟨k, hk, rfl, q, rfl⟩ := hrel
    by_cases hkn : k < n
    · have hA := HAt.out k hkn
      have hA' := HAt'.out k hkn
      have hMo := HMo.out k
      have hne := str_nonempty (qb t k)
      cases hK : (fin (pcs n L')).K k with
      | false =>
        rw [hK] at hA'
        have e1 := HC1.out k _ hA
        have e2 : w9.cell? ⟨g2, k, none⟩ = some (.string ⟨#[]⟩) := HC2.out k _ hA'
        clear hA hK hA' hMo
        go_wp2_with fail
        go_quiet (fail)
        go_wp2
        go_roundw
        case rel => exact ⟨k + 1, by omega, by go_num, _, rfl⟩
        case measure => simp [intOf]; omega
      | true =>
        rw [hMo hK] at hA
        rw [hK] at hA'
        have e1 : w9.cell? ⟨g1, k, none⟩ = some (.string (qb t k).str) := HC1.out k _ hA
        have e2 : w9.cell? ⟨g2, k, none⟩ = some (.string (qb t k).str) := HC2.out k _ hA'
        clear hA hK hA' hMo
        generalize (qb t k).str = X at e1 e2 hne
        go_wp2_with fail
        go_quiet (fail)
        go_wp2
        go_roundw
        case rel => exact ⟨k + 1, by omega, by go_num, _, rfl⟩
        case measure => simp [intOf]; omega
    · obtain rfl : k = n := by omega
      go_wp2
      go_ret
      exact ⟨rfl, below_drewN' HB9.out q⟩

set_option maxRecDepth 100000 in
theorem lifted (os : Os) (started : os.Started) (H : Type) (enc : TypeId × Value → H) :
    ReturnsInHanded {} Try.checked os 7 .any (Rows.fnMixMoreSpec.pre6 enc Try.prog Try.f7 Rows.fnMixMoreRow.domain false) (Rows.fnMixMoreSpec.post enc Try.prog Try.f7 false true false false) := by
  refine returnsInHanded_of_change (C := Try.checked) own started (by kernel_rfl) Try.func7
    (ChangeSpec.witness6 (enc := enc) (C := Try.checked) false ⟨#[], #[.slice none 0 0, .slice none 0 0], []⟩ 8 (by kernel_rfl) (by kernel_rfl) (by kernel_rfl) (by kernel_rfl)) ?_
  intro W base args ds gs before hval0 hW hcnd _
  have hval : ∀ (j : Nat) t v, Try.f7.params[j]? = some t → args[j]? = some v → Value.okWide Try.prog W .any base t v := hval0
  have hW' := hW
  obtain ⟨p, q, hA0, hV, rfl, hfz, hnd⟩ := hW
  have hA : DataW.TrodAll enc Try.prog W 0 (fun _ => true) true Try.f7.params.toList args.toList ds p := hA0
  rw [Try.params7] at hA hval
  obtain ⟨v0, vs0, d0, ds0, p0, q0, hargs, rfl, rfl, h0, r0⟩ := trodAll_cons hA
  obtain ⟨v1, vs1, d1, ds1, p1, q1, rfl, rfl, rfl, h1, r1⟩ := trodAll_cons r0
  obtain ⟨rfl, rfl, rfl⟩ := trodAll_nil r1
  obtain rfl : args = #[v0, v1] := by cases args; simp_all
  obtain ⟨rfl, rfl⟩ := trodVars_none hV
  obtain ⟨a0, len0, cap0, rfl⟩ := okWide_slice Try.underlying22 (hval 0 22 v0 rfl rfl)
  have k0 := h0
  have lt0 : ∀ x ∈ p0, x.block < W.heap.size := by obtain ⟨m, hm⟩ := k0; exact DataW.trod_lt m _ _ _ hm
  obtain ⟨z0, w0⟩ : ∃ zs, IsRow .u8 W a0 len0 cap0 zs := by
    obtain ⟨fuel, hf⟩ := h0
    rcases open_ints Try.underlying22 Try.underlying5 (by kernel_rfl) hf with ⟨hcs, _⟩ | ⟨x, l, c, zs, hcs, _, hl, hm, hz, _, hcell, hwz⟩
    · simp [Value.cells] at hcs
      obtain ⟨rfl, rfl, rfl⟩ := hcs
      exact ⟨[], .inl ⟨rfl, rfl, rfl, rfl⟩⟩
    · simp [Value.cells] at hcs
      obtain ⟨rfl, rfl, rfl⟩ := hcs
      exact ⟨zs, .inr ⟨_, rfl, hl, hm, by simpa using hz, hcell, hwz⟩⟩
  obtain ⟨a1, len1, cap1, rfl⟩ := okWide_slice Try.underlying22 (hval 1 22 v1 rfl rfl)
  have k1 := h1
  have lt1 : ∀ x ∈ p1, x.block < W.heap.size := by obtain ⟨m, hm⟩ := k1; exact DataW.trod_lt m _ _ _ hm
  obtain ⟨z1, w1⟩ : ∃ zs, IsRow .u8 W a1 len1 cap1 zs := by
    obtain ⟨fuel, hf⟩ := h1
    rcases open_ints Try.underlying22 Try.underlying5 (by kernel_rfl) hf with ⟨hcs, _⟩ | ⟨x, l, c, zs, hcs, _, hl, hm, hz, _, hcell, hwz⟩
    · simp [Value.cells] at hcs
      obtain ⟨rfl, rfl, rfl⟩ := hcs
      exact ⟨[], .inl ⟨rfl, rfl, rfl, rfl⟩⟩
    · simp [Value.cells] at hcs
      obtain ⟨rfl, rfl, rfl⟩ := hcs
      exact ⟨zs, .inr ⟨_, rfl, hl, hm, by simpa using hz, hcell, hwz⟩⟩
  clear hA0 hval0
  refine (walk a0 len0 cap0 z0 a1 len1 cap1 z1 W w0 w1).mono fun e W' ⟨he, bel⟩ => ?_
  subst he
  exact ⟨_, rfl, _, _, _, [], _, [], hW', trodAll_mk1 (shut_bool Try.underlying4 _), (trodAll_cons_mk (Below.trod laidOut (by kernel_rfl) (of_decide_eq_true (by kernel_rfl)) k0 bel lt0) (trodAll_cons_mk (Below.trod laidOut (by kernel_rfl) (of_decide_eq_true (by kernel_rfl)) k1 bel lt1) trodAll_mk0)), rfl, bel.frame _, fun h => by cases h⟩

theorem over : Rows.fnMixMoreRow.holds Try.pinned (OpenSpec.ofChange Rows.fnMixMoreSpec) :=
  OpenClaim.holds_of_wide 7 Try.f7 rfl rfl rfl rfl rfl rfl rfl ⟨rfl, rfl, rfl, rfl, rfl⟩ rfl rfl rfl rfl rfl (by kernel_rfl) Try.func7 (by kernel_rfl)
    (of_decide_eq_true (by kernel_rfl)) (by unfold Func.isWrapper; first | (rw [if_pos (by decide +kernel)]; kernel_rfl) | (rw [if_neg (by decide +kernel)]; exact ⟨rfl, rfl⟩))
    (fun os started H enc _ => lifted os started H enc)

/-- ████ THE STATEMENT ████ -/
theorem proved : Rows.FnMixMoreSaid := over
#print axioms proved
end Go.Proofs.Ytokajeomojlinaa.fnMixMore
