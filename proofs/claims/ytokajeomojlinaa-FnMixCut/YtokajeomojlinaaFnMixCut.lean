/-
  MixCut answers as the specification at every drawn text; its blocks have four bytes, and one behind the other they are the text and zero bytes: the law returns true for every code; no condition.
-/
import Derived.Test.YtokajeomojlinaaRows
import Derived.WalkKit
import Derived.ProofKit
import Derived.OpenShut
import Derived.ShutString
import Derived.ChangeOld
import Derived.Below
import Derived.Test.YtokajeomojlinaaCutSpec2
import Derived.Test.YtokajeomojlinaaCutImpl4
import Derived.Test.YtokajeomojlinaaStrLists
import Derived.Test.YtokajeomojlinaaDraw3
import Derived.Test.YtokajeomojlinaaCatPlain
import Derived.Test.YtokajeomojlinaaMakeSpec
namespace Go.Proofs.Ytokajeomojlinaa.fnMixCut
open Go.ChangeShapes Go.WideShapes Go.ChangeAt Go.RowKit
open Go.ChangeMaps (open_string shut_string)
open Go.Proofs.Ytokajeomojlinaa.wd Go.Proofs.Ytokajeomojlinaa.cp Go.Proofs.Ytokajeomojlinaa.ow Go.Proofs.Ytokajeomojlinaa.cs Go.Proofs.Ytokajeomojlinaa.ci Go.Proofs.Ytokajeomojlinaa.sl Go.Proofs.Ytokajeomojlinaa.dr
set_option linter.unusedVariables false

theorem own : ownKnob Try.prog.godebug = none := by kernel_rfl
theorem laidOut : laidOutB Try.prog = true := by kernel_rfl

/-- WHAT THE WALK IS TOLD OF A SLICE OF INTEGERS THAT CAME IN: it is nil; or it leads to a row of 'cap' cells, the numbers 'zs' (the first 'len' are its elements, the rest its spare room), each fitting its kind. -/
def IsRow (k : IntKind) (w : World) (a : Option Addr) (len cap : Nat) (zs : List Int) : Prop :=
  (a = none ∧ len = 0 ∧ cap = 0 ∧ zs = []) ∨
  ∃ x, a = some x ∧ len ≤ cap ∧ cap ≤ maxLen ∧ zs.length = cap ∧ (∀ i, i < zs.length → w.cell? (x.add i) = some (.int k (zs.getD i 0))) ∧ ∀ n ∈ zs, (Lit.int k n).wf = true

theorem walk (a0 : Option Addr) (len0 cap0 : Nat) (z0 : List Int) (w : World) (w0 : IsRow .u8 w a0 len0 cap0 z0) :
    Calls Try.prog 3 #[.slice a0 len0 cap0] w fun e w' => e = .returned (.bool true) ∧ Below w.heap.size w w' := by
  obtain ⟨hb0, hl0, hm0⟩ := bytes_of_row w0
  clear w0
  have hm0' : cap0 ≤ 9223372036854775807 := hm0
  by_cases hg0 : 1048576 < len0
  · go_enter Try.func3, Try.ntmps3
    go_wp2
    go_ret
    exact ⟨rfl, Below.refl _ _⟩
  go_enter Try.func3, Try.ntmps3
  go_wp2_with fail
  refine (drawMixCut _ _ _ _ hb0 hl0 hm0).mono ?_
  rintro e w1 ⟨t, rfl, _, ht, hB1⟩
  go_wp2_with fail
  refine (scut_any t (by omega) _).mono ?_
  rintro e w2 ⟨v2, rfl, hI2⟩
  go_wp2_with fail
  refine (icut_any t (by omega) _).mono ?_
  rintro e w3 ⟨v1, rfl, hI1⟩
  have HB := Lib.hid ((hB1.trans (hI2.2.mono hB1.size)).trans (hI1.2.mono (Nat.le_trans hB1.size hI2.2.size)))
  have hn6 : (cut t).length ≤ 6 := by rw [cut_len]; exact cutN_le t
  go_wp2_with fail
  refine (lb_same _ _ _ (cut t) (sees_of_own hI1) ((sees_of_own hI2).later hI1.2) (by omega)).mono ?_
  rintro e w4 ⟨rfl, q, rfl⟩
  obtain ⟨A, c, rfl, hc⟩ := strs_form hI1
  have HC := Lib.hid hc
  have HBB := Lib.hid (below_drewN' HB.out q)
  have HCut := Lib.hid (cut_len t)
  clear hc hI1 hI2 hB1 HB
  by_cases c0 : t.size < 1
  · have HE := Lib.hid (HCut.out.trans (cutN_out (.inl c0)))
    rw [HE.out]
    go_wp2
    go_ret
    exact ⟨rfl, HBB.out⟩
  by_cases c1 : 24 < t.size
  · have HE := Lib.hid (HCut.out.trans (cutN_out (.inr c1)))
    rw [HE.out]
    go_wp2
    go_ret
    exact ⟨rfl, HBB.out⟩
  have hN := HCut.out.trans (cutN_in (t := t) (by omega) (by omega))
  have HAt := Lib.hid (fun i h => cut_at (t := t) (i := i) h)
  rw [← HCut.out] at HAt
  generalize (cut t).length = n at hN hn6 HC HAt ⊢
  have hn1 : t.size ≤ 4 * n := by omega
  have hn2 : 4 * n < t.size + 4 := by omega
  clear hN HCut
  obtain ⟨g, rfl, _, hg, hcell⟩ := HC.out (by omega)
  have HCell : Hid (∀ i x, (cut t)[i]? = some x → (w3.drewN q).cell? ⟨g, i, none⟩ = some (.string x)) := hcell
  clear hcell HC
  generalize w3.drewN q = w5 at HBB HCell ⊢
  go_wp2
  go_loop [6, 7] (fun a i => ∃ k : Nat, k ≤ n ∧ i = .int .i64 k ∧ a = .string (cat t k)) (fun _ i => (n + 1 : Nat) - (intOf i).toNat)
  case atStart => exact ⟨0, by omega, rfl, rfl⟩
  case round =>
    obtain ⟨k, hk, rfl, rfl⟩ := hrel
    by_cases hkn : k < n
    · have e1 := HCell.out k _ (HAt.out k hkn)
      have hq4 := Q.str_size (qb t k)
      have HO := Lib.hid (cat_on t k)
      have hcs := cat_size t k
      generalize (qb t k).str = s at e1 hq4 HO
      generalize cat t k = al at hcs HO
      have hz1 : (al.size : Int) ≤ 8388608 := by omega
      have hz2 : (s.size : Int) ≤ 8388608 := by omega
      have HQ := Lib.hid hcs
      clear hcs
      go_wp2
      go_round
      case rel => exact ⟨k + 1, by omega, by go_num, by rw [HO.out]⟩
      case measure => simp [intOf]; omega
    · obtain rfl : k = n := by omega
      have hcs := cat_size t k
      have HG := Lib.hid (fun i (h : i < (cat t k).size) => cat_get t k h)
      have HX := Lib.hid (cat_text t (n := k) hn1)
      generalize cat t k = al at hcs HG HX
      have HZ := Lib.hid hcs
      have hz1 : al.size ≤ 4 * k := by omega
      have hz2 : 4 * k ≤ al.size := by omega
      clear hcs
      go_wp2
      go_loop [8] (fun i => ∃ j : Nat, t.size ≤ j ∧ j ≤ al.size ∧ i = .int .i64 j) (fun i => (al.size + 1 : Nat) - (intOf i).toNat)
      case atStart => exact ⟨t.size, by omega, by omega, rfl⟩
      case round =>
        obtain ⟨j, hj0, hj1, rfl⟩ := hrel
        by_cases hjn : j < al.size
        · have hb : al[j] = 0 := by rw [HG.out j hjn]; exact by_out hj0
          have hd : (((al[j]).toNat : Int) != 0) = false := by rw [hb]; rfl
          clear hb
          go_wp2
          go_round
          case rel => exact ⟨j + 1, by omega, by omega, by go_num⟩
          case measure => simp [intOf]; omega
        · have hx := HX.out
          have hle : t.size ≤ al.size := by omega
          have hfin : decide ((al.size : Int) < (t.size : Int) + 4) = true := decide_eq_true (by omega)
          go_wp2
          go_ret
          exact ⟨rfl, HBB.out⟩

set_option maxRecDepth 100000 in
theorem lifted (os : Os) (started : os.Started) (H : Type) (enc : TypeId × Value → H) :
    ReturnsInHanded {} Try.checked os 3 .any (Rows.fnMixCutSpec.pre6 enc Try.prog Try.f3 Rows.fnMixCutRow.domain false) (Rows.fnMixCutSpec.post enc Try.prog Try.f3 false true false false) := by
  refine returnsInHanded_of_change (C := Try.checked) own started (by kernel_rfl) Try.func3
    (ChangeSpec.witness6 (enc := enc) (C := Try.checked) false ⟨#[], #[.slice none 0 0], []⟩ 8 (by kernel_rfl) (by kernel_rfl) (by kernel_rfl) (by kernel_rfl)) ?_
  intro W base args ds gs before hval0 hW hcnd _
  have hval : ∀ (j : Nat) t v, Try.f3.params[j]? = some t → args[j]? = some v → Value.okWide Try.prog W .any base t v := hval0
  have hW' := hW
  obtain ⟨p, q, hA0, hV, rfl, hfz, hnd⟩ := hW
  have hA : DataW.TrodAll enc Try.prog W 0 (fun _ => true) true Try.f3.params.toList args.toList ds p := hA0
  rw [Try.params3] at hA hval
  obtain ⟨v0, vs0, d0, ds0, p0, q0, hargs, rfl, rfl, h0, r0⟩ := trodAll_cons hA
  obtain ⟨rfl, rfl, rfl⟩ := trodAll_nil r0
  obtain rfl : args = #[v0] := by cases args; simp_all
  obtain ⟨rfl, rfl⟩ := trodVars_none hV
  obtain ⟨a0, len0, cap0, rfl⟩ := okWide_slice Try.underlying22 (hval 0 22 v0 rfl rfl)
  have k0 := h0
  have lt0 : ∀ x ∈ p0, x.block < W.heap.size := by obtain ⟨m, hm⟩ := k0; exact DataW.trod_lt m _ _ _ hm
  obtain ⟨z0, w0⟩ : ∃ zs, IsRow .u8 W a0 len0 cap0 zs := by
    obtain ⟨fuel, hf⟩ := h0
    rcases open_ints Try.underlying22 Try.underlying5 (by kernel_rfl) hf with ⟨hcs, _⟩ | ⟨x, l, c, zs, hcs, _, hl, hm, hz, _, hcell, hwz⟩
    · simp [Value.cells] at hcs
      obtain ⟨rfl, rfl, rfl⟩ := hcs
      exact ⟨[], .inl ⟨rfl, rfl, rfl, rfl⟩⟩
    · simp [Value.cells] at hcs
      obtain ⟨rfl, rfl, rfl⟩ := hcs
      exact ⟨zs, .inr ⟨_, rfl, hl, hm, by simpa using hz, hcell, hwz⟩⟩
  clear hA0 hval0
  refine (walk a0 len0 cap0 z0 W w0).mono fun e W' ⟨he, bel⟩ => ?_
  subst he
  exact ⟨_, rfl, _, _, _, [], _, [], hW', trodAll_mk1 (shut_bool Try.underlying4 _), (trodAll_cons_mk (Below.trod laidOut (by kernel_rfl) (of_decide_eq_true (by kernel_rfl)) k0 bel lt0) trodAll_mk0), rfl, bel.frame _, fun h => by cases h⟩

theorem over : Rows.fnMixCutRow.holds Try.pinned (OpenSpec.ofChange Rows.fnMixCutSpec) :=
  OpenClaim.holds_of_wide 3 Try.f3 rfl rfl rfl rfl rfl rfl rfl ⟨rfl, rfl, rfl, rfl, rfl⟩ rfl rfl rfl rfl rfl (by kernel_rfl) Try.func3 (by kernel_rfl)
    (of_decide_eq_true (by kernel_rfl)) (by unfold Func.isWrapper; first | (rw [if_pos (by decide +kernel)]; kernel_rfl) | (rw [if_neg (by decide +kernel)]; exact ⟨rfl, rfl⟩))
    (fun os started H enc _ => lifted os started H enc)

/-- ████ THE STATEMENT ████ -/
theorem proved : Rows.FnMixCutSaid := over
#print axioms proved
end Go.Proofs.Ytokajeomojlinaa.fnMixCut
