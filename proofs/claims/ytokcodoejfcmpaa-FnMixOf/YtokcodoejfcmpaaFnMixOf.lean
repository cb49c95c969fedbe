/-
  MixOf answers as the specification at every drawn pair, ascending, each block once and in range, as many as MixDegree says: the law returns true for every code; no condition.
-/
import Derived.Test.YtokcodoejfcmpaaRows
import Derived.WalkKit
import Derived.ProofKit
import Derived.OpenShut
import Derived.ShutString
import Derived.ChangeOld
import Derived.Below
import Derived.Test.YtokcodoejfcmpaaMixOfLaws
namespace Go.Proofs.Ytokcodoejfcmpaa.fnMixOf
open Go.ChangeShapes Go.WideShapes Go.ChangeAt Go.RowKit
open Go.ChangeMaps (open_string shut_string)
open Go.Proofs.Ytokcodoejfcmpaa.mp Go.Proofs.Ytokcodoejfcmpaa.mb Go.Proofs.Ytokcodoejfcmpaa.mi Go.Proofs.Ytokcodoejfcmpaa.ms Go.Proofs.Ytokcodoejfcmpaa.dr Go.Proofs.Ytokcodoejfcmpaa.wd Go.Proofs.Ytokcodoejfcmpaa.il Go.Proofs.Ytokcodoejfcmpaa.ml
set_option linter.unusedVariables false

theorem own : ownKnob Try.prog.godebug = none := by kernel_rfl
theorem laidOut : laidOutB Try.prog = true := by kernel_rfl

/-- WHAT THE WALK IS TOLD OF A SLICE OF INTEGERS THAT CAME IN: it is nil; or it leads to a row of 'cap' cells, the numbers 'zs' (the first 'len' are its elements, the rest its spare room), each fitting its kind. -/
def IsRow (k : IntKind) (w : World) (a : Option Addr) (len cap : Nat) (zs : List Int) : Prop :=
  (a = none ∧ len = 0 ∧ cap = 0 ∧ zs = []) ∨
  ∃ x, a = some x ∧ len ≤ cap ∧ cap ≤ maxLen ∧ zs.length = cap ∧ (∀ i, i < zs.length → w.cell? (x.add i) = some (.int k (zs.getD i 0))) ∧ ∀ n ∈ zs, (Lit.int k n).wf = true

theorem walk (a0 : Option Addr) (len0 cap0 : Nat) (z0 : List Int) (w : World) (w0 : IsRow .u8 w a0 len0 cap0 z0) :
    Calls Try.prog 5 #[.slice a0 len0 cap0] w fun e w' => e = .returned (.bool true) ∧ Below w.heap.size w w' := by
  obtain ⟨hb0, hl0, hm0⟩ := bytes_of_row w0
  clear w0
  have hm0' : cap0 ≤ 9223372036854775807 := hm0
  by_cases hg0 : 1048576 < len0
  · go_enter Try.func5, Try.ntmps5
    go_wp2
    go_ret
    exact ⟨rfl, Below.refl _ _⟩
  go_enter Try.func5, Try.ntmps5
  go_wp2_with fail
  refine (drawMixOf _ _ _ _ hb0 hl0 hm0).mono ?_
  rintro e w1 ⟨a, b, rfl, a0, a1, b0, b1, hB1⟩
  go_wp2_with fail
  refine (smo_any _ _ _).mono ?_
  rintro e w2 ⟨v2, rfl, hI2⟩
  go_wp2_with fail
  refine (imo_any _ _ _).mono ?_
  rintro e w3 ⟨v1, rfl, hI1⟩
  have hS1 := ints_sees hI1
  have hS2 := ints_later hI2 hI1.2
  have hlt1 : ∀ g, v1.ownBlock = some g → g < w3.heap.size := fun g hg => (hI1.1.lt g hg).2
  have HB := Lib.hid ((hB1.trans (hI2.2.mono hB1.size)).trans (hI1.2.mono (Nat.le_trans hB1.size hI2.2.size)))
  clear hI1 hI2 hB1
  have hsm := mo_small a b
  have HL := Lib.hid (mo_len a b)
  obtain ⟨hA1, hA2⟩ := mo_asc a b
  have HA1 := Lib.hid hA1
  have HA2 := Lib.hid hA2
  clear hA1 hA2
  generalize mo a b = l at hS1 hS2 hsm HL HA1 HA2
  obtain ⟨A1, c1, rfl, hc1⟩ := hS1
  have HS1 := Lib.hid (show Sees w3 (.slice A1 l.length c1) l from ⟨A1, c1, rfl, hc1⟩)
  have HC1 := Lib.hid hc1
  have HS2 := Lib.hid hS2
  have HV := Lib.hid hlt1
  clear hS2 hc1 hlt1
  go_wp2_with fail
  refine (lb_same _ _ _ l HS1.out HS2.out (by omega)).mono ?_
  rintro e w4 ⟨rfl, q, rfl⟩
  go_wp2_with fail
  refine (imd_any _ _ _).mono ?_
  rintro e w5 ⟨rfl, hB5⟩
  rw [← HL.out]
  have hB5' : Below w3.heap.size w3 w5 := (below_drewN' (Below.refl _ _) q).trans hB5
  have HBB := Lib.hid (HB.out.trans (hB5'.mono HB.out.size))
  have HC5 : Hid (0 < l.length → ∃ g, A1 = some ⟨g, 0, none⟩ ∧ ∀ i, i < l.length → w5.cell? ⟨g, i, none⟩ = some (.int .i64 (l.getD i 0))) := fun hn => by
    obtain ⟨g, rfl, hc⟩ := HC1.out hn
    exact ⟨g, rfl, fun i hi => (hB5'.cell (p := ⟨g, i, none⟩) (HV.out g rfl)).trans (hc i hi)⟩
  clear hB5 hB5'
  go_wp2
  go_loopw [7] (fun i wr => ∃ k : Nat, k ≤ l.length ∧ i = .int .i64 k ∧ ∃ q, wr = w5.drewN q) (fun i _ => (l.length + 1 : Nat) - (intOf i).toNat)
  case atStart => exact ⟨0, by omega, rfl, 0, rfl⟩
  case round =>
    obtain ⟨k, hk, rfl, q', rfl⟩ := hrel
    by_cases hkl : k < l.length
    · obtain ⟨g, rfl, hc⟩ := HC5.out (by omega)
      have e1 := hc k hkl
      obtain ⟨x0, x1⟩ := HA1.out k hkl
      cases k with
      | zero =>
        clear hc
        generalize l.getD 0 0 = x at e1 x0 x1
        have hd1 : decide (x < 0) = false := by simp; omega
        have hd2 : decide (a ≤ x) = false := by simp; omega
        go_wp2
        go_quiet (fail)
        go_wp2
        go_roundw
        case rel => exact ⟨1, by omega, by go_num, _, rfl⟩
        case measure => simp [intOf]
      | succ j =>
        have e2 := hc j (by omega)
        have x2 := HA2.out j hkl
        clear hc
        generalize l.getD (j + 1) 0 = x at e1 x0 x1 x2
        generalize l.getD j 0 = y at e2 x2
        have hd1 : decide (x < 0) = false := by simp; omega
        have hd2 : decide (a ≤ x) = false := by simp; omega
        have hd3 : decide ((0 : Int) < (j : Int) + 1) = true := decide_eq_true (by omega)
        have hd4 : decide (x ≤ y) = false := by simp; omega
        go_wp2
        go_quiet (fail)
        go_wp2
        go_roundw
        case rel => exact ⟨j + 2, by omega, by go_num, _, rfl⟩
        case measure => simp [intOf]; omega
    · go_wp2
      go_ret
      exact ⟨rfl, below_drewN' HBB.out _⟩

set_option maxRecDepth 100000 in
theorem lifted (os : Os) (started : os.Started) (H : Type) (enc : TypeId × Value → H) :
    ReturnsInHanded {} Try.checked os 5 .any (Rows.fnMixOfSpec.pre6 enc Try.prog Try.f5 Rows.fnMixOfRow.domain false) (Rows.fnMixOfSpec.post enc Try.prog Try.f5 false true false false) := by
  refine returnsInHanded_of_change (C := Try.checked) own started (by kernel_rfl) Try.func5
    (ChangeSpec.witness6 (enc := enc) (C := Try.checked) false ⟨#[], #[.slice none 0 0], []⟩ 8 (by kernel_rfl) (by kernel_rfl) (by kernel_rfl) (by kernel_rfl)) ?_
  intro W base args ds gs before hval0 hW hcnd _
  have hval : ∀ (j : Nat) t v, Try.f5.params[j]? = some t → args[j]? = some v → Value.okWide Try.prog W .any base t v := hval0
  have hW' := hW
  obtain ⟨p, q, hA0, hV, rfl, hfz, hnd⟩ := hW
  have hA : DataW.TrodAll enc Try.prog W 0 (fun _ => true) true Try.f5.params.toList args.toList ds p := hA0
  rw [Try.params5] at hA hval
  obtain ⟨v0, vs0, d0, ds0, p0, q0, hargs, rfl, rfl, h0, r0⟩ := trodAll_cons hA
  obtain ⟨rfl, rfl, rfl⟩ := trodAll_nil r0
  obtain rfl : args = #[v0] := by cases args; simp_all
  obtain ⟨rfl, rfl⟩ := trodVars_none hV
  obtain ⟨a0, len0, cap0, rfl⟩ := okWide_slice Try.underlying22 (hval 0 22 v0 rfl rfl)
  have k0 := h0
  have lt0 : ∀ x ∈ p0, x.block < W.heap.size := by obtain ⟨m, hm⟩ := k0; exact DataW.trod_lt m _ _ _ hm
  obtain ⟨z0, w0⟩ : ∃ zs, IsRow .u8 W a0 len0 cap0 zs := by
    obtain ⟨fuel, hf⟩ := h0
    rcases open_ints Try.underlying22 Try.underlying5 (by kernel_rfl) hf with ⟨hcs, _⟩ | ⟨x, l, c, zs, hcs, _, hl, hm, hz, _, hcell, hwz⟩
    · simp [Value.cells] at hcs
      obtain ⟨rfl, rfl, rfl⟩ := hcs
      exact ⟨[], .inl ⟨rfl, rfl, rfl, rfl⟩⟩
    · simp [Value.cells] at hcs
      obtain ⟨rfl, rfl, rfl⟩ := hcs
      exact ⟨zs, .inr ⟨_, rfl, hl, hm, by simpa using hz, hcell, hwz⟩⟩
  clear hA0 hval0
  refine (walk a0 len0 cap0 z0 W w0).mono fun e W' ⟨he, bel⟩ => ?_
  subst he
  exact ⟨_, rfl, _, _, _, [], _, [], hW', trodAll_mk1 (shut_bool Try.underlying4 _), (trodAll_cons_mk (Below.trod laidOut (by kernel_rfl) (of_decide_eq_true (by kernel_rfl)) k0 bel lt0) trodAll_mk0), rfl, bel.frame _, fun h => by cases h⟩

theorem over : Rows.fnMixOfRow.holds Try.pinned (OpenSpec.ofChange Rows.fnMixOfSpec) :=
  OpenClaim.holds_of_wide 5 Try.f5 rfl rfl rfl rfl rfl rfl rfl ⟨rfl, rfl, rfl, rfl, rfl⟩ rfl rfl rfl rfl rfl (by kernel_rfl) Try.func5 (by kernel_rfl)
    (of_decide_eq_true (by kernel_rfl)) (by unfold Func.isWrapper; first | (rw [if_pos (by decide +kernel)]; kernel_rfl) | (rw [if_neg (by decide +kernel)]; exact ⟨rfl, rfl⟩))
    (fun os started H enc _ => lifted os started H enc)

/-- ████ THE STATEMENT ████ -/
theorem proved : Rows.FnMixOfSaid := over
#print axioms proved
end Go.Proofs.Ytokcodoejfcmpaa.fnMixOf
