/-
  At every drawn frame the bytes of a valid frame are seventeen for a piece and ten for any other, and none are written of one that is not valid: the law returns true for every code; no condition.
-/
import Derived.Test.YtgihbilpimempaaRows
import Derived.WalkKit
import Derived.ProofKit
import Derived.OpenShut
import Derived.ShutString
import Derived.ChangeOld
import Derived.Below
import Derived.Test.YtgihbilpimempaaIPack2
import Derived.Test.YtgihbilpimempaaSPack
import Derived.Test.YtgihbilpimempaaDrawFr
namespace Go.Proofs.Ytgihbilpimempaa.fnFrameLen
open Go.ChangeShapes Go.WideShapes Go.ChangeAt Go.RowKit
open Go.ChangeMaps (open_string shut_string)
open Go.Proofs.Ytgihbilpimempaa.nb Go.Proofs.Ytgihbilpimempaa.fr Go.Proofs.Ytgihbilpimempaa.wd Go.Proofs.Ytgihbilpimempaa.dr
set_option linter.unusedVariables false

theorem own : ownKnob Try.prog.godebug = none := by kernel_rfl
theorem laidOut : laidOutB Try.prog = true := by kernel_rfl

/-- WHAT THE WALK IS TOLD OF A SLICE OF INTEGERS THAT CAME IN: it is nil; or it leads to a row of 'cap' cells, the numbers 'zs' (the first 'len' are its elements, the rest its spare room), each fitting its kind. -/
def IsRow (k : IntKind) (w : World) (a : Option Addr) (len cap : Nat) (zs : List Int) : Prop :=
  (a = none ∧ len = 0 ∧ cap = 0 ∧ zs = []) ∨
  ∃ x, a = some x ∧ len ≤ cap ∧ cap ≤ maxLen ∧ zs.length = cap ∧ (∀ i, i < zs.length → w.cell? (x.add i) = some (.int k (zs.getD i 0))) ∧ ∀ n ∈ zs, (Lit.int k n).wf = true

set_option maxRecDepth 100000 in
set_option maxHeartbeats 4000000 in
theorem walk (a0 : Option Addr) (len0 cap0 : Nat) (z0 : List Int) (w : World) (w0 : IsRow .u8 w a0 len0 cap0 z0) :
    Calls Try.prog 5 #[.slice a0 len0 cap0] w fun e w' => e = .returned (.bool true) ∧ Below w.heap.size w w' := by
  obtain ⟨hb0, hl0, hm0⟩ := bytes_of_row w0
  have hm0' : cap0 ≤ 9223372036854775807 := hm0
  by_cases hg0 : 1048576 < len0
  · go_enter Try.func5, Try.ntmps5
    go_wp2
    go_ret
    exact ⟨rfl, Below.refl _ _⟩
  go_enter Try.func5, Try.ntmps5
  go_wp2_with fail
  refine (drawFramePack _ _ _ _ hb0 hl0 hm0).mono ?_
  rintro e w1 ⟨F, rfl, hs, hB1⟩
  have hsm : F.x.size ≤ maxLen := by unfold maxLen; omega
  have HI := Lib.hid (fun V => ipack_any F V hsm)
  have HP := Lib.hid (fun V => spack_any F V hsm)
  have HK := Lib.hid (fun V => sfok_any F V hsm)
  have hB2 := hB1.alloc hB1.size (.cells (fcs F) 27)
  have hN2 := Blk.new w1 27 (fcs F)
  have hlen : (okF F = false ∧ (pk F).length = 0) ∨ (okF F = true ∧ F.k = 1 ∧ (pk F).length = 17) ∨ (okF F = true ∧ F.k ≠ 1 ∧ (pk F).length = 10) := by
    cases h : okF F with
    | false => exact .inl ⟨rfl, by rw [pk_no h]; rfl⟩
    | true =>
      by_cases hk : F.k = 1
      · exact .inr (.inl ⟨rfl, hk, pk_len_piece h hk⟩)
      · exact .inr (.inr ⟨rfl, hk, pk_len_ans h hk⟩)
  generalize pk F = l at HI HP hlen
  generalize okF F = ok at HK hlen
  have HLen := Lib.hid hlen
  clear hb0 hl0 hm0 hB1 hs hsm hlen
  obtain ⟨k, s, d, f, n, t, u, z, m, x⟩ := F
  unfold frv at HI HP HK
  unfold frv
  simp only at HI HP HK HLen ⊢
  go_wp2_with fail
  generalize w1.alloc (.cells (fcs ⟨k, s, d, f, n, t, u, z, m, x⟩) 27) = W at hN2 hB2 ⊢
  refine (HI.out _).mono ?_
  rintro e w3 ⟨A3, n3, p3, rfl, hO3⟩
  obtain ⟨hn3, _⟩ := own_rowN hO3
  have Hn3 := Lib.hid hn3
  have HN3 := Lib.hid (hN2.below hO3.2 hN2.lt)
  have HB3 := Lib.hid (hB2.trans (hO3.2.mono hB2.size))
  clear hO3 hN2 hB2 hn3
  obtain ⟨c0, c1, c2, c3, c4, c5, c6, c7, c8, c9, _⟩ := ten HN3.out
  go_wp2_with fail
  refine (HP.out _).mono ?_
  rintro e w4 ⟨A4, n4, p4, rfl, hO4⟩
  obtain ⟨hn4, _⟩ := own_rowN hO4
  have Hn4 := Lib.hid hn4
  have HN4 := Lib.hid (HN3.out.below hO4.2 HN3.out.lt)
  have HB4 := Lib.hid (HB3.out.trans (hO4.2.mono HB3.out.size))
  clear hO4 HN3 HB3 hn4 c0 c1 c2 c3 c4 c5 c6 c7 c8 c9
  obtain ⟨c0, c1, c2, c3, c4, c5, c6, c7, c8, c9, _⟩ := ten HN4.out
  have hq : ((n3 : Int) != (n4 : Int)) = false := by rw [Hn3.out, Hn4.out]; simp
  go_wp2_with fail
  refine (HK.out _).mono ?_
  rintro e w5 ⟨rfl, hB5⟩
  have HN5 := Lib.hid (HN4.out.below hB5 HN4.out.lt)
  have HB5 := Lib.hid (HB4.out.trans (hB5.mono HB4.out.size))
  clear HN4 HB4 hB5 c0 c1 c2 c3 c4 c5 c6 c7 c8 c9
  have c0 := HN5.out.cell 0
  simp only [fcs, List.getElem?_toArray, List.getElem?_cons_zero] at c0
  rcases HLen.out with ⟨rfl, h0⟩ | ⟨rfl, hk, h0⟩ | ⟨rfl, hk, h0⟩
  · have e3 : ((n3 : Int) == 0) = true := by rw [Hn3.out, h0]; rfl
    clear h0
    go_wp2
    go_ret
    exact ⟨rfl, HB5.out⟩
  · have e3 : ((n3 : Int) == 0) = false := by rw [Hn3.out, h0]; rfl
    have e4 : ((n3 : Int) == 17) = true := by rw [Hn3.out, h0]; rfl
    have e5 : (k == 1) = true := beq_iff_eq.2 hk
    have e6 : (k != 1) = false := by rw [bne, e5]; rfl
    clear h0 hk
    go_wp2
    go_ret
    exact ⟨rfl, HB5.out⟩
  · have e3 : ((n3 : Int) == 0) = false := by rw [Hn3.out, h0]; rfl
    have e4 : ((n3 : Int) == 10) = true := by rw [Hn3.out, h0]; rfl
    have e5 : (k == 1) = false := beq_eq_false_iff_ne.2 hk
    have e6 : (k != 1) = true := by rw [bne, e5]; rfl
    clear h0 hk
    go_wp2
    go_ret
    exact ⟨rfl, HB5.out⟩

set_option maxRecDepth 100000 in
theorem lifted (os : Os) (started : os.Started) (H : Type) (enc : TypeId × Value → H) :
    ReturnsInHanded {} Try.checked os 5 .any (Rows.fnFrameLenSpec.pre6 enc Try.prog Try.f5 Rows.fnFrameLenRow.domain false) (Rows.fnFrameLenSpec.post enc Try.prog Try.f5 false true false false) := by
  refine returnsInHanded_of_change (C := Try.checked) own started (by kernel_rfl) Try.func5
    (ChangeSpec.witness6 (enc := enc) (C := Try.checked) false ⟨#[], #[.slice none 0 0], []⟩ 8 (by kernel_rfl) (by kernel_rfl) (by kernel_rfl) (by kernel_rfl)) ?_
  intro W base args ds gs before hval0 hW hcnd _
  have hval : ∀ (j : Nat) t v, Try.f5.params[j]? = some t → args[j]? = some v → Value.okWide Try.prog W .any base t v := hval0
  have hW' := hW
  obtain ⟨p, q, hA0, hV, rfl, hfz, hnd⟩ := hW
  have hA : DataW.TrodAll enc Try.prog W 0 (fun _ => true) true Try.f5.params.toList args.toList ds p := hA0
  rw [Try.params5] at hA hval
  obtain ⟨v0, vs0, d0, ds0, p0, q0, hargs, rfl, rfl, h0, r0⟩ := trodAll_cons hA
  obtain ⟨rfl, rfl, rfl⟩ := trodAll_nil r0
  obtain rfl : args = #[v0] := by cases args; simp_all
  obtain ⟨rfl, rfl⟩ := trodVars_none hV
  obtain ⟨a0, len0, cap0, rfl⟩ := okWide_slice Try.underlying22 (hval 0 22 v0 rfl rfl)
  have k0 := h0
  have lt0 : ∀ x ∈ p0, x.block < W.heap.size := by obtain ⟨m, hm⟩ := k0; exact DataW.trod_lt m _ _ _ hm
  obtain ⟨z0, w0⟩ : ∃ zs, IsRow .u8 W a0 len0 cap0 zs := by
    obtain ⟨fuel, hf⟩ := h0
    rcases open_ints Try.underlying22 Try.underlying5 (by kernel_rfl) hf with ⟨hcs, _⟩ | ⟨x, l, c, zs, hcs, _, hl, hm, hz, _, hcell, hwz⟩
    · simp [Value.cells] at hcs
      obtain ⟨rfl, rfl, rfl⟩ := hcs
      exact ⟨[], .inl ⟨rfl, rfl, rfl, rfl⟩⟩
    · simp [Value.cells] at hcs
      obtain ⟨rfl, rfl, rfl⟩ := hcs
      exact ⟨zs, .inr ⟨_, rfl, hl, hm, by simpa using hz, hcell, hwz⟩⟩
  clear hA0 hval0
  refine (walk a0 len0 cap0 z0 W w0).mono fun e W' ⟨he, bel⟩ => ?_
  subst he
  exact ⟨_, rfl, _, _, _, [], _, [], hW', trodAll_mk1 (shut_bool Try.underlying4 _), (trodAll_cons_mk (Below.trod laidOut (by kernel_rfl) (of_decide_eq_true (by kernel_rfl)) k0 bel lt0) trodAll_mk0), rfl, bel.frame _, fun h => by cases h⟩

theorem over : Rows.fnFrameLenRow.holds Try.pinned (OpenSpec.ofChange Rows.fnFrameLenSpec) :=
  OpenClaim.holds_of_wide 5 Try.f5 rfl rfl rfl rfl rfl rfl rfl ⟨rfl, rfl, rfl, rfl, rfl⟩ rfl rfl rfl rfl rfl (by kernel_rfl) Try.func5 (by kernel_rfl)
    (of_decide_eq_true (by kernel_rfl)) (by unfold Func.isWrapper; first | (rw [if_pos (by decide +kernel)]; kernel_rfl) | (rw [if_neg (by decide +kernel)]; exact ⟨rfl, rfl⟩))
    (fun os started H enc _ => lifted os started H enc)

/-- ████ THE STATEMENT ████ -/
theorem proved : Rows.FnFrameLenSaid := over
#print axioms proved
end Go.Proofs.Ytgihbilpimempaa.fnFrameLen
