/-
  At every drawn list of bytes the program's FrameSum answers as the specification's, and a list of at most 1000 bytes with any one of them changed has another sum: the law returns true for every code; no condition.
-/
import Derived.Test.YtgihbilpimempaaRows
import Derived.WalkKit
import Derived.ProofKit
import Derived.OpenShut
import Derived.ShutString
import Derived.ChangeOld
import Derived.Below
import Derived.Test.YtgihbilpimempaaDrawSum
import Derived.Test.YtgihbilpimempaaSPack
import Derived.Deep.Cut
namespace Go.Proofs.Ytgihbilpimempaa.fnFrameSum
open Go.ChangeShapes Go.WideShapes Go.ChangeAt Go.RowKit
open Go.ChangeMaps (open_string shut_string)
open Go.Proofs.Ytgihbilpimempaa.nb Go.Proofs.Ytgihbilpimempaa.fr Go.Proofs.Ytgihbilpimempaa.wd Go.Proofs.Ytgihbilpimempaa.dr Go.Proofs.Ytgihbilpimempaa.ow Go.Proofs.Ytgihbilpimempaa.cp
set_option linter.unusedVariables false

theorem own : ownKnob Try.prog.godebug = none := by kernel_rfl
theorem laidOut : laidOutB Try.prog = true := by kernel_rfl

/-- WHAT THE WALK IS TOLD OF A SLICE OF INTEGERS THAT CAME IN: it is nil; or it leads to a row of 'cap' cells, the numbers 'zs' (the first 'len' are its elements, the rest its spare room), each fitting its kind. -/
def IsRow (k : IntKind) (w : World) (a : Option Addr) (len cap : Nat) (zs : List Int) : Prop :=
  (a = none ∧ len = 0 ∧ cap = 0 ∧ zs = []) ∨
  ∃ x, a = some x ∧ len ≤ cap ∧ cap ≤ maxLen ∧ zs.length = cap ∧ (∀ i, i < zs.length → w.cell? (x.add i) = some (.int k (zs.getD i 0))) ∧ ∀ n ∈ zs, (Lit.int k n).wf = true

set_option maxRecDepth 100000 in
set_option maxHeartbeats 4000000 in
theorem walk (a0 : Option Addr) (len0 cap0 : Nat) (z0 : List Int) (a1 : Option Addr) (len1 cap1 : Nat) (z1 : List Int) (w : World) (w0 : IsRow .u8 w a0 len0 cap0 z0) (w1 : IsRow .u8 w a1 len1 cap1 z1) :
    Calls Try.prog 3 #[.slice a0 len0 cap0, .slice a1 len1 cap1] w fun e w' => e = .returned (.bool true) ∧ Below w.heap.size w w' := by
  obtain ⟨hb0, hl0, hm0⟩ := bytes_of_row w0
  obtain ⟨hb1, hl1, hm1⟩ := bytes_of_row w1
  have hm0' : cap0 ≤ 9223372036854775807 := hm0
  have hm1' : cap1 ≤ 9223372036854775807 := hm1
  by_cases hg0 : 1048576 < len0
  · have hg0' : (1048576 : Int) < len0 := by omega
    go_enter Try.func3, Try.ntmps3
    go_wp2
    go_ret
    exact ⟨rfl, Below.refl _ _⟩
  have hg0' : ¬ (1048576 : Int) < len0 := by omega
  by_cases hg1 : 1048576 < len1
  · have hg1' : (1048576 : Int) < len1 := by omega
    go_enter Try.func3, Try.ntmps3
    go_wp2
    go_ret
    exact ⟨rfl, Below.refl _ _⟩
  have hg1' : ¬ (1048576 : Int) < len1 := by omega
  obtain ⟨i0, hi, hz0, hz1, hz2⟩ := info_parts infoByte
  go_enter Try.func3, Try.ntmps3
  go_wp2_with fail
  refine (drawFrameSum _ _ _ _ hb0 hl0 hm0).mono ?_
  rintro e w2 ⟨A, c, l, rfl, hR, hlc, hc, hl, hB⟩
  have HS := Lib.hid (fun V h => ssum_any V A c l h (by unfold maxLen; omega))
  have HI := Lib.hid (fun V h => isum_any V A c l h (by unfold maxLen; omega))
  have s0 : 0 ≤ smL l := sm_lo l l.length
  have s1 : smL l ≤ 65520 := sm_hi l l.length
  have HNe := Lib.hid (fun (h : l.length ≤ 1000) {a : Nat} (ha : a < l.length) {b : UInt8} (hb : (b.toNat : Int) ≠ vl l a) => smL_ne h ha hb)
  generalize smL l = N at HS HI s0 s1 HNe
  have HR := Lib.hid hR
  have HB := Lib.hid hB
  have hN0 : ¬ N < 0 := by omega
  have hN1 : ¬ 65520 < N := by omega
  have hnn : (N != N) = false := by simp
  clear hb0 hl0 hm0 hb1 hl1 hm1 hR hB
  go_wp2_with fail
  refine (HS.out _ HR.out).mono ?_
  rintro e w3 ⟨rfl, rfl⟩
  go_wp2_with fail
  refine (HI.out _ HR.out).mono ?_
  rintro e w3 ⟨rfl, rfl⟩
  by_cases hz : l.length = 0
  · have hz' : ((l.length : Int) == 0) = true := by rw [hz]; rfl
    clear hz HNe HS HI
    go_wp2
    go_ret
    exact ⟨rfl, HB.out⟩
  have hz' : ((l.length : Int) == 0) = false := beq_eq_false_iff_ne.2 (by omega)
  by_cases hk : 1000 < l.length
  · have hk' : (1000 : Int) < (l.length : Int) := by omega
    clear hz hk HNe HS HI
    go_wp2
    go_ret
    exact ⟨rfl, HB.out⟩
  have hk' : ¬ (1000 : Int) < (l.length : Int) := by omega
  have hk1 : l.length ≤ 1000 := by omega
  obtain ⟨g5, o5, e5, hg5, hc5⟩ := HR.out (by omega)
  subst e5
  have HC5 := Lib.hid hc5
  have hO0 : Own 5 w2 (w2.alloc (.cells #[] 5)) (.slice (some ⟨w2.heap.size, 0, none⟩) 0 0) [] := Own.empty w2
  have hjn : ((len1 % l.length : Nat) : Int) = (len1 : Int) % (l.length : Int) := by simp
  have hjl : len1 % l.length < l.length := Nat.mod_lt _ (by omega)
  generalize len1 % l.length = j at hjn hjl
  have hl0' : ¬ (l.length : Int) = 0 := by omega
  obtain ⟨dd, hdd⟩ : ∃ dd : Int, dd = 1 + (len0 : Int) % 255 := ⟨_, rfl⟩
  have hd0 : 1 ≤ dd := by omega
  have hd1 : dd ≤ 255 := by omega
  have HDD := Lib.hid hdd
  have HJN := Lib.hid hjn
  clear hc5 hdd hjn hz hk
  go_wp2_with (at_builtin; refine wpList_append_own _ rfl (.tmp 48) (.tmp 49) 22 rfl w2.heap.size 5 i0 (.int .u8 0) 1 1 Try.underlying22 hi hz0 hz1 hz2 rfl (by decide) _ _ _ rfl (hO0.1) ⟨g5, o5, none⟩ l.length c (l.map bv) rfl ?e0 ?e1 ?e2 ?e3 ?e4 ?e5 ?_)
  case e0 => rw [List.length_map]; omega
  case e1 =>
    intro q y hy
    have hq : q < l.length := by
      have := (List.getElem?_eq_some_iff.1 hy).1
      rwa [List.length_map] at this
    have e : (⟨g5, o5, none⟩ : Addr).add q = ⟨g5, o5 + q, none⟩ := by unfold Addr.add; split <;> simp_all
    have hlow : Below w2.heap.size w2 (w2.alloc (.cells #[] 5)) := (Below.refl w2.heap.size w2).alloc (Nat.le_refl _) _
    rw [e, (hlow.cell (p := ⟨g5, o5 + q, none⟩) hg5).trans (HC5.out q hq), ← hy, List.getElem?_map, List.getElem?_eq_getElem hq]
    unfold bv vl
    rw [List.getD_eq_getElem?_getD, List.getElem?_eq_getElem hq]
    rfl
  case e2 => exact bv_one _
  case e3 => unfold maxLen; simp; omega
  case e4 => simp; omega
  case e5 => simp
  intro v1 w6 hown6 hgrow6 _
  have hO6 := own_app hO0 hown6 hgrow6
  rw [List.nil_append] at hO6
  obtain ⟨A6, n6, c6, rfl⟩ := own_slice hO6
  have hv0 := vl_lo l j
  have hv1 := vl_hi l j
  have hm : ((b8 ((vl l j + dd) % 256)).toNat : Int) = (vl l j + dd) % 256 := b8_nat (by omega) (by omega)
  obtain ⟨g6, e6, hg6, y6, f6, hRow6, hBl6, hn6, hc6, hm6⟩ := own_set hO6 hjl (b8 ((vl l j + dd) % 256))
  subst e6
  subst hn6
  have HNj := Lib.hid (HNe.out hk1 hjl (b := b8 ((vl l j + dd) % 256)) (by rw [hm]; omega))
  have hsl : (l.set j (b8 ((vl l j + dd) % 256))).length = l.length := List.length_set
  rw [hm] at hRow6 hBl6
  have HBw := Lib.hid (HB.out.trans (hBl6.mono HB.out.size))
  have HQ := Lib.hid (isum_any _ _ c6 _ hRow6 (by rw [hsl]; unfold maxLen; omega))
  rw [hsl] at HQ
  generalize smL (l.set j (b8 ((vl l j + dd) % 256))) = N' at HNj HQ
  obtain ⟨mm, hmm⟩ : ∃ mm, (vl l j + dd) % 256 = mm := ⟨_, rfl⟩
  rw [hmm] at HQ HBw
  generalize vl l j = yv at y6 hmm
  have HMM := Lib.hid hmm
  have hj0 : (0 : Int) ≤ (j : Int) := by omega
  have hj1 : (j : Int) < (l.length : Int) := by omega
  have hne : (N' != N) = true := by
    have := HNj.out
    simpa using this
  clear hown6 hgrow6 hO6 hRow6 hBl6 hO0 hm hsl hmm hv0 hv1 HNj HNe HC5
  go_upto_region 10 with (fail)
  rw [← HJN.out]
  go_wp2_with fail
  rw [← HDD.out, HMM.out]
  refine HQ.out.mono ?_
  rintro e w7 ⟨rfl, rfl⟩
  go_wp2
  go_ret
  exact ⟨rfl, HBw.out⟩

set_option maxRecDepth 100000 in
theorem lifted (os : Os) (started : os.Started) (H : Type) (enc : TypeId × Value → H) :
    ReturnsInHanded {} Try.checked os 3 .any (Rows.fnFrameSumSpec.pre6 enc Try.prog Try.f3 Rows.fnFrameSumRow.domain false) (Rows.fnFrameSumSpec.post enc Try.prog Try.f3 false true false false) := by
  refine returnsInHanded_of_change (C := Try.checked) own started (by kernel_rfl) Try.func3
    (ChangeSpec.witness6 (enc := enc) (C := Try.checked) false ⟨#[], #[.slice none 0 0, .slice none 0 0], []⟩ 8 (by kernel_rfl) (by kernel_rfl) (by kernel_rfl) (by kernel_rfl)) ?_
  intro W base args ds gs before hval0 hW hcnd _
  have hval : ∀ (j : Nat) t v, Try.f3.params[j]? = some t → args[j]? = some v → Value.okWide Try.prog W .any base t v := hval0
  have hW' := hW
  obtain ⟨p, q, hA0, hV, rfl, hfz, hnd⟩ := hW
  have hA : DataW.TrodAll enc Try.prog W 0 (fun _ => true) true Try.f3.params.toList args.toList ds p := hA0
  rw [Try.params3] at hA hval
  obtain ⟨v0, vs0, d0, ds0, p0, q0, hargs, rfl, rfl, h0, r0⟩ := trodAll_cons hA
  obtain ⟨v1, vs1, d1, ds1, p1, q1, rfl, rfl, rfl, h1, r1⟩ := trodAll_cons r0
  obtain ⟨rfl, rfl, rfl⟩ := trodAll_nil r1
  obtain rfl : args = #[v0, v1] := by cases args; simp_all
  obtain ⟨rfl, rfl⟩ := trodVars_none hV
  obtain ⟨a0, len0, cap0, rfl⟩ := okWide_slice Try.underlying22 (hval 0 22 v0 rfl rfl)
  have k0 := h0
  have lt0 : ∀ x ∈ p0, x.block < W.heap.size := by obtain ⟨m, hm⟩ := k0; exact DataW.trod_lt m _ _ _ hm
  obtain ⟨z0, w0⟩ : ∃ zs, IsRow .u8 W a0 len0 cap0 zs := by
    obtain ⟨fuel, hf⟩ := h0
    rcases open_ints Try.underlying22 Try.underlying5 (by kernel_rfl) hf with ⟨hcs, _⟩ | ⟨x, l, c, zs, hcs, _, hl, hm, hz, _, hcell, hwz⟩
    · simp [Value.cells] at hcs
      obtain ⟨rfl, rfl, rfl⟩ := hcs
      exact ⟨[], .inl ⟨rfl, rfl, rfl, rfl⟩⟩
    · simp [Value.cells] at hcs
      obtain ⟨rfl, rfl, rfl⟩ := hcs
      exact ⟨zs, .inr ⟨_, rfl, hl, hm, by simpa using hz, hcell, hwz⟩⟩
  obtain ⟨a1, len1, cap1, rfl⟩ := okWide_slice Try.underlying22 (hval 1 22 v1 rfl rfl)
  have k1 := h1
  have lt1 : ∀ x ∈ p1, x.block < W.heap.size := by obtain ⟨m, hm⟩ := k1; exact DataW.trod_lt m _ _ _ hm
  obtain ⟨z1, w1⟩ : ∃ zs, IsRow .u8 W a1 len1 cap1 zs := by
    obtain ⟨fuel, hf⟩ := h1
    rcases open_ints Try.underlying22 Try.underlying5 (by kernel_rfl) hf with ⟨hcs, _⟩ | ⟨x, l, c, zs, hcs, _, hl, hm, hz, _, hcell, hwz⟩
    · simp [Value.cells] at hcs
      obtain ⟨rfl, rfl, rfl⟩ := hcs
      exact ⟨[], .inl ⟨rfl, rfl, rfl, rfl⟩⟩
    · simp [Value.cells] at hcs
      obtain ⟨rfl, rfl, rfl⟩ := hcs
      exact ⟨zs, .inr ⟨_, rfl, hl, hm, by simpa using hz, hcell, hwz⟩⟩
  clear hA0 hval0
  refine (walk a0 len0 cap0 z0 a1 len1 cap1 z1 W w0 w1).mono fun e W' ⟨he, bel⟩ => ?_
  subst he
  exact ⟨_, rfl, _, _, _, [], _, [], hW', trodAll_mk1 (shut_bool Try.underlying4 _), (trodAll_cons_mk (Below.trod laidOut (by kernel_rfl) (of_decide_eq_true (by kernel_rfl)) k0 bel lt0) (trodAll_cons_mk (Below.trod laidOut (by kernel_rfl) (of_decide_eq_true (by kernel_rfl)) k1 bel lt1) trodAll_mk0)), rfl, bel.frame _, fun h => by cases h⟩

theorem over : Rows.fnFrameSumRow.holds Try.pinned (OpenSpec.ofChange Rows.fnFrameSumSpec) :=
  OpenClaim.holds_of_wide 3 Try.f3 rfl rfl rfl rfl rfl rfl rfl ⟨rfl, rfl, rfl, rfl, rfl⟩ rfl rfl rfl rfl rfl (by kernel_rfl) Try.func3 (by kernel_rfl)
    (of_decide_eq_true (by kernel_rfl)) (by unfold Func.isWrapper; first | (rw [if_pos (by decide +kernel)]; kernel_rfl) | (rw [if_neg (by decide +kernel)]; exact ⟨rfl, rfl⟩))
    (fun os started H enc _ => lifted os started H enc)

/-- ████ THE STATEMENT ████ -/
theorem proved : Rows.FnFrameSumSaid := over
#print axioms proved
end Go.Proofs.Ytgihbilpimempaa.fnFrameSum
