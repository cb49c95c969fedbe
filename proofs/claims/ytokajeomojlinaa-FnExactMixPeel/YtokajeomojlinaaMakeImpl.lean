/-
  The contract of the program's MixMake.
-/
import Derived.Test.YtokajeomojlinaaMakeSpec
import Derived.Test.YtokajeomojlinaaCutImpl4
namespace Go.Proofs.Ytokajeomojlinaa.ci
open Go.ChangeShapes Go.WideShapes Go.ChangeAt Go.RowKit
open Go.Proofs.Ytokajeomojlinaa.wd Go.Proofs.Ytokajeomojlinaa.cp Go.Proofs.Ytokajeomojlinaa.ow Go.Proofs.Ytokajeomojlinaa.mp Go.Proofs.Ytokajeomojlinaa.mi Go.Proofs.Ytokajeomojlinaa.cs

theorem load_blk {w : World} {g o : Nat} {q : Q} (h : w.rangeAt g o q.cells.toList) : (Instr.loadAt 58 (.pointer (some ⟨g, o, none⟩))).run Try.prog w = .ok (.agg q.cells) w :=
  run_loadAt_mid w g o 58 q.cells.toList _ h Try.underlying58 rfl sizeBlock
theorem blk_range {w : World} {g : Nat} {q : Q} (h : Blk w g 58 q.cells) : w.rangeAt g 0 q.cells.toList := fun j v hv => by
  rw [h.cell, Nat.zero_add]
  simpa using hv

/-- a load of a whole variable, in a region whose head only reads -/
theorem wpStill_load {P : Program} {ops : Array Oper} {w : World} {K : Act → Prop} {a : Act} {o : Oper} {rest : List Oper} (hgd : o.guard = none) (ty : TypeId) (x : Operand) (ho : o.op = .load ty x) (pv v : Value) (hx : a.eval x = pv)
    (hr : (Instr.loadAt ty pv).run P w = .ok v w) (h : wpStill P ops w K rest (a.put o.dst v)) : wpStill P ops w K (o :: rest) a := by
  refine wpStill_step fun K hK => ?_
  have hw : Region.wanted o (yielded ops a.tmps) = true := by simp [Region.wanted, hgd]
  rw [if_pos hw]
  unfold Oper.still execOp
  simp only [ho, hx, Sem.run_bind, hr, Result.andThen_ok, Sem.run_pure, Oper.stillUpon_value]
  exact hK _ h

set_option maxRecDepth 100000 in
set_option maxHeartbeats 1600000 in
theorem imake_any (t : ByteArray) (ht : t.size ≤ 1048576) (num : Int) (w : World) :
    Calls Try.prog 23 #[.string t, .int .i64 num] w (StrPost w (mk t num)) := by
  have hn6 := cutN_le t
  have hls := mo_small (cutN t) num
  have HM1 := Lib.hid (fun h => mk_no (t := t) (num := num) h)
  have HM2 := Lib.hid (fun h => mk_yes (t := t) (num := num) h)
  have HA := Lib.hid (fun k h => mo_at (b := cutN t) (num := num) (k := k) h)
  go_enter Try.func23, Try.ntmps23
  go_wp2_with fail
  refine (cutText_any t ht _).mono ?_
  rintro e w1 ⟨rfl, hB1⟩
  go_wp2_with (refine wpList_store_blk rfl 61 (.tmp 5) (.tmp 11) rfl w1.heap.size (src t (cutN t)) rfl rfl 61 (src t 0) (Blk.new w1 _ _) sizeSrc rfl (src_one _ _) ?_)
  intro w2 hS hO
  have hB2 : Below w.heap.size w w2 := (hB1.alloc hB1.size _).trans (hO.1.mono hB1.size)
  have hz := hB1.size
  have hgl := hS.lt
  clear hO hB1
  generalize w1.heap.size = g at hS hz hgl ⊢
  have c0 := hS.cell 0
  rw [src_count] at c0
  have HS := Lib.hid hS
  clear hS
  go_wp2_with fail
  refine (imo_any _ _ _).mono ?_
  rintro e w3 ⟨v2, rfl, hI2⟩
  obtain ⟨A2, c2, rfl, hc2⟩ := ints_form hI2
  have HC2 := Lib.hid hc2
  have HS3 := Lib.hid (HS.out.below hI2.2 hgl)
  have HB := Lib.hid (hB2.trans (hI2.2.mono hB2.size))
  have hz3 := hI2.2.size
  clear hc2 hI2 c0 HS hB2
  generalize hL : mo (cutN t) num = l at hls HM1 HM2 HA HC2 ⊢
  generalize hN : cutN t = n at hn6 HM1 HM2 HA HS3 ⊢
  clear hL hN
  by_cases hl0 : l.length = 0
  · have HE := Lib.hid (HM1.out (List.eq_nil_of_length_eq_zero hl0))
    go_wp2
    go_ret
    exact ⟨by rw [HE.out]; rfl, HB.out⟩
  · have HE := Lib.hid (HM2.out (fun h => hl0 (by rw [h]; rfl)))
    have hd2 : ((l.length : Int) == 0) = false := by rw [beq_eq_false_iff_ne]; omega
    obtain ⟨g2, rfl, _, hg2, hcell2⟩ := HC2.out (by omega)
    have HCell2 := Lib.hid hcell2
    have hgs := HS3.out.lt
    have hzw := HB.out.size
    clear hcell2 HC2 HM1 HM2
    go_wp2
    go_loopw [21] (fun i wr => ∃ k : Nat, k ≤ l.length ∧ i = .int .i64 k ∧ Blk wr w3.heap.size 58 (xq t (l.take k)).cells ∧ Below w3.heap.size w3 wr) (fun i _ => (l.length + 1 : Nat) - (intOf i).toNat)
    case atStart => exact ⟨0, by omega, rfl, Blk.new w3 _ _, (Below.refl _ _).alloc (Nat.le_refl _) _⟩
    case round =>
      obtain ⟨k, hk, rfl, hD, hB⟩ := hrel
      by_cases hkl : k < l.length
      · obtain ⟨x0, x1⟩ := HA.out k hkl
        have e2 := (hB.cell (p := ⟨g2, k, none⟩) hg2).trans (HCell2.out k hkl)
        have HX := Lib.hid (xq_on t hkl)
        generalize l.getD k 0 = x at x0 x1 e2 HX
        obtain ⟨i, rfl⟩ := Int.eq_ofNat_of_zero_le x0
        have hin : i < n := by omega
        have hi6 : (i : Int) < 6 := by omega
        have hrg := src_range (HS3.out.below hB hgs) hin hn6
        rw [Int.toNat_natCast] at HX
        generalize xq t (l.take k) = p at HX hD
        go_wp2
        refine wp_region_still_tail 5 (by kernel_rfl) (by kernel_rfl) ?_
        simp only [List.take_succ_cons, List.take_zero, List.drop_succ_cons, List.drop_zero]
        change wpStill _ _ wr.drew (fun a' => wpList _ _ _ _ a' wr.drew) _ _
        have hB' : Below w3.heap.size w3 wr.drew := hB.drew
        have hl1 := load_blk (w := wr.drew) hrg
        have hl2 := load_blk (w := wr.drew) (blk_range hD)
        have HD' : Hid (Blk wr.drew w3.heap.size 58 p.cells) := hD
        clear hD hB hrg e2
        generalize wr.drew = wd at hB' HD' hl1 hl2 ⊢
        refine wpStill_load rfl 58 (.tmp 7) rfl _ _ rfl hl2 ?_
        still_step
        still_step
        still_step
        refine wpStill_load rfl 58 (.tmp 28) rfl _ _ rfl hl1 ?_
        refine wpStill_nil ?_
        clear hl1 hl2
        go_wp2_with fail
        refine (mixed_any _ _ _).mono ?_
        rintro e w4 ⟨rfl, hB4⟩
        have hD4 := HD'.out.below hB4 HD'.out.lt
        have hBB := hB'.trans (hB4.mono hB'.size)
        clear hB4 hB' HD'
        go_wp2_with (refine wpList_store_blk rfl 58 (.tmp 7) (.tmp 30) rfl w3.heap.size (p.xor (qb t i)).cells rfl rfl 58 p.cells hD4 sizeBlock rfl (Q.cells_one _) ?_)
        intro w5 hD5 hO5
        have R := Lib.hid (hBB.trans hO5.1)
        clear hO5 hBB hD4
        go_wp2
        go_roundw
        case rel => exact ⟨k + 1, by omega, by go_num, by rw [HX.out]; exact hD5, R.out⟩
        case measure => simp [intOf]; omega
      · obtain rfl : k = l.length := by omega
        rw [xq_all] at hD
        go_wp2_with (refine wpList_load_row rfl 58 (.tmp 7) rfl w3.heap.size rfl 58 (xq t l).cells (0, 0) _ hD Try.underlying58 rfl sizeBlock ?_)
        refine (text_any _ _).mono ?_
        rintro e w4 ⟨rfl, hB4⟩
        go_wp2
        go_ret
        exact ⟨by rw [HE.out]; rfl, (HB.out.trans (hB.mono hzw)).trans (hB4.mono (Nat.le_trans hzw hB.size))⟩
end Go.Proofs.Ytokajeomojlinaa.ci
