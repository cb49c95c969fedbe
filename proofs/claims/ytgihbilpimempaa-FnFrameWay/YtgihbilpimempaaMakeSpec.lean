/-
  The contract of the specification's MixMake.
-/
import Derived.Test.YtgihbilpimempaaMakePlain
import Derived.Test.YtgihbilpimempaaCutSpec2
import Derived.Test.YtgihbilpimempaaMixOfSpec
namespace Go.Proofs.Ytgihbilpimempaa.cs
open Go.ChangeShapes Go.WideShapes Go.ChangeAt Go.RowKit
open Go.Proofs.Ytgihbilpimempaa.wd Go.Proofs.Ytgihbilpimempaa.cp Go.Proofs.Ytgihbilpimempaa.ow Go.Proofs.Ytgihbilpimempaa.mp Go.Proofs.Ytgihbilpimempaa.mi Go.Proofs.Ytgihbilpimempaa.ms

theorem own_of_ints {w0 w : World} {v : Value} {l : List Int} (h : Ints w0 w v l) : Own 3 w0 w v (l.map (Value.int .i64)) := ⟨by rw [List.length_map]; exact h.1, h.2⟩
/-- a slice of the call's own that reads as a list of ints: an address where there is one -/
theorem ints_form {w0 w : World} {v : Value} {l : List Int} (h : Ints w0 w v l) : ∃ A c, v = .slice A l.length c ∧ (0 < l.length → ∃ g, A = some ⟨g, 0, none⟩ ∧ w0.heap.size ≤ g ∧ g < w.heap.size ∧ ∀ i, i < l.length → w.cell? ⟨g, i, none⟩ = some (.int .i64 (l.getD i 0))) := by
  obtain ⟨A, c, rfl, hc⟩ := (own_of_ints h).form
  rw [List.length_map] at hc ⊢
  refine ⟨A, c, rfl, fun hn => ?_⟩
  obtain ⟨g, rfl, h1, h2, h3⟩ := hc hn
  exact ⟨g, rfl, h1, h2, fun i hi => h3 i _ (by simp [List.getD, hi])⟩
theorem strs_form {w0 w : World} {v : Value} {l : List ByteArray} (h : Own 9 w0 w v (l.map Value.string)) : ∃ A c, v = .slice A l.length c ∧ (0 < l.length → ∃ g, A = some ⟨g, 0, none⟩ ∧ w0.heap.size ≤ g ∧ g < w.heap.size ∧ ∀ i x, l[i]? = some x → w.cell? ⟨g, i, none⟩ = some (.string x)) := by
  obtain ⟨A, c, rfl, hc⟩ := h.form
  rw [List.length_map] at hc ⊢
  refine ⟨A, c, rfl, fun hn => ?_⟩
  obtain ⟨g, rfl, h1, h2, h3⟩ := hc hn
  exact ⟨g, rfl, h1, h2, fun i x hx => h3 i _ (by simp [hx])⟩

theorem cut_at {t : ByteArray} {i : Nat} (h : i < cutN t) : (cut t)[i]? = some (qb t i).str := cutTo_at t h

set_option maxRecDepth 100000 in
set_option maxHeartbeats 1600000 in
theorem smake_any (t : ByteArray) (ht : t.size ≤ 1048576) (num : Int) (w : World) :
    Calls Try.prog 41 #[.string t, .int .i64 num] w (StrPost w (mk t num)) := by
  have hn6 := cutN_le t
  have hls := mo_small (cutN t) num
  have HM1 := Lib.hid (fun h => mk_no (t := t) (num := num) h)
  have HM2 := Lib.hid (fun h => mk_yes (t := t) (num := num) h)
  have HA := Lib.hid (fun k h => mo_at (b := cutN t) (num := num) (k := k) h)
  have HZ := Lib.hid (fun (h : cutN t = 0) => show mo (cutN t) num = [] by rw [h]; exact mo_zero num)
  go_enter Try.func41, Try.ntmps41
  go_wp2_with fail
  refine (scut_any t ht _).mono ?_
  rintro e w1 ⟨v1, rfl, hI1⟩
  obtain ⟨A1, c1, rfl, hc1⟩ := strs_form hI1
  rw [cut_len] at hc1 ⊢
  have HC1 := Lib.hid hc1
  clear hc1
  go_wp2_with fail
  refine (smo_any _ _ _).mono ?_
  rintro e w2 ⟨v2, rfl, hI2⟩
  obtain ⟨A2, c2, rfl, hc2⟩ := ints_form hI2
  have HC2 := Lib.hid hc2
  have hB12 := hI2.2
  have HB := Lib.hid (hI1.2.trans (hI2.2.mono hI1.2.size))
  have hz := HB.out.size
  clear hc2 hI1 hI2
  generalize hL : mo (cutN t) num = l at hls HM1 HM2 HA HZ HC2 ⊢
  generalize hN : cutN t = n at hn6 HM1 HM2 HA HZ HC1 ⊢
  have HL := Lib.hid hL
  have HN := Lib.hid hN
  clear hL hN
  by_cases hl0 : l.length = 0
  · have HE := Lib.hid (HM1.out (List.eq_nil_of_length_eq_zero hl0))
    by_cases hn0 : n = 0
    · subst hn0
      go_wp2
      go_ret
      exact ⟨by rw [HE.out]; rfl, HB.out⟩
    · have hd : ((n : Int) == 0) = false := by simp; omega
      go_wp2
      go_ret
      exact ⟨by rw [HE.out]; rfl, HB.out⟩
  · have hn0 : n ≠ 0 := fun h => hl0 (by rw [HZ.out h]; rfl)
    have HE := Lib.hid (HM2.out (fun h => hl0 (by rw [h]; rfl)))
    have hd : ((n : Int) == 0) = false := by simp; omega
    have hd2 : ((l.length : Int) == 0) = false := by rw [beq_eq_false_iff_ne]; omega
    obtain ⟨g1, rfl, _, hg1, hcell1⟩ := HC1.out (by omega)
    obtain ⟨g2, rfl, _, hg2, hcell2⟩ := HC2.out (by omega)
    have HCell1 := Lib.hid hcell1
    have HCell2 := Lib.hid hcell2
    have hz1 := hB12.size
    have HB12 := Lib.hid hB12
    clear hcell1 hcell2 hB12 HC1 HC2 HM1 HM2 HZ
    go_wp2_with fail
    refine (none_any _).mono ?_
    rintro e w3 ⟨rfl, hB3⟩
    go_wp2
    go_loopw [7, 8] (fun x i wr => ∃ k : Nat, k ≤ l.length ∧ i = .int .i64 k ∧ x = .string (xq t (l.take k)).str ∧ Below w2.heap.size w2 wr) (fun _ i _ => (l.length + 1 : Nat) - (intOf i).toNat)
    case atStart => exact ⟨0, by omega, rfl, rfl, hB3⟩
    case round =>
      obtain ⟨k, hk, rfl, rfl, hB⟩ := hrel
      clear hB3
      by_cases hkl : k < l.length
      · obtain ⟨x0, x1⟩ := HA.out k hkl
        have e2 := (hB.cell (p := ⟨g2, k, none⟩) hg2).trans (HCell2.out k hkl)
        have HX := Lib.hid (xq_on t hkl)
        generalize l.getD k 0 = x at x0 x1 e2 HX
        obtain ⟨i, rfl⟩ := Int.eq_ofNat_of_zero_le x0
        have hin : i < n := by omega
        have e1 := (hB.cell (p := ⟨g1, i, none⟩) (show g1 < w2.heap.size by omega)).trans ((HB12.out.cell (p := ⟨g1, i, none⟩) hg1).trans (HCell1.out i _ (cut_at (by rw [HN.out]; exact hin))))
        rw [Int.toNat_natCast] at HX
        generalize xq t (l.take k) = p at HX
        go_wp2_with fail
        refine (xor_any _ _ _).mono ?_
        rintro e w4 ⟨rfl, hB4⟩
        have R := Lib.hid (hB.trans (hB4.mono hB.size))
        clear hB4 hB
        go_wp2
        go_roundw
        case rel => exact ⟨k + 1, by omega, by go_num, by rw [HX.out], R.out⟩
        case measure => simp [intOf]; omega
      · obtain rfl : k = l.length := by omega
        rw [xq_all]
        go_wp2
        go_ret
        exact ⟨by rw [HE.out]; rfl, HB.out.trans (hB.mono hz)⟩
end Go.Proofs.Ytgihbilpimempaa.cs
