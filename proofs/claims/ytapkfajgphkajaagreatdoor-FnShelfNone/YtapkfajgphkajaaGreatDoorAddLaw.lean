/-
  Adding to a shelf, in plain words: what its records are behind one record more, and behind two.
-/
import Derived.Test.YtapkfajgphkajaaGreatDoorCutLaw
import Derived.Test.YtapkfajgphkajaaGreatDoorAppendS
namespace Go.Proofs.YtapkfajgphkajaaGreatDoor.sh
open Go.ChangeShapes Go.WideShapes Go.ChangeAt Go.RowKit
open Go.Proofs.YtapkfajgphkajaaGreatDoor.wd Go.Proofs.YtapkfajgphkajaaGreatDoor.ow Go.Proofs.YtapkfajgphkajaaGreatDoor.sl

theorem add_part {s x : ByteArray} {f : Int} (h : okSh s f = true) (hf : fits s x = true) : ∃ ls : List ByteArray, ls.length ≤ 262144 ∧ recV (rd s.data.toList) = ls.map Value.string ∧
    recV (rd (s ++ stS x).data.toList) = (ls ++ [x]).map Value.string ∧ en (s ++ stS x).data.toList = (s ++ stS x).size ∧ okSh (s ++ stS x) f = true := by
  obtain ⟨a1, a2, a3⟩ := add_law h hf
  have hs := ok_small h
  refine ⟨(rd s.data.toList).map dc.str, rd_few (by omega), recV_str _, ?_, a2, a3⟩
  rw [a1, recV_str, List.map_append, List.map_cons, List.map_nil, dc.str_data]

theorem two_part {s x y : ByteArray} {f : Int} (h : okSh s f = true) (h1 : fits s x = true) (h2 : fits (s ++ stS x) y = true) :
    fits s y = true ∧ fits (s ++ stS y) x = true ∧ okSh (s ++ stS x) f = true ∧ okSh (s ++ stS y) f = true ∧ ∃ ls : List ByteArray, ls.length ≤ 262144 ∧ recV (rd ((s ++ stS x) ++ stS y).data.toList) = (ls ++ [x, y]).map Value.string ∧
      recV (rd ((s ++ stS y) ++ stS x).data.toList) = (ls ++ [y, x]).map Value.string := by
  obtain ⟨p1, p2, p3⟩ := fits_iff.1 h1
  obtain ⟨q1, q2, q3⟩ := fits_iff.1 h2
  rw [size_app] at q3
  have f1 : fits s y = true := fits_iff.2 ⟨q1, q2, by omega⟩
  have f2 : fits (s ++ stS y) x = true := fits_iff.2 ⟨p1, p2, by rw [size_app]; omega⟩
  obtain ⟨a1, a2, a3⟩ := add_law h h1
  obtain ⟨b1, b2, b3⟩ := add_law h f1
  obtain ⟨c1, c2, c3⟩ := add_law a3 h2
  obtain ⟨d1, d2, d3⟩ := add_law b3 f2
  have hs := ok_small h
  refine ⟨f1, f2, a3, b3, (rd s.data.toList).map dc.str, rd_few (by omega), ?_, ?_⟩
  · rw [c1, a1, recV_str]
    simp [dc.str_data]
  · rw [d1, b1, recV_str]
    simp [dc.str_data]

/-- the three ways of an adding -/
theorem add_three {s x : ByteArray} {f : Int} :
    (okSh s f = false → addS s f x = ⟨#[]⟩ ∧ addF s f = 0 ∧ addB s f x = false) ∧ (okSh s f = true → addB s f x = false → addS s f x = s ∧ addF s f = f) ∧
    (okSh s f = true → addB s f x = true → addF s f = f ∧ ∃ ls : List ByteArray, ls.length ≤ 262144 ∧ recV (rd s.data.toList) = ls.map Value.string ∧ recV (rd (addS s f x).data.toList) = (ls ++ [x]).map Value.string ∧ en (addS s f x).data.toList = (addS s f x).size ∧ okSh (addS s f x) (addF s f) = true) := by
  refine ⟨fun h => add_bad h, fun h hd => ?_, fun h hd => ?_⟩
  · have hf : fits s x = false := by
      unfold addB at hd
      rw [h, Bool.true_and] at hd
      exact hd
    exact ⟨(add_no h hf).1, (add_no h hf).2.1⟩
  · have hf : fits s x = true := by
      unfold addB at hd
      rw [h, Bool.true_and] at hd
      exact hd
    obtain ⟨e1, e2, _⟩ := add_yes h hf
    obtain ⟨ls, h1, h2, h3, h4, h5⟩ := add_part h hf
    rw [e1, e2]
    exact ⟨rfl, ls, h1, h2, h3, h4, h5⟩
theorem ok_nil : okSh ⟨#[]⟩ 0 = true := okSh_iff.2 ⟨Nat.zero_le _, Int.le_refl _, Int.le_refl _, rfl, rfl⟩

/-- two records more, in either order -/
theorem two_ways {s x y : ByteArray} {f : Int} (hd : addB s f x = true) :
    (addB (addS s f x) (addF s f) y = false → addS (addS s f x) (addF s f) y = addS s f x ∧ addF (addS s f x) (addF s f) = addF s f) ∧
    (addB (addS s f x) (addF s f) y = true → addB (addS s f y) (addF s f) x = true ∧ ∃ ls : List ByteArray, ls.length ≤ 262144 ∧
      recV (rd (addS (addS s f x) (addF s f) y).data.toList) = (ls ++ [x, y]).map Value.string ∧ recV (rd (addS (addS s f y) (addF s f) x).data.toList) = (ls ++ [y, x]).map Value.string) := by
  unfold addB at hd
  rw [Bool.and_eq_true] at hd
  obtain ⟨h, hf⟩ := hd
  obtain ⟨e1, e2, _⟩ := add_yes h hf
  obtain ⟨_, _, hk⟩ := add_law h hf
  rw [e1, e2]
  refine ⟨fun hd => ?_, fun hd => ?_⟩
  · have hf2 : fits (s ++ stS x) y = false := by
      unfold addB at hd
      rw [hk, Bool.true_and] at hd
      exact hd
    obtain ⟨a1, a2, _⟩ := add_no hk hf2
    exact ⟨a1, a2⟩
  · have hf2 : fits (s ++ stS x) y = true := by
      unfold addB at hd
      rw [hk, Bool.true_and] at hd
      exact hd
    obtain ⟨q1, q2, _, q4, ls, h1, h2, h3⟩ := two_part h hf hf2
    obtain ⟨a1, _, _⟩ := add_yes hk hf2
    obtain ⟨b1, _, _⟩ := add_yes h q1
    obtain ⟨c1, _, c3⟩ := add_yes q4 q2
    rw [a1, b1, c1, c3]
    exact ⟨rfl, ls, h1, h2, h3⟩

/-- a list of texts: its last two -/
theorem two_at {w0 w : World} {v : Value} {ls : List ByteArray} {x y : ByteArray} (h : ow.Own 9 w0 w v ((ls ++ [x, y]).map Value.string)) :
    ∃ g c, v = .slice (some ⟨g, 0, none⟩) (ls.length + 2) c ∧ w.cell? ⟨g, ls.length, none⟩ = some (.string x) ∧ w.cell? ⟨g, ls.length + 1, none⟩ = some (.string y) := by
  obtain ⟨A, c, rfl, hc⟩ := sees_of_own h
  have hl : (ls ++ [x, y]).length = ls.length + 2 := by simp
  rw [hl] at hc ⊢
  obtain ⟨g, rfl, _, hcell⟩ := hc (by omega)
  exact ⟨g, c, rfl, hcell _ _ (by simp), hcell _ _ (by simp)⟩
end Go.Proofs.YtapkfajgphkajaaGreatDoor.sh
