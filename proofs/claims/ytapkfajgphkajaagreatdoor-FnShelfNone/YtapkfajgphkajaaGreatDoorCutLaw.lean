/-
  Reading a beginning of a log, in plain words: the first ones of the same records.
-/
import Derived.Test.YtapkfajgphkajaaGreatDoorLawPlain
import Derived.Test.YtapkfajgphkajaaGreatDoorStrLists
import Derived.Test.YtapkfajgphkajaaGreatDoorSShRead
namespace Go.Proofs.YtapkfajgphkajaaGreatDoor.sh
open Go.ChangeShapes Go.WideShapes Go.ChangeAt Go.RowKit
open Go.Proofs.YtapkfajgphkajaaGreatDoor.wd Go.Proofs.YtapkfajgphkajaaGreatDoor.ow Go.Proofs.YtapkfajgphkajaaGreatDoor.sl

theorem cut_part {s : ByteArray} (n : Nat) : ∃ (j : Nat) (k : Nat), j ≤ ((rd s.data.toList).map dc.str).length ∧ k ≤ n ∧ recV (rd (s.extract 0 n).data.toList) = (((rd s.data.toList).map dc.str).take j).map Value.string ∧ en (s.extract 0 n).data.toList = k := by
  obtain ⟨z1, z2, z3⟩ := cut_law (l := s.data.toList) n
  have he : (s.extract 0 n).data.toList = s.data.toList.take n := ext_take s n
  rw [he]
  generalize s.data.toList.take n = t at z1 z2 z3
  refine ⟨(rd t).length, en t, by rw [List.length_map]; exact z2, z1, ?_, rfl⟩
  generalize (rd t).length = j at z3
  rw [z3]
  simp only [recV, List.map_take, List.map_map]
  rfl
theorem recV_str (l : List (List UInt8)) : recV l = (l.map dc.str).map Value.string := by simp [recV]
theorem rd_few {s : ByteArray} (h : s.size ≤ 1048576) : ((rd s.data.toList).map dc.str).length ≤ 262144 := by
  rw [List.length_map]
  have h2 := lg_count (rd_spec s.data.toList).1
  have h3 := en_le s.data.toList
  unfold en at h3
  rw [← Lib.size_eq] at h3
  omega
/-- the first ones of a list of texts -/
theorem sees_take {w : World} {A : Option Addr} {n c : Nat} {l : List ByteArray} (h : SeesS w (.slice A n c) l) {j : Nat} (hj : j ≤ l.length) : SeesS w (.slice A j c) (l.take j) := by
  obtain ⟨A', c', e, hc⟩ := h
  injection e with e1 e2 e3
  subst e1; subst e2; subst e3
  have hlen : (l.take j).length = j := by rw [List.length_take]; omega
  refine ⟨A, c, by rw [hlen], fun hn => ?_⟩
  rw [hlen] at hn
  obtain ⟨g, rfl, hg, hcell⟩ := hc (by omega)
  refine ⟨g, rfl, hg, fun i x hx => hcell i x ?_⟩
  obtain ⟨hi, _⟩ := List.getElem?_eq_some_iff.1 hx
  rw [hlen] at hi
  rw [List.getElem?_take_of_lt hi] at hx
  exact hx
theorem at_nat {a b : Int} {n : Nat} (ha : 0 ≤ a) (hb : 0 ≤ b) (ha' : a ≤ 255) (hb' : b ≤ 255) : ∃ k : Nat, k ≤ n ∧ (a * 256 + b).tmod ((n : Int) + 1) = (k : Int) := by
  refine ⟨((a * 256 + b).toNat % (n + 1)), by exact Nat.le_of_lt_succ (Nat.mod_lt _ (Nat.succ_pos n)), ?_⟩
  rw [Int.tmod_eq_emod_of_nonneg (by omega)]
  have : (a * 256 + b) = ((a * 256 + b).toNat : Int) := by omega
  rw [this]
  rfl
end Go.Proofs.YtapkfajgphkajaaGreatDoor.sh
