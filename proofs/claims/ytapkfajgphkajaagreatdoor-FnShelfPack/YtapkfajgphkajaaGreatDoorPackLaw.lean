/-
  Packing a shelf, in plain words.
-/
import Derived.Test.YtapkfajgphkajaaGreatDoorCutLaw
namespace Go.Proofs.YtapkfajgphkajaaGreatDoor.sh
open Go.ChangeShapes Go.WideShapes Go.ChangeAt Go.RowKit
open Go.Proofs.YtapkfajgphkajaaGreatDoor.wd Go.Proofs.YtapkfajgphkajaaGreatDoor.ow Go.Proofs.YtapkfajgphkajaaGreatDoor.sl

theorem packS_size {s : ByteArray} {f : Int} {xs : List ByteArray} (h : s.size ≤ 6000) : (packS s f xs).size ≤ 6000 := by
  unfold packS
  by_cases h1 : okSh s f = true
  · rw [if_pos h1]
    by_cases h2 : packOk xs = true
    · rw [if_pos h2]
      unfold packOk at h2
      rw [Bool.and_eq_true] at h2
      have := of_decide_eq_true h2.2
      omega
    · rw [if_neg h2]; exact h
  · rw [if_neg h1]; simp [ByteArray.size]
theorem pack_did {s : ByteArray} {f : Int} {xs : List ByteArray} (h : packB s f xs = true) :
    recV (rd (packS s f xs).data.toList) = xs.map Value.string ∧ packF s f xs = ((packS s f xs).size : Nat) ∧ okSh (packS s f xs) (packF s f xs) = true := by
  unfold packB at h
  rw [Bool.and_eq_true] at h
  obtain ⟨e1, e2, _⟩ := pack_yes h.1 h.2
  obtain ⟨h1, h2⟩ := pack_law h.2
  rw [e1, e2]
  refine ⟨?_, rfl, h2⟩
  rw [h1]
  unfold recV
  rw [List.map_map]
  exact List.map_congr_left fun x _ => by rw [Function.comp_apply, dc.str_data]
end Go.Proofs.YtapkfajgphkajaaGreatDoor.sh
