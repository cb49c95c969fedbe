/-
  Reading a text behind a proper log, in plain words; an empty list of texts of the call's own.
-/
import Derived.Test.YtapkfajgphkajaaGreatDoorCutLaw
import Derived.Test.YtapkfajgphkajaaGreatDoorAppendS
namespace Go.Proofs.YtapkfajgphkajaaGreatDoor.sh
open Go.ChangeShapes Go.WideShapes Go.ChangeAt Go.RowKit
open Go.Proofs.YtapkfajgphkajaaGreatDoor.wd Go.Proofs.YtapkfajgphkajaaGreatDoor.ow Go.Proofs.YtapkfajgphkajaaGreatDoor.sl

theorem app_part {s b : ByteArray} {f : Int} (h : okSh s f = true) : ∃ ls : List ByteArray, ls.length ≤ 262144 ∧ recV (rd s.data.toList) = ls.map Value.string ∧ en s.data.toList = s.size ∧
    recV (rd (s ++ b).data.toList) = (ls ++ (rd b.data.toList).map dc.str).map Value.string ∧ en (s ++ b).data.toList = s.size + en b.data.toList := by
  obtain ⟨m, rfl, om, os, oe, _⟩ := ok_nat h
  obtain ⟨r1, r2⟩ := rd_app (b := b.data.toList) (show en s.data.toList = s.data.toList.length by rw [oe, Lib.size_eq])
  refine ⟨(rd s.data.toList).map dc.str, rd_few (by omega), recV_str _, oe, ?_, ?_⟩
  · rw [app_data, r1, recV_str, List.map_append]
  · rw [app_data, r2, oe]
theorem en_few {b : ByteArray} : en b.data.toList ≤ b.size := by
  have := en_le b.data.toList
  rw [← Lib.size_eq] at this
  exact this
theorem own_none (w : World) : Own 9 w (w.alloc (.cells #[] 9)) (.slice (some ⟨w.heap.size, 0, none⟩) 0 0) [] :=
  ⟨⟨rfl, .inr ⟨w.heap.size, 0, #[], rfl, Nat.le_refl _, Blk.new w 9 #[], Nat.le_refl _, by unfold maxLen; omega, rfl, rfl⟩⟩, (Below.refl _ _).alloc (Nat.le_refl _) _⟩
end Go.Proofs.YtapkfajgphkajaaGreatDoor.sh
