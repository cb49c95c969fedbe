/-
  A list of texts of a call's own: what its slice looks like, the capacity too.
-/
import Derived.Test.YtapkfajgphkajaaDoorStrLists
namespace Go.Proofs.YtapkfajgphkajaaDoor.sl
open Go.ChangeShapes Go.WideShapes Go.ChangeAt Go.RowKit
open Go.Proofs.YtapkfajgphkajaaDoor.wd Go.Proofs.YtapkfajgphkajaaDoor.ow
theorem own_cap {w0 w : World} {v : Value} {l : List ByteArray} (h : Own 9 w0 w v (l.map Value.string)) :
    (v = .slice none 0 0 ∧ l = []) ∨ ∃ g c, v = .slice (some ⟨g, 0, none⟩) l.length c ∧ l.length ≤ c ∧ c ≤ 9223372036854775807 := by
  rcases h.1.2 with ⟨rfl, hn⟩ | ⟨g, cap, cur, rfl, hb, hh, hn, hm, hs, ht⟩
  · rw [List.length_map] at hn
    exact .inl ⟨rfl, List.eq_nil_of_length_eq_zero hn⟩
  · rw [List.length_map] at hn
    exact .inr ⟨g, cap, by rw [List.length_map], hn, hm⟩
end Go.Proofs.YtapkfajgphkajaaDoor.sl
