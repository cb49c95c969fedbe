/-
  A slice of bytes that came in, in our words.
-/
import Derived.Test.YtgihbilpimempaaDoorPick
namespace Go.Proofs.YtgihbilpimempaaDoor.dr
open Go.ChangeShapes Go.WideShapes Go.ChangeAt Go.RowKit
open Go.Proofs.YtgihbilpimempaaDoor.wd Go.Proofs.YtgihbilpimempaaDoor.pk

/-- what the shells say of a slice of bytes that came in, in our words -/
theorem bytes_of_row {w : World} {a : Option Addr} {len cap : Nat} {zs : List Int}
    (h : (a = none ∧ len = 0 ∧ cap = 0 ∧ zs = []) ∨ ∃ x, a = some x ∧ len ≤ cap ∧ cap ≤ maxLen ∧ zs.length = cap ∧ (∀ i, i < zs.length → w.cell? (x.add i) = some (.int .u8 (zs.getD i 0))) ∧ ∀ n ∈ zs, (Lit.int .u8 n).wf = true) :
    Bytes w w.heap.size a len ∧ len ≤ cap ∧ cap ≤ maxLen := by
  rcases h with ⟨rfl, rfl, rfl, rfl⟩ | ⟨x, rfl, hl, hm, hz, hc, hwf⟩
  · exact ⟨fun h => absurd h (by omega), Nat.le_refl _, by unfold maxLen; omega⟩
  · refine ⟨fun hn => ?_, hl, hm⟩
    obtain ⟨g, o, spot⟩ := x
    have h0 := hc 0 (by omega)
    have hspot : spot = none := by simpa [Addr.add] using World.cell?_spot h0
    subst hspot
    have e : ∀ j, (⟨g, o, none⟩ : Addr).add j = ⟨g, o + j, none⟩ := fun j => by
      unfold Addr.add; split <;> simp_all
    refine ⟨g, o, rfl, ?_, fun j hj => ?_⟩
    · rcases Nat.lt_or_ge g w.heap.size with hlt | hge
      · exact hlt
      · rw [e] at h0
        have : w.heap[g]? = none := Array.getElem?_eq_none hge
        simp [World.cell?, this] at h0
    · have hj' : j < zs.length := by omega
      have hcell := hc j hj'
      rw [e] at hcell
      have hd : zs.getD j 0 = zs[j] := by simp [List.getD, hj']
      have hw := hwf (zs.getD j 0) (hd ▸ List.getElem_mem hj')
      have hx : 0 ≤ zs.getD j 0 ∧ zs.getD j 0 ≤ 255 := by simpa [Lit.wf, IntKind.min, IntKind.max, IntKind.signed, IntKind.bits] using hw
      exact ⟨_, hcell, hx.1, hx.2⟩

theorem Bytes_later {w w1 : World} {A : Option Addr} {n : Nat} (h : Bytes w w.heap.size A n) (hb : Below w.heap.size w w1) : Bytes w1 w1.heap.size A n := fun hn => by
  obtain ⟨g, o, e, hg, hc⟩ := (h.below hb) hn
  exact ⟨g, o, e, Nat.lt_of_lt_of_le hg hb.size, hc⟩

end Go.Proofs.YtgihbilpimempaaDoor.dr
