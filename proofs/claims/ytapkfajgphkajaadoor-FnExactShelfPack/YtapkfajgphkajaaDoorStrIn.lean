/-
  A list of texts that came in, in our words; contracts of the laws' helpers over such lists: laws.szStringS, laws.toStringS.
-/
import Derived.Test.YtapkfajgphkajaaDoorStrLists
import Derived.Test.YtapkfajgphkajaaDoorShelfTwo
import Derived.SliceStrings
import Derived.Lib.Hide
namespace Go.Proofs.YtapkfajgphkajaaDoor.si
open Go.ChangeShapes Go.WideShapes Go.ChangeAt Go.RowKit
open Go.Proofs.YtapkfajgphkajaaDoor.wd Go.Proofs.YtapkfajgphkajaaDoor.cp Go.Proofs.YtapkfajgphkajaaDoor.ow Go.Proofs.YtapkfajgphkajaaDoor.sl

/-- a row of texts that can be read -/
def InS (w : World) (A : Option Addr) (l : List ByteArray) : Prop :=
  0 < l.length → ∃ g o, A = some ⟨g, o, none⟩ ∧ g < w.heap.size ∧ ∀ i x, l[i]? = some x → w.cell? ⟨g, o + i, none⟩ = some (.string x)
theorem InS.later {w w' : World} {A : Option Addr} {l : List ByteArray} (h : InS w A l) (hB : Below w.heap.size w w') : InS w' A l := fun hn => by
  obtain ⟨g, o, rfl, hg, hc⟩ := h hn
  exact ⟨g, o, rfl, Nat.lt_of_lt_of_le hg hB.size, fun i x hx => (hB.cell (p := ⟨g, o + i, none⟩) hg).trans (hc i x hx)⟩

theorem cells_str : Tryd.prog.cellsOf 9 = 1 := by kernel_rfl
section
variable {H : Type} {enc : TypeId × Value → H} {w : World} {base : Nat} {spare : Nat → Bool} {held : Bool}
theorem ins_in {A : Option Addr} {len cap : Nat} {d : DataW H} {p : List MemPlace} (h : DataW.Trod enc Tryd.prog w base spare held 27 (.slice A len cap) d p) :
    ∃ l : List ByteArray, InS w A l ∧ l.length = len ∧ (∀ x ∈ l, x.size ≤ maxLen) ∧ len ≤ maxLen := by
  obtain ⟨fuel, hf⟩ := h
  rcases open_strings Tryd.underlying27 Tryd.underlying9 cells_str hf with ⟨hcs, _⟩ | ⟨a, len', cap', ss, hcs, _, hl, hm, hlen, _, hcell, hsz⟩
  · simp [Value.cells] at hcs
    obtain ⟨rfl, rfl, rfl⟩ := hcs
    exact ⟨[], fun h => absurd h (by simp), rfl, fun x hx => by simp at hx, by unfold maxLen; omega⟩
  · simp [Value.cells] at hcs
    obtain ⟨rfl, rfl, rfl⟩ := hcs
    have hle : len ≤ ss.length := by rw [hlen]; split <;> omega
    refine ⟨ss.take len, fun hn => ?_, by rw [List.length_take]; omega, fun x hx => hsz x (List.mem_of_mem_take hx), by omega⟩
    rw [List.length_take] at hn
    obtain ⟨g, o, spot⟩ := a
    have h0 := hcell 0 (by omega)
    have hspot : spot = none := by simpa [Addr.add] using World.cell?_spot h0
    subst hspot
    have e : ∀ j, (⟨g, o, none⟩ : Addr).add j = ⟨g, o + j, none⟩ := fun j => by unfold Addr.add; split <;> simp_all
    refine ⟨g, o, rfl, ?_, fun i x hx => ?_⟩
    · rcases Nat.lt_or_ge g w.heap.size with hlt | hge
      · exact hlt
      · rw [e] at h0
        simp [World.cell?, Array.getElem?_eq_none hge] at h0
    · have hi : i < len := by
        have := (List.getElem?_eq_some_iff.1 hx).1
        rw [List.length_take] at this
        omega
      rw [List.getElem?_take_of_lt hi] at hx
      have := hcell i (by omega)
      rw [e] at this
      rw [this, List.getD_eq_getElem?_getD, hx]
      rfl
end

/-- what is left of a bound behind a list's length and its texts' -/
def sum (l : List ByteArray) : Nat := (l.map fun x => x.size).sum
theorem sum_take {l : List ByteArray} {k : Nat} (h : k < l.length) : sum (l.take (k + 1)) = sum (l.take k) + l[k].size := by
  unfold sum
  rw [List.take_succ_eq_append_getElem h, List.map_append, List.sum_append]
  simp
theorem sum_le (l : List ByteArray) (k : Nat) : sum (l.take k) ≤ sum l := by
  have e : sum l = sum (l.take k) + sum (l.drop k) := by
    unfold sum
    rw [← List.sum_append, ← List.map_append, List.take_append_drop]
  omega
/-- it fits, or -1 -/
def SzPost (w : World) (b : Int) (l : List ByteArray) (e : Ending) (w' : World) : Prop := ((l.length + sum l : Nat) : Int) ≤ b ∧ e = .returned (.int .i64 (b - (l.length + sum l : Nat))) ∧ w = w' ∨ b < ((l.length + sum l : Nat) : Int) ∧ e = .returned (.int .i64 (-1)) ∧ w = w'

set_option maxRecDepth 100000 in
set_option maxHeartbeats 1000000 in
theorem sz_any (A : Option Addr) (c : Nat) (l : List ByteArray) (w : World) (h : InS w A l) (hm : l.length ≤ maxLen) (hz : ∀ x ∈ l, x.size ≤ maxLen) (b : Int) (b0 : 0 ≤ b) (b1 : b ≤ 1048576) :
    Calls Tryd.prog 34 #[.slice A l.length c, .int .i64 b] w (SzPost w b l) := by
  unfold maxLen at hm
  by_cases hb : b - (l.length : Int) < 0
  · have R : Hid (b < ((l.length + sum l : Nat) : Int)) := by show _ < _; omega
    go_enter Tryd.func34, Tryd.ntmps34
    go_wp2
    go_ret
    exact .inr ⟨R.out, rfl, rfl⟩
  · go_enter Tryd.func34, Tryd.ntmps34
    go_wp2
    go_loop [1, 5] (fun a i => ∃ k : Nat, k ≤ l.length ∧ i = .int .i64 k ∧ a = .int .i64 (b - l.length - (sum (l.take k) : Nat)) ∧ ((l.length + sum (l.take k) : Nat) : Int) ≤ b) (fun _ i => (l.length + 1 : Nat) - (intOf i).toNat)
    case atStart => exact ⟨0, by omega, rfl, by simp [sum], by simp [sum]; omega⟩
    case round =>
      obtain ⟨k, hk, rfl, rfl, hle⟩ := hrel
      by_cases hkl : k < l.length
      · obtain ⟨g, o, rfl, hg, hc⟩ := h (by omega)
        have e1 := hc k l[k] (List.getElem?_eq_getElem hkl)
        have HT := Lib.hid (sum_take hkl)
        have hxz := hz l[k] (List.getElem_mem hkl)
        unfold maxLen at hxz
        have HL := Lib.hid (sum_le l (k + 1))
        generalize l[k] = x at *
        generalize sum (l.take k) = t at *
        have hk0 : (0 : Int) ≤ (k : Int) := by omega
        have hk1 : (k : Int) < (l.length : Int) := by omega
        by_cases hneg : b - (l.length : Int) - (t : Nat) - (x.size : Nat) < 0
        · have R : Hid (b < ((l.length + sum l : Nat) : Int)) := by
            show _ < _
            have := HL.out
            rw [HT.out] at this
            omega
          clear hc h hz HT HL
          go_wp2
          go_ret
          exact .inr ⟨R.out, rfl, rfl⟩
        · have R : Hid (((l.length + sum (l.take (k + 1)) : Nat) : Int) ≤ b) := by
            show _ ≤ _
            rw [HT.out]
            omega
          have R2 : Hid (b - (l.length : Int) - (t : Nat) - (x.size : Nat) = b - l.length - (sum (l.take (k + 1)) : Nat)) := by
            show _ = _
            rw [HT.out]
            omega
          clear hc h hz HT HL
          go_wp2
          go_round
          case rel => exact ⟨k + 1, by omega, by go_num, by rw [← R2.out], R.out⟩
          case measure => simp [intOf]; omega
      · have hke : l.take k = l := List.take_of_length_le (by omega)
        rw [hke] at hle ⊢
        have R : Hid (b - (l.length : Int) - (sum l : Nat) = b - ((l.length + sum l : Nat) : Int)) := by show _ = _; omega
        have HL := Lib.hid hle
        clear hle hke
        go_wp2
        go_ret
        exact .inl ⟨HL.out, by rw [← R.out]; rfl, rfl⟩
end Go.Proofs.YtapkfajgphkajaaDoor.si
