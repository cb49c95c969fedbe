/-
  Contract of laws.toStringS: a copy of a list of texts, the call's own.
-/
import Derived.Test.YtapkfajgphkajaaDoorStrIn
import Derived.OwnWalk
namespace Go.Proofs.YtapkfajgphkajaaDoor.si
open Go.ChangeShapes Go.WideShapes Go.ChangeAt Go.RowKit
open Go.Proofs.YtapkfajgphkajaaDoor.wd Go.Proofs.YtapkfajgphkajaaDoor.cp Go.Proofs.YtapkfajgphkajaaDoor.ow Go.Proofs.YtapkfajgphkajaaDoor.sl

/-- the first k texts lie in block g, which has room for n -/
def Fill (g n : Nat) (l : List ByteArray) (k : Nat) (w : World) : Prop :=
  ∃ cur, Blk w g 9 cur ∧ cur.size = n ∧ ∀ i x, i < k → l[i]? = some x → cur[i]? = some (.string x)
theorem Fill.put {g n : Nat} {l : List ByteArray} {k : Nat} {w : World} (h : Fill g n l k w) (hk : k < n) {x : ByteArray} (hx : l[k]? = some x) : Fill g n l (k + 1) (w.setCell ⟨g, k, none⟩ (.string x)) := by
  obtain ⟨cur, h1, h2, h3⟩ := h
  refine ⟨_, h1.put _ _, by simpa using h2, fun i y hi hy => ?_⟩
  rw [Array.getElem?_setIfInBounds]
  by_cases e : i = k
  · subst e
    rw [hx] at hy
    injection hy with hy
    subst hy
    simp
    omega
  · rw [if_neg (fun h => e h.symm)]; exact h3 i y (by omega) hy
theorem Fill.cells {g n : Nat} {l : List ByteArray} {k : Nat} {w : World} (h : Fill g n l k w) (hk : k < n) : (∃ x, w.cell? ⟨g, k, none⟩ = some x) ∧ w.frozen? ⟨g, k, none⟩ = false := by
  obtain ⟨cur, h1, h2, h3⟩ := h
  exact ⟨⟨cur[k]'(by omega), by rw [h1.cell]; exact Array.getElem?_eq_getElem (by omega)⟩, h1.frozen _⟩
theorem Fill.own {g : Nat} {l : List ByteArray} {w0 w : World} (h : Fill g l.length l l.length w) (hg : w0.heap.size ≤ g) (hB : Below w0.heap.size w0 w) (hl : l.length ≤ maxLen) : Own 9 w0 w (.slice (some ⟨g, 0, none⟩) l.length l.length) (l.map Value.string) := by
  obtain ⟨cur, h1, h2, h3⟩ := h
  have hf : cur.toList = l.map Value.string := by
    apply List.ext_getElem?
    intro i
    by_cases hi : i < l.length
    · rw [List.getElem?_map, List.getElem?_eq_getElem hi, Option.map_some, Array.getElem?_toList]
      exact h3 i _ hi (List.getElem?_eq_getElem hi)
    · rw [List.getElem?_eq_none (by simp; omega), List.getElem?_eq_none (by simp; omega)]
  refine ⟨⟨by simp, .inr ⟨g, l.length, cur, by simp, hg, h1, by simp, hl, by omega, ?_⟩⟩, hB⟩
  rw [hf, List.take_of_length_le (by simp)]

def CopyPost (w : World) (l : List ByteArray) (e : Ending) (w' : World) : Prop := ∃ v, e = .returned v ∧ Own 9 w w' v (l.map Value.string)

set_option maxRecDepth 100000 in
set_option maxHeartbeats 1600000 in
theorem copy_any (w : World) (A : Option Addr) (c : Nat) (l : List ByteArray) (h : InS w A l) (hl : l.length ≤ 1048576) : Calls Tryd.prog 36 #[.slice A l.length c] w (CopyPost w l) := by
  obtain ⟨i0, hi, hz0, hz1, hz2⟩ := info_parts infoStr
  have HS := Lib.hid h
  clear h
  go_enter Tryd.func36, Tryd.ntmps36
  go_wp2_with (at_make; refine wpList_make_full _ rfl _ _ 27 rfl w.heap.size 9 i0 _ 1 Tryd.underlying27 hi hz0 hz1 _ _ _ _ l.length rfl rfl rfl rfl (by rw [hz2]; omega) (by unfold maxLen; omega) (Nat.le_refl _) ?_)
  intro w1 hown hgrow
  have hF : Fill w.heap.size l.length l 0 w1 ∧ Below w.heap.size w w1 := by
    refine ⟨?_, hgrow.os, hgrow.tape, hgrow.output, hgrow.size, fun k hk => hgrow.block k hk (by simp)⟩
    rcases hown.2 with ⟨e, _⟩ | ⟨g, cap, cur, e, _, hh, _, _, hs, _⟩
    · cases e
    · injection e with e1 e2 e3
      injection e1 with e1
      injection e1 with e1
      subst e1
      exact ⟨cur, hh, by omega, fun i m hi => absurd hi (by omega)⟩
  have HF := Lib.hid hF
  clear hF hown hgrow
  go_wp2
  go_loopw [4] (fun i wr => ∃ k : Nat, k ≤ l.length ∧ i = .int .i64 k ∧ Fill w.heap.size l.length l k wr ∧ Below w.heap.size w wr) (fun i _ => (l.length + 1 : Nat) - (intOf i).toNat)
  case atStart => exact ⟨0, by omega, rfl, HF.out⟩
  case round =>
    obtain ⟨k, hk, rfl, hF, hB⟩ := hrel
    clear HF
    by_cases hkl : k < l.length
    · have hx : l[k]? = some l[k] := List.getElem?_eq_getElem hkl
      obtain ⟨g, o, rfl, hg, hcell⟩ := HS.out.later hB (by omega)
      have t0 := hcell k _ hx
      generalize l[k] = x at hx t0
      have hk1 : (k : Int) < (l.length : Int) := by omega
      obtain ⟨⟨x0, c0⟩, f0⟩ := hF.cells hkl
      have R := Lib.hid (hF.put hkl hx)
      have HB3 : Hid (Below w.heap.size w (wr.setCell ⟨w.heap.size, k, none⟩ (.string x))) := hB.setCell (p := ⟨w.heap.size, k, none⟩) (Nat.le_refl _) _
      clear hF hB hx hcell
      go_wp2
      go_roundw
      case rel => exact ⟨k + 1, by omega, by go_num, R.out, HB3.out⟩
      case measure => simp [intOf]; omega
    · obtain rfl : k = l.length := by omega
      have R := Lib.hid (hF.own (Nat.le_refl _) hB (by unfold maxLen; omega))
      clear hF hB
      go_wp2
      go_ret
      exact ⟨_, rfl, R.out⟩
end Go.Proofs.YtapkfajgphkajaaDoor.si
