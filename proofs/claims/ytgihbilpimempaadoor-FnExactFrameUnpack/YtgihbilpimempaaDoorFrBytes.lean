/-
  Contracts of the laws' helpers over bytes: laws.toByteS, eqByteS (where both are one), markByteS, heldByteS.
-/
import Derived.Test.YtgihbilpimempaaDoorFrRow
import Derived.Deep.QuietTactic
import Derived.BigQuiet
namespace Go.Proofs.YtgihbilpimempaaDoor.fr
open Go.ChangeShapes Go.WideShapes Go.ChangeAt Go.RowKit
open Go.Proofs.YtgihbilpimempaaDoor.nb Go.Proofs.YtgihbilpimempaaDoor.wd Go.Proofs.YtgihbilpimempaaDoor.cp Go.Proofs.YtgihbilpimempaaDoor.ow

/-- the first k bytes lie in block g, which has room for n -/
def FillB (g n : Nat) (l : List UInt8) (k : Nat) (w : World) : Prop :=
  ∃ cur, Blk w g 5 cur ∧ cur.size = n ∧ ∀ i, i < k → cur[i]? = some (.int .u8 (vl l i))
theorem FillB.put {g n : Nat} {l : List UInt8} {k : Nat} {w : World} (h : FillB g n l k w) (hk : k < n) : FillB g n l (k + 1) (w.setCell ⟨g, k, none⟩ (.int .u8 (vl l k))) := by
  obtain ⟨cur, h1, h2, h3⟩ := h
  refine ⟨_, h1.put _ _, by simpa using h2, fun i hi => ?_⟩
  rw [Array.getElem?_setIfInBounds]
  by_cases e : k = i
  · rw [if_pos e, if_pos (by omega), e]
  · rw [if_neg e]; exact h3 i (by omega)
theorem FillB.cells {g n : Nat} {l : List UInt8} {k : Nat} {w : World} (h : FillB g n l k w) (hk : k < n) : (∃ x, w.cell? ⟨g, k, none⟩ = some x) ∧ w.frozen? ⟨g, k, none⟩ = false := by
  obtain ⟨cur, h1, h2, h3⟩ := h
  exact ⟨⟨cur[k]'(by omega), by rw [h1.cell]; exact Array.getElem?_eq_getElem (by omega)⟩, h1.frozen _⟩
theorem bv_vl (l : List UInt8) {i : Nat} (h : i < l.length) : (l.map bv)[i]? = some (.int .u8 (vl l i)) := by
  rw [List.getElem?_map, List.getElem?_eq_getElem h]
  unfold bv vl
  rw [List.getD_eq_getElem?_getD, List.getElem?_eq_getElem h]
  rfl
theorem FillB.own {g : Nat} {l : List UInt8} {w0 w : World} (h : FillB g l.length l l.length w) (hg : w0.heap.size ≤ g) (hB : Below w0.heap.size w0 w) (hl : l.length ≤ maxLen) : Own 5 w0 w (.slice (some ⟨g, 0, none⟩) l.length l.length) (l.map bv) := by
  obtain ⟨cur, h1, h2, h3⟩ := h
  have hf : cur.toList = l.map bv := by
    apply List.ext_getElem?
    intro i
    by_cases hi : i < l.length
    · rw [bv_vl l hi, Array.getElem?_toList]
      exact h3 i hi
    · rw [List.getElem?_eq_none (by simp; omega), List.getElem?_eq_none (by simp; omega)]
  refine ⟨⟨by simp, .inr ⟨g, l.length, cur, by simp, hg, h1, by simp, hl, by omega, ?_⟩⟩, hB⟩
  rw [hf, List.take_of_length_le (by simp)]

def CopyPost (w : World) (l : List UInt8) (e : Ending) (w' : World) : Prop := ∃ A c, e = .returned (.slice A l.length c) ∧ RowB w' A l ∧ Own 5 w w' (.slice A l.length c) (l.map bv)

set_option maxRecDepth 100000 in
set_option maxHeartbeats 1600000 in
theorem toB_any (w : World) (A : Option Addr) (c : Nat) (l : List UInt8) (h : RowB w A l) (hl : l.length ≤ 1048576) : Calls Tryd.prog 16 #[.slice A l.length c] w (CopyPost w l) := by
  obtain ⟨i0, hi, hz0, hz1, hz2⟩ := info_parts infoByte
  have HS := Lib.hid h
  clear h
  go_enter Tryd.func16, Tryd.ntmps16
  go_wp2_with (at_make; refine wpList_make_full _ rfl _ _ 22 rfl w.heap.size 5 i0 _ 1 Tryd.underlying22 hi hz0 hz1 _ _ _ _ l.length rfl rfl rfl rfl (by rw [hz2]; omega) (by unfold maxLen; omega) (Nat.le_refl _) ?_)
  intro w1 hown hgrow
  have hF : FillB w.heap.size l.length l 0 w1 ∧ Below w.heap.size w w1 := by
    refine ⟨?_, hgrow.os, hgrow.tape, hgrow.output, hgrow.size, fun k hk => hgrow.block k hk (by simp)⟩
    rcases hown.2 with ⟨e, _⟩ | ⟨g, cap, cur, e, _, hh, _, _, hs, _⟩
    · cases e
    · injection e with e1 e2 e3
      injection e1 with e1
      injection e1 with e1
      subst e1
      exact ⟨cur, hh, by omega, fun i hi => absurd hi (by omega)⟩
  have HF := Lib.hid hF
  clear hF hown hgrow
  go_wp2
  go_loopw [4] (fun i wr => ∃ k : Nat, k ≤ l.length ∧ i = .int .i64 k ∧ FillB w.heap.size l.length l k wr ∧ Below w.heap.size w wr) (fun i _ => (l.length + 1 : Nat) - (intOf i).toNat)
  case atStart => exact ⟨0, by omega, rfl, HF.out⟩
  case round =>
    obtain ⟨k, hk, rfl, hF, hB⟩ := hrel
    clear HF
    by_cases hkl : k < l.length
    · obtain ⟨g, o, rfl, hg, hcell⟩ := HS.out.later hB (by omega)
      have t0 := hcell k hkl
      have hk1 : (k : Int) < (l.length : Int) := by omega
      obtain ⟨⟨x0, c0⟩, f0⟩ := hF.cells hkl
      have R := Lib.hid (hF.put hkl)
      have HB3 : Hid (Below w.heap.size w (wr.setCell ⟨w.heap.size, k, none⟩ (.int .u8 (vl l k)))) := hB.setCell (p := ⟨w.heap.size, k, none⟩) (Nat.le_refl _) _
      generalize vl l k = y at t0 R HB3
      clear hF hB hcell
      go_wp2
      go_roundw
      case rel => exact ⟨k + 1, by omega, by go_num, R.out, HB3.out⟩
      case measure => simp [intOf]; omega
    · obtain rfl : k = l.length := by omega
      have HO := Lib.hid (hF.own (Nat.le_refl _) hB (by unfold maxLen; omega))
      clear hF hB
      go_wp2
      go_ret
      obtain ⟨A', c', e, hr⟩ := own_row HO.out
      injection e with e1 e2 e3
      exact ⟨_, _, rfl, by rw [e1]; exact hr, HO.out⟩

def TrueDrew (w : World) (e : Ending) (w' : World) : Prop := e = .returned (.bool true) ∧ ∃ n, w' = w.drewN n
set_option maxRecDepth 100000 in
set_option maxHeartbeats 1000000 in
theorem eqB_same (w : World) (A A' : Option Addr) (c c' : Nat) (l : List UInt8) (h : RowB w A l) (h' : RowB w A' l) (hl : l.length ≤ 1048576) :
    Calls Tryd.prog 18 #[.slice A l.length c, .slice A' l.length c'] w (TrueDrew w) := by
  have H := Lib.hid h
  have H' := Lib.hid h'
  clear h h'
  go_enter Tryd.func18, Tryd.ntmps18
  go_wp2
  go_loopw [5] (fun i wr => ∃ k q : Nat, k ≤ l.length ∧ i = .int .i64 k ∧ wr = w.drewN q) (fun i _ => (l.length + 1 : Nat) - (intOf i).toNat)
  case atStart => exact ⟨0, 0, by omega, rfl, rfl⟩
  case round =>
    obtain ⟨k, q, hk, rfl, rfl⟩ := hrel
    by_cases hkl : k < l.length
    · obtain ⟨g, o, rfl, _, hc⟩ := H.out (by omega)
      obtain ⟨g', o', rfl, _, hc'⟩ := H'.out (by omega)
      have t0 : w.cell? ⟨g, o + k, none⟩ = some (.int .u8 (vl l k)) := hc k hkl
      have t1 : w.cell? ⟨g', o' + k, none⟩ = some (.int .u8 (vl l k)) := hc' k hkl
      have hk0 : (0 : Int) ≤ (k : Int) := by omega
      have hk1 : (k : Int) < (l.length : Int) := by omega
      generalize vl l k = y at t0 t1
      have hne : (y != y) = false := by simp
      clear hc hc'
      go_wp2
      go_quiet (fail)
      go_wp2
      go_roundw
      case rel => exact ⟨k + 1, q + nq, by omega, by go_num, rfl⟩
      case measure => simp [intOf]; omega
    · obtain rfl : k = l.length := by omega
      go_wp2
      go_ret
      exact ⟨rfl, q, rfl⟩

/-- the bytes k, k + 1 .. -/
def mkB (k n : Nat) : List UInt8 := (List.range n).map fun i => b8 ((k + i : Nat) : Int)
theorem mkB_len (k n : Nat) : (mkB k n).length = n := by simp [mkB]
theorem mkB_at {k n i : Nat} (h : i < n) (hk : k + i ≤ 255) : vl (mkB k n) i = ((k + i : Nat) : Int) := by
  unfold vl mkB
  rw [List.getD_eq_getElem?_getD, List.getElem?_map, List.getElem?_range h, Option.map_some, Option.getD_some, b8_nat (by omega) (by omega)]

/-- nothing old has changed but the slice's own block -/
def Touched (v : Value) (w w' : World) : Prop :=
  w'.os = w.os ∧ w'.tape = w.tape ∧ w'.output = w.output ∧ w.heap.size ≤ w'.heap.size ∧ ∀ b, b < w.heap.size → some b ≠ v.ownBlock → w'.heap[b]? = w.heap[b]?
theorem Touched.refl (v : Value) (w : World) : Touched v w w := ⟨rfl, rfl, rfl, Nat.le_refl _, fun _ _ _ => rfl⟩
theorem Touched.below {v : Value} {w w' : World} (h : Touched v w w') {B : Nat} (hB : ∀ g, v.ownBlock = some g → B ≤ g) (hw : B ≤ w.heap.size) : Below B w w' :=
  ⟨h.1, h.2.1, h.2.2.1, h.2.2.2.1, fun k hk => h.2.2.2.2 k (by omega) (fun e => by have := hB k e.symm; omega)⟩
theorem Touched.set {g n cap : Nat} {w w1 : World} (h : Touched (.slice (some ⟨g, 0, none⟩) n cap) w w1) (i : Nat) (x : Value) : Touched (.slice (some ⟨g, 0, none⟩) n cap) w (w1.setCell ⟨g, i, none⟩ x) :=
  ⟨h.1, h.2.1, h.2.2.1, by simpa using h.2.2.2.1, fun b hlt hne => (Below.heap_setCell w1 ⟨g, i, none⟩ x b (fun e => hne (by subst e; rfl))).trans (h.2.2.2.2 b hlt hne)⟩

def MarkPost (w : World) (A : Option Addr) (n c k : Nat) (e : Ending) (w' : World) : Prop :=
  e = .returned (.int .i64 ((k + n : Nat) : Int)) ∧ RowB w' A (mkB k n) ∧ Touched (.slice A n c) w w'
def MRel (w : World) (g n cap k i : Nat) (wr : World) : Prop :=
  (∃ cur, Blk wr g 5 cur ∧ cur.size = cap ∧ ∀ j, j < i → cur[j]? = some (.int .u8 ((k + j : Nat) : Int))) ∧ Touched (.slice (some ⟨g, 0, none⟩) n cap) w wr
theorem mrel_on {w : World} {g n cap k i : Nat} {wr : World} (h : MRel w g n cap k i wr) (hi : i < cap) : MRel w g n cap k (i + 1) (wr.setCell ⟨g, i, none⟩ (.int .u8 ((k + i : Nat) : Int))) := by
  obtain ⟨⟨cur, hB, hs, hc⟩, t⟩ := h
  refine ⟨⟨_, hB.put i _, by simpa using hs, fun j hj => ?_⟩, t.set i _⟩
  rw [Array.getElem?_setIfInBounds]
  by_cases e : i = j
  · rw [if_pos e, if_pos (by omega), e]
  · rw [if_neg e]; exact hc j (by omega)

end Go.Proofs.YtgihbilpimempaaDoor.fr
