/-
  Contracts of the laws' own helpers over lists of encoded blocks that came in: toMixedS, eqMixed, eqMixedS, markMixedS.
-/
import Derived.Test.YtokajeomojlinaaExactL
import Derived.OwnWalk
import Derived.Deep.RegionHeld3
namespace Go.Proofs.Ytokajeomojlinaa.ls
open Go.ChangeShapes Go.WideShapes Go.ChangeAt Go.RowKit
open Go.Proofs.Ytokajeomojlinaa.wd Go.Proofs.Ytokajeomojlinaa.cp Go.Proofs.Ytokajeomojlinaa.mp Go.Proofs.Ytokajeomojlinaa.pp Go.Proofs.Ytokajeomojlinaa.ow

/-- the first k blocks lie in block g, which has room for n -/
def Fill (g n : Nat) (l : List Mx) (k : Nat) (w : World) : Prop :=
  ∃ cur, Blk w g 40 cur ∧ cur.size = n * 2 ∧ ∀ i m, i < k → l[i]? = some m → cur[i * 2]? = some (.int .i64 m.1) ∧ cur[i * 2 + 1]? = some (.string m.2)
theorem Fill.later {g n : Nat} {l : List Mx} {k : Nat} {w w' : World} (h : Fill g n l k w) (hB : Below w.heap.size w w') : Fill g n l k w' := by
  obtain ⟨cur, h1, h2, h3⟩ := h
  exact ⟨cur, h1.below hB h1.lt, h2, h3⟩
theorem Fill.put {g n : Nat} {l : List Mx} {k : Nat} {w : World} (h : Fill g n l k w) (hk : k < n) {m : Mx} (hm : l[k]? = some m) : Fill g n l (k + 1) ((w.setCell ⟨g, k * 2, none⟩ (.int .i64 m.1)).setCell ⟨g, k * 2 + 1, none⟩ (.string m.2)) := by
  obtain ⟨cur, h1, h2, h3⟩ := h
  refine ⟨_, (h1.put _ _).put _ _, by simpa using h2, fun i m' hi hm' => ?_⟩
  simp only [Array.getElem?_setIfInBounds]
  by_cases e : i = k
  · subst e
    rw [hm] at hm'
    injection hm' with hm'
    subst hm'
    simp [h2]
    omega
  · obtain ⟨a, b⟩ := h3 i m' (by omega) hm'
    refine ⟨?_, ?_⟩
    · rw [if_neg (by omega), if_neg (by omega)]; exact a
    · rw [if_neg (by omega), if_neg (by omega)]; exact b
theorem Fill.cells {g n : Nat} {l : List Mx} {k : Nat} {w : World} (h : Fill g n l k w) (hk : k < n) : (∃ x, w.cell? ⟨g, k * 2, none⟩ = some x) ∧ (∃ x, w.cell? ⟨g, k * 2 + 1, none⟩ = some x) ∧ w.frozen? ⟨g, k * 2, none⟩ = false ∧ w.frozen? ⟨g, k * 2 + 1, none⟩ = false := by
  obtain ⟨cur, h1, h2, h3⟩ := h
  refine ⟨⟨cur[k * 2]'(by omega), ?_⟩, ⟨cur[k * 2 + 1]'(by omega), ?_⟩, h1.frozen _, h1.frozen _⟩
  · rw [h1.cell]; exact Array.getElem?_eq_getElem (by omega)
  · rw [h1.cell]; exact Array.getElem?_eq_getElem (by omega)
theorem Fill.own {g : Nat} {l : List Mx} {w0 w : World} (h : Fill g l.length l l.length w) (hg : w0.heap.size ≤ g) (hB : Below w0.heap.size w0 w) (hl : l.length ≤ maxLen) : OwnZ 40 2 w0 w (.slice (some ⟨g, 0, none⟩) l.length l.length) l.length (l.flatMap mc) := by
  obtain ⟨cur, h1, h2, h3⟩ := h
  have hf : cur.toList = l.flatMap mc := flat_of (by simpa using h2) (fun i m hm => by
    have := h3 i m (List.getElem?_eq_some_iff.mp hm).1 hm
    simpa using this)
  refine ⟨⟨by rw [flat_len mc_len], .inr ⟨g, l.length, cur, rfl, hg, h1, Nat.le_refl _, hl, by omega, ?_⟩⟩, hB⟩
  rw [hf, List.take_of_length_le (by rw [flat_len mc_len]; exact Nat.le_refl _)]

set_option maxRecDepth 100000 in
set_option maxHeartbeats 1600000 in
theorem to_any (w : World) (v : Value) (l : List Mx) (h : SeesL w v l) (hl : l.length ≤ 1048576) : Calls Try.prog 39 #[v] w (ListPost w l) := by
  obtain ⟨i0, hi, hz0, hz1, hz2⟩ := info_parts infoMixed
  have HS := Lib.hid h
  obtain ⟨A, c, rfl, _, _, _⟩ := h
  go_enter Try.func39, Try.ntmps39
  go_wp2_with (at_make; refine wpList_make_full _ rfl _ _ 33 rfl w.heap.size 40 i0 _ 2 Try.underlying33 hi hz0 hz1 _ _ _ _ l.length rfl rfl rfl rfl (by rw [hz2]; omega) (by unfold maxLen; omega) (Nat.le_refl _) ?_)
  intro w1 hown hgrow
  have hF : Fill w.heap.size l.length l 0 w1 ∧ Below w.heap.size w w1 := by
    refine ⟨?_, hgrow.os, hgrow.tape, hgrow.output, hgrow.size, fun k hk => hgrow.block k hk (by simp)⟩
    rcases hown.2 with ⟨e, _⟩ | ⟨g, cap, cur, e, _, hh, _, _, hs, _⟩
    · cases e
    · injection e with e1 e2 e3
      injection e1 with e1
      injection e1 with e1
      subst e1
      exact ⟨cur, hh, by omega, fun i m hi => absurd hi (by omega)⟩
  have HF := Lib.hid hF
  clear hF hown hgrow
  go_wp2
  go_loopw [4] (fun i wr => ∃ k : Nat, k ≤ l.length ∧ i = .int .i64 k ∧ Fill w.heap.size l.length l k wr ∧ Below w.heap.size w wr) (fun i _ => (l.length + 1 : Nat) - (intOf i).toNat)
  case atStart => exact ⟨0, by omega, rfl, HF.out⟩
  case round =>
    obtain ⟨k, hk, rfl, hF, hB⟩ := hrel
    clear HF
    by_cases hkl : k < l.length
    · have hx : l[k]? = some l[k] := List.getElem?_eq_getElem hkl
      obtain ⟨A', c', e, _, _, hc⟩ := HS.out.later hB
      injection e with e1 e2 e3
      subst e1; subst e3
      obtain ⟨g, o, rfl, hg, hcell⟩ := hc (by omega)
      obtain ⟨t0, t1⟩ := hcell k _ hx
      generalize l[k] = m at hx t0 t1
      obtain ⟨num, d⟩ := m
      have hk1 : (k : Int) < (l.length : Int) := by omega
      clear hc hcell
      go_wp2_with fail
      refine (to_one num d _).mono ?_
      rintro e w2 ⟨rfl, hB2⟩
      have hF2 := hF.later hB2
      have hB22 := hB.trans (hB2.mono hB.size)
      obtain ⟨⟨x0, c0⟩, ⟨x1, c1⟩, f0, f1⟩ := hF2.cells hkl
      have R := Lib.hid (hF2.put hkl hx)
      have HB3 : Hid (Below w.heap.size w ((w2.setCell ⟨w.heap.size, k * 2, none⟩ (.int .i64 num)).setCell ⟨w.heap.size, k * 2 + 1, none⟩ (.string d))) :=
        ⟨hB22.os, hB22.tape, hB22.output, by simpa using hB22.size, fun j hj => (Below.heap_setCell _ _ _ j (by show j ≠ w.heap.size; omega)).trans ((Below.heap_setCell _ _ _ j (by show j ≠ w.heap.size; omega)).trans (hB22.block j hj))⟩
      clear hF hB hB2 hF2 hB22 hx t0 t1
      go_wp2
      go_roundw
      case rel => exact ⟨k + 1, by omega, by go_num, R.out, HB3.out⟩
      case measure => simp [intOf]; omega
    · obtain rfl : k = l.length := by omega
      have R := Lib.hid (hF.own (Nat.le_refl _) hB (by unfold maxLen; omega))
      clear hF hB
      go_wp2
      go_ret
      exact ⟨_, rfl, R.out⟩
end Go.Proofs.Ytokajeomojlinaa.ls
