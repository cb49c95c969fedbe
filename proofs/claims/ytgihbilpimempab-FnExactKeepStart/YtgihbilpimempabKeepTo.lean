/-
  Contracts of the laws' own helpers: toMark, toNoteS, toMarkS.
-/
import Derived.Test.YtgihbilpimempabKeepSz
namespace Go.Proofs.Ytgihbilpimempab.kp
open Go.ChangeShapes Go.WideShapes Go.ChangeAt Go.RowKit
open Go.Proofs.Ytgihbilpimempab.wd Go.Proofs.Ytgihbilpimempab.ow Go.Proofs.Ytgihbilpimempab.rl Go.Proofs.Ytgihbilpimempab.ok

def ListN (w : World) (l : List Nt) (e : Ending) (w' : World) : Prop := ∃ v, e = .returned v ∧ OwnR ntS 56 w w' v l
def ListM (w : World) (l : List Mk) (e : Ending) (w' : World) : Prop := ∃ v, e = .returned v ∧ OwnR mkS 60 w w' v l
def MarkPost (w : World) (f n u : Int) (e : Ending) (w' : World) : Prop := e = .returned (mark f n u) ∧ Below w.heap.size w w'

theorem toMk_any (f n u : Int) (w : World) : Calls Try.prog 54 #[mark f n u] w (MarkPost w f n u) := by
  unfold mark
  go_enter Try.func54, Try.ntmps54
  go_wp2
  refine bodyPost_ret (v := mark f n u) (by simp [results, Try.results54, go_sem, mark]) rfl ⟨rfl, ?_⟩
  exact (((Below.refl _ _).alloc (Nat.le_refl _) _).alloc (by simp) _).alloc (by simp; omega) _

/-- what make gives: room for all -/
theorem fill_new {α : Type} {S : Shape α} {t : TypeId} {w w1 : World} {l : List α} {xs : List Value} (hown : w1.ownsRow w.heap.size t S.n (.slice (some ⟨w.heap.size, 0, none⟩) l.length l.length) l.length xs) (hgrow : w.grownBy w1 none) :
    Fill S t w.heap.size l.length l 0 w1 ∧ Below w.heap.size w w1 := by
  refine ⟨?_, hgrow.os, hgrow.tape, hgrow.output, hgrow.size, fun k hk => hgrow.block k hk (by simp)⟩
  rcases hown.2 with ⟨e, _⟩ | ⟨g, cap, cur, e, _, hh, _, _, hs, _⟩
  · cases e
  · injection e with e1 e2 e3
    injection e1 with e1
    injection e1 with e1
    subst e1
    exact ⟨cur, hh, by rw [hs, ← e3], fun i m hi => absurd hi (by omega)⟩

set_option maxRecDepth 100000 in
set_option maxHeartbeats 1600000 in
theorem toN_any (w : World) (v : Value) (l : List Nt) (h : InR ntS w v l) (hl : l.length ≤ 1048576) : Calls Try.prog 36 #[v] w (ListN w l) := by
  obtain ⟨i0, hi, hz0, hz1, hz2⟩ := info_parts infoNote
  have HS := Lib.hid h
  obtain ⟨A, c, rfl, _, _⟩ := h
  go_enter Try.func36, Try.ntmps36
  go_wp2_with (at_make; refine wpList_make_full _ rfl _ _ 22 rfl w.heap.size 56 i0 _ 5 Try.underlying22 hi hz0 hz1 _ _ _ _ l.length rfl rfl rfl rfl (by rw [hz2]; omega) (by unfold maxLen; omega) (Nat.le_refl _) ?_)
  intro w1 hown hgrow
  have HF := Lib.hid (fill_new (S := ntS) hown hgrow)
  clear hown hgrow
  go_wp2
  go_loopw [4] (fun i wr => ∃ k : Nat, k ≤ l.length ∧ i = .int .i64 k ∧ Fill ntS 56 w.heap.size l.length l k wr ∧ Below w.heap.size w wr) (fun i _ => (l.length + 1 : Nat) - (intOf i).toNat)
  case atStart => exact ⟨0, by omega, rfl, HF.out⟩
  case round =>
    obtain ⟨k, hk, rfl, hF, hB⟩ := hrel
    clear HF
    by_cases hkl : k < l.length
    · have hx : l[k]? = some l[k] := List.getElem?_eq_getElem hkl
      obtain ⟨g, o, c', e, hg, _, hcell⟩ := (HS.out.later hB).at hx
      injection e with e1 e2 e3
      subst e1; subst e3
      have t0 : wr.cell? ⟨g, o + k * 5, none⟩ = some (.int .i64 l[k].f) := hcell 0 _ rfl
      have t1 : wr.cell? ⟨g, o + k * 5 + 1, none⟩ = some (.int .i64 l[k].n) := hcell 1 _ rfl
      have t2 : wr.cell? ⟨g, o + k * 5 + 2, none⟩ = some (.int .i64 l[k].t) := hcell 2 _ rfl
      have t3 : wr.cell? ⟨g, o + k * 5 + 3, none⟩ = some (.int .i64 l[k].u) := hcell 3 _ rfl
      have t4 : wr.cell? ⟨g, o + k * 5 + 4, none⟩ = some (.string l[k].s) := hcell 4 _ rfl
      generalize l[k] = y at hx t0 t1 t2 t3 t4
      have hk1 : (k : Int) < (l.length : Int) := by omega
      clear hcell
      go_wp2_with fail
      refine (ok.to_any y.f y.n y.t y.u y.s _).mono ?_
      rintro e w2 ⟨rfl, hB2⟩
      have hF2 := hF.later hB2
      have hB22 := hB.trans (hB2.mono hB.size)
      obtain ⟨⟨x0, c0⟩, f0⟩ := hF2.cell hkl (j := 0) (by decide)
      obtain ⟨⟨x1, c1⟩, f1⟩ := hF2.cell hkl (j := 1) (by decide)
      obtain ⟨⟨x2, c2⟩, f2⟩ := hF2.cell hkl (j := 2) (by decide)
      obtain ⟨⟨x3, c3⟩, f3⟩ := hF2.cell hkl (j := 3) (by decide)
      obtain ⟨⟨x4, c4⟩, f4⟩ := hF2.cell hkl (j := 4) (by decide)
      change w2.cell? ⟨w.heap.size, k * 5, none⟩ = _ at c0
      change w2.frozen? ⟨w.heap.size, k * 5, none⟩ = _ at f0
      change w2.cell? ⟨w.heap.size, k * 5 + 1, none⟩ = _ at c1
      change w2.frozen? ⟨w.heap.size, k * 5 + 1, none⟩ = _ at f1
      change w2.cell? ⟨w.heap.size, k * 5 + 2, none⟩ = _ at c2
      change w2.frozen? ⟨w.heap.size, k * 5 + 2, none⟩ = _ at f2
      change w2.cell? ⟨w.heap.size, k * 5 + 3, none⟩ = _ at c3
      change w2.frozen? ⟨w.heap.size, k * 5 + 3, none⟩ = _ at f3
      change w2.cell? ⟨w.heap.size, k * 5 + 4, none⟩ = _ at c4
      change w2.frozen? ⟨w.heap.size, k * 5 + 4, none⟩ = _ at f4
      have R := Lib.hid (hF2.put hkl hx)
      have HB3 := Lib.hid (putAll_below (Nat.le_refl _) (ntF y) (k * 5) hB22)
      clear hF hB hB2 hF2 hB22 hx t0 t1 t2 t3 t4
      unfold note
      go_wp2
      go_roundw
      case rel => exact ⟨k + 1, by omega, by go_num, R.out, HB3.out⟩
      case measure => simp [intOf]; omega
    · obtain rfl : k = l.length := by omega
      have R := Lib.hid (hF.own (Nat.le_refl _) hB (by unfold maxLen; omega))
      clear hF hB
      go_wp2
      go_ret
      exact ⟨_, rfl, R.out⟩

set_option maxRecDepth 100000 in
set_option maxHeartbeats 1600000 in
theorem toM_any (w : World) (v : Value) (l : List Mk) (h : InR mkS w v l) (hl : l.length ≤ 1048576) : Calls Try.prog 37 #[v] w (ListM w l) := by
  obtain ⟨i0, hi, hz0, hz1, hz2⟩ := info_parts infoMark
  have HS := Lib.hid h
  obtain ⟨A, c, rfl, _, _⟩ := h
  go_enter Try.func37, Try.ntmps37
  go_wp2_with (at_make; refine wpList_make_full _ rfl _ _ 23 rfl w.heap.size 60 i0 _ 3 Try.underlying23 hi hz0 hz1 _ _ _ _ l.length rfl rfl rfl rfl (by rw [hz2]; omega) (by unfold maxLen; omega) (Nat.le_refl _) ?_)
  intro w1 hown hgrow
  have HF := Lib.hid (fill_new (S := mkS) hown hgrow)
  clear hown hgrow
  go_wp2
  go_loopw [4] (fun i wr => ∃ k : Nat, k ≤ l.length ∧ i = .int .i64 k ∧ Fill mkS 60 w.heap.size l.length l k wr ∧ Below w.heap.size w wr) (fun i _ => (l.length + 1 : Nat) - (intOf i).toNat)
  case atStart => exact ⟨0, by omega, rfl, HF.out⟩
  case round =>
    obtain ⟨k, hk, rfl, hF, hB⟩ := hrel
    clear HF
    by_cases hkl : k < l.length
    · have hx : l[k]? = some l[k] := List.getElem?_eq_getElem hkl
      obtain ⟨g, o, c', e, hg, _, hcell⟩ := (HS.out.later hB).at hx
      injection e with e1 e2 e3
      subst e1; subst e3
      have t0 : wr.cell? ⟨g, o + k * 3, none⟩ = some (.int .i64 l[k].f) := hcell 0 _ rfl
      have t1 : wr.cell? ⟨g, o + k * 3 + 1, none⟩ = some (.int .i64 l[k].n) := hcell 1 _ rfl
      have t2 : wr.cell? ⟨g, o + k * 3 + 2, none⟩ = some (.int .i64 l[k].u) := hcell 2 _ rfl
      generalize l[k] = y at hx t0 t1 t2
      have hk1 : (k : Int) < (l.length : Int) := by omega
      clear hcell
      go_wp2_with fail
      refine (toMk_any y.f y.n y.u _).mono ?_
      rintro e w2 ⟨rfl, hB2⟩
      have hF2 := hF.later hB2
      have hB22 := hB.trans (hB2.mono hB.size)
      obtain ⟨⟨x0, c0⟩, f0⟩ := hF2.cell hkl (j := 0) (by decide)
      obtain ⟨⟨x1, c1⟩, f1⟩ := hF2.cell hkl (j := 1) (by decide)
      obtain ⟨⟨x2, c2⟩, f2⟩ := hF2.cell hkl (j := 2) (by decide)
      change w2.cell? ⟨w.heap.size, k * 3, none⟩ = _ at c0
      change w2.frozen? ⟨w.heap.size, k * 3, none⟩ = _ at f0
      change w2.cell? ⟨w.heap.size, k * 3 + 1, none⟩ = _ at c1
      change w2.frozen? ⟨w.heap.size, k * 3 + 1, none⟩ = _ at f1
      change w2.cell? ⟨w.heap.size, k * 3 + 2, none⟩ = _ at c2
      change w2.frozen? ⟨w.heap.size, k * 3 + 2, none⟩ = _ at f2
      have R := Lib.hid (hF2.put hkl hx)
      have HB3 := Lib.hid (putAll_below (Nat.le_refl _) (mkF y) (k * 3) hB22)
      clear hF hB hB2 hF2 hB22 hx t0 t1 t2
      unfold mark
      go_wp2
      go_roundw
      case rel => exact ⟨k + 1, by omega, by go_num, R.out, HB3.out⟩
      case measure => simp [intOf]; omega
    · obtain rfl : k = l.length := by omega
      have R := Lib.hid (hF.own (Nat.le_refl _) hB (by unfold maxLen; omega))
      clear hF hB
      go_wp2
      go_ret
      exact ⟨_, rfl, R.out⟩
end Go.Proofs.Ytgihbilpimempab.kp
