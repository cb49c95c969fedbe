/-
  Merged texts: KeepTo, SOk, EqNote, KeepEq.
-/
import Derived.Test.YtgihbilpimempabGreatDoorGFnExactKeepDo4
import Derived.Test.YtgihbilpimempabGreatDoorGFnExactKeepDo1
import Derived.Below
import Derived.Deep.RegionHeld3
/-
  Contracts of the laws' own helpers: toMark, toNoteS, toMarkS.
-/
namespace Go.Proofs.YtgihbilpimempabGreatDoor.kp
open Go.ChangeShapes Go.WideShapes Go.ChangeAt Go.RowKit
open Go.Proofs.YtgihbilpimempabGreatDoor.wd Go.Proofs.YtgihbilpimempabGreatDoor.ow Go.Proofs.YtgihbilpimempabGreatDoor.rl Go.Proofs.YtgihbilpimempabGreatDoor.ok

def ListN (w : World) (l : List Nt) (e : Ending) (w' : World) : Prop := ∃ v, e = .returned v ∧ OwnR ntS 74 w w' v l
def ListM (w : World) (l : List Mk) (e : Ending) (w' : World) : Prop := ∃ v, e = .returned v ∧ OwnR mkS 88 w w' v l
def MarkPost (w : World) (f n u : Int) (e : Ending) (w' : World) : Prop := e = .returned (mark f n u) ∧ Below w.heap.size w w'

theorem toMk_any (f n u : Int) (w : World) : Calls Tryz.prog 83 #[mark f n u] w (MarkPost w f n u) := by
  unfold mark
  go_enter Tryz.func83, Tryz.ntmps83
  go_wp2
  refine bodyPost_ret (v := mark f n u) (by simp [results, Tryz.results83, go_sem, mark]) rfl ⟨rfl, ?_⟩
  exact (((Below.refl _ _).alloc (Nat.le_refl _) _).alloc (by simp) _).alloc (by simp; omega) _

/-- what make gives: room for all -/
theorem fill_new {α : Type} {S : Shape α} {t : TypeId} {w w1 : World} {l : List α} {xs : List Value} (hown : w1.ownsRow w.heap.size t S.n (.slice (some ⟨w.heap.size, 0, none⟩) l.length l.length) l.length xs) (hgrow : w.grownBy w1 none) :
    Fill S t w.heap.size l.length l 0 w1 ∧ Below w.heap.size w w1 := by
  refine ⟨?_, hgrow.os, hgrow.tape, hgrow.output, hgrow.size, fun k hk => hgrow.block k hk (by simp)⟩
  rcases hown.2 with ⟨e, _⟩ | ⟨g, cap, cur, e, _, hh, _, _, hs, _⟩
  · cases e
  · injection e with e1 e2 e3
    injection e1 with e1
    injection e1 with e1
    subst e1
    exact ⟨cur, hh, by rw [hs, ← e3], fun i m hi => absurd hi (by omega)⟩

set_option maxRecDepth 100000 in
set_option maxHeartbeats 1600000 in
theorem toN_any (w : World) (v : Value) (l : List Nt) (h : InR ntS w v l) (hl : l.length ≤ 1048576) : Calls Tryz.prog 39 #[v] w (ListN w l) := by
  obtain ⟨i0, hi, hz0, hz1, hz2⟩ := info_parts infoNote
  have HS := Lib.hid h
  obtain ⟨A, c, rfl, _, _⟩ := h
  go_enter Tryz.func39, Tryz.ntmps39
  go_wp2_with (at_make; refine wpList_make_full _ rfl _ _ 26 rfl w.heap.size 74 i0 _ 5 Tryz.underlying26 hi hz0 hz1 _ _ _ _ l.length rfl rfl rfl rfl (by rw [hz2]; omega) (by unfold maxLen; omega) (Nat.le_refl _) ?_)
  intro w1 hown hgrow
  have HF := Lib.hid (fill_new (S := ntS) hown hgrow)
  clear hown hgrow
  go_wp2
  go_loopw [4] (fun i wr => ∃ k : Nat, k ≤ l.length ∧ i = .int .i64 k ∧ Fill ntS 74 w.heap.size l.length l k wr ∧ Below w.heap.size w wr) (fun i _ => (l.length + 1 : Nat) - (intOf i).toNat)
  case atStart => exact ⟨0, by omega, rfl, HF.out⟩
  case round =>
    obtain ⟨k, hk, rfl, hF, hB⟩ := hrel
    clear HF
    by_cases hkl : k < l.length
    · have hx : l[k]? = some l[k] := List.getElem?_eq_getElem hkl
      obtain ⟨g, o, c', e, hg, _, hcell⟩ := (HS.out.later hB).at hx
      injection e with e1 e2 e3
      subst e1; subst e3
      have t0 : wr.cell? ⟨g, o + k * 5, none⟩ = some (.int .i64 l[k].f) := hcell 0 _ rfl
      have t1 : wr.cell? ⟨g, o + k * 5 + 1, none⟩ = some (.int .i64 l[k].n) := hcell 1 _ rfl
      have t2 : wr.cell? ⟨g, o + k * 5 + 2, none⟩ = some (.int .i64 l[k].t) := hcell 2 _ rfl
      have t3 : wr.cell? ⟨g, o + k * 5 + 3, none⟩ = some (.int .i64 l[k].u) := hcell 3 _ rfl
      have t4 : wr.cell? ⟨g, o + k * 5 + 4, none⟩ = some (.string l[k].s) := hcell 4 _ rfl
      generalize l[k] = y at hx t0 t1 t2 t3 t4
      have hk1 : (k : Int) < (l.length : Int) := by omega
      clear hcell
      go_wp2_with fail
      refine (ok.to_any y.f y.n y.t y.u y.s _).mono ?_
      rintro e w2 ⟨rfl, hB2⟩
      have hF2 := hF.later hB2
      have hB22 := hB.trans (hB2.mono hB.size)
      obtain ⟨⟨x0, c0⟩, f0⟩ := hF2.cell hkl (j := 0) (by decide)
      obtain ⟨⟨x1, c1⟩, f1⟩ := hF2.cell hkl (j := 1) (by decide)
      obtain ⟨⟨x2, c2⟩, f2⟩ := hF2.cell hkl (j := 2) (by decide)
      obtain ⟨⟨x3, c3⟩, f3⟩ := hF2.cell hkl (j := 3) (by decide)
      obtain ⟨⟨x4, c4⟩, f4⟩ := hF2.cell hkl (j := 4) (by decide)
      change w2.cell? ⟨w.heap.size, k * 5, none⟩ = _ at c0
      change w2.frozen? ⟨w.heap.size, k * 5, none⟩ = _ at f0
      change w2.cell? ⟨w.heap.size, k * 5 + 1, none⟩ = _ at c1
      change w2.frozen? ⟨w.heap.size, k * 5 + 1, none⟩ = _ at f1
      change w2.cell? ⟨w.heap.size, k * 5 + 2, none⟩ = _ at c2
      change w2.frozen? ⟨w.heap.size, k * 5 + 2, none⟩ = _ at f2
      change w2.cell? ⟨w.heap.size, k * 5 + 3, none⟩ = _ at c3
      change w2.frozen? ⟨w.heap.size, k * 5 + 3, none⟩ = _ at f3
      change w2.cell? ⟨w.heap.size, k * 5 + 4, none⟩ = _ at c4
      change w2.frozen? ⟨w.heap.size, k * 5 + 4, none⟩ = _ at f4
      have R := Lib.hid (hF2.put hkl hx)
      have HB3 := Lib.hid (putAll_below (Nat.le_refl _) (ntF y) (k * 5) hB22)
      clear hF hB hB2 hF2 hB22 hx t0 t1 t2 t3 t4
      unfold note
      go_wp2
      go_roundw
      case rel => exact ⟨k + 1, by omega, by go_num, R.out, HB3.out⟩
      case measure => simp [intOf]; omega
    · obtain rfl : k = l.length := by omega
      have R := Lib.hid (hF.own (Nat.le_refl _) hB (by unfold maxLen; omega))
      clear hF hB
      go_wp2
      go_ret
      exact ⟨_, rfl, R.out⟩

set_option maxRecDepth 100000 in
set_option maxHeartbeats 1600000 in
theorem toM_any (w : World) (v : Value) (l : List Mk) (h : InR mkS w v l) (hl : l.length ≤ 1048576) : Calls Tryz.prog 40 #[v] w (ListM w l) := by
  obtain ⟨i0, hi, hz0, hz1, hz2⟩ := info_parts infoMark
  have HS := Lib.hid h
  obtain ⟨A, c, rfl, _, _⟩ := h
  go_enter Tryz.func40, Tryz.ntmps40
  go_wp2_with (at_make; refine wpList_make_full _ rfl _ _ 27 rfl w.heap.size 88 i0 _ 3 Tryz.underlying27 hi hz0 hz1 _ _ _ _ l.length rfl rfl rfl rfl (by rw [hz2]; omega) (by unfold maxLen; omega) (Nat.le_refl _) ?_)
  intro w1 hown hgrow
  have HF := Lib.hid (fill_new (S := mkS) hown hgrow)
  clear hown hgrow
  go_wp2
  go_loopw [4] (fun i wr => ∃ k : Nat, k ≤ l.length ∧ i = .int .i64 k ∧ Fill mkS 88 w.heap.size l.length l k wr ∧ Below w.heap.size w wr) (fun i _ => (l.length + 1 : Nat) - (intOf i).toNat)
  case atStart => exact ⟨0, by omega, rfl, HF.out⟩
  case round =>
    obtain ⟨k, hk, rfl, hF, hB⟩ := hrel
    clear HF
    by_cases hkl : k < l.length
    · have hx : l[k]? = some l[k] := List.getElem?_eq_getElem hkl
      obtain ⟨g, o, c', e, hg, _, hcell⟩ := (HS.out.later hB).at hx
      injection e with e1 e2 e3
      subst e1; subst e3
      have t0 : wr.cell? ⟨g, o + k * 3, none⟩ = some (.int .i64 l[k].f) := hcell 0 _ rfl
      have t1 : wr.cell? ⟨g, o + k * 3 + 1, none⟩ = some (.int .i64 l[k].n) := hcell 1 _ rfl
      have t2 : wr.cell? ⟨g, o + k * 3 + 2, none⟩ = some (.int .i64 l[k].u) := hcell 2 _ rfl
      generalize l[k] = y at hx t0 t1 t2
      have hk1 : (k : Int) < (l.length : Int) := by omega
      clear hcell
      go_wp2_with fail
      refine (toMk_any y.f y.n y.u _).mono ?_
      rintro e w2 ⟨rfl, hB2⟩
      have hF2 := hF.later hB2
      have hB22 := hB.trans (hB2.mono hB.size)
      obtain ⟨⟨x0, c0⟩, f0⟩ := hF2.cell hkl (j := 0) (by decide)
      obtain ⟨⟨x1, c1⟩, f1⟩ := hF2.cell hkl (j := 1) (by decide)
      obtain ⟨⟨x2, c2⟩, f2⟩ := hF2.cell hkl (j := 2) (by decide)
      change w2.cell? ⟨w.heap.size, k * 3, none⟩ = _ at c0
      change w2.frozen? ⟨w.heap.size, k * 3, none⟩ = _ at f0
      change w2.cell? ⟨w.heap.size, k * 3 + 1, none⟩ = _ at c1
      change w2.frozen? ⟨w.heap.size, k * 3 + 1, none⟩ = _ at f1
      change w2.cell? ⟨w.heap.size, k * 3 + 2, none⟩ = _ at c2
      change w2.frozen? ⟨w.heap.size, k * 3 + 2, none⟩ = _ at f2
      have R := Lib.hid (hF2.put hkl hx)
      have HB3 := Lib.hid (putAll_below (Nat.le_refl _) (mkF y) (k * 3) hB22)
      clear hF hB hB2 hF2 hB22 hx t0 t1 t2
      unfold mark
      go_wp2
      go_roundw
      case rel => exact ⟨k + 1, by omega, by go_num, R.out, HB3.out⟩
      case measure => simp [intOf]; omega
    · obtain rfl : k = l.length := by omega
      have R := Lib.hid (hF.own (Nat.le_refl _) hB (by unfold maxLen; omega))
      clear hF hB
      go_wp2
      go_ret
      exact ⟨_, rfl, R.out⟩
end Go.Proofs.YtgihbilpimempabGreatDoor.kp

/-
  Contract of spec.NoteOk.
-/
namespace Go.Proofs.YtgihbilpimempabGreatDoor.ok
open Go.ChangeShapes Go.WideShapes Go.ChangeAt Go.RowKit
open Go.Proofs.YtgihbilpimempabGreatDoor.nb

def BoolPost (w : World) (b : Bool) (e : Ending) (w' : World) : Prop := e = .returned (.bool b) ∧ Below w.heap.size w w'

theorem sok_f (f n t u : Int) (s : ByteArray) (w : World) (hs : s.size ≤ maxLen)
    (h : inB f 0 3 = false ∨ inB t 0 3 = false ∨ inB n 1 99 = false ∨ inB u 1 999 = false ∨ okS s = false) :
    Calls Tryz.prog 88 #[note f n t u s] w (BoolPost w false) := by
  unfold note
  unfold maxLen at hs
  cases k1 : inB f 0 3 with
  | false =>
    clear h
    go_enter Tryz.func88, Tryz.ntmps88
    go_wp2_with (first | (go_at_call 26; refine (keeper_any _ _).mono ?_; rintro e w' ⟨rfl, rfl⟩) | (go_at_call 53; refine (in_any _ _ _ _).mono ?_; rintro e w' ⟨rfl, rfl⟩))
    go_ret
    exact ⟨rfl, (Below.refl _ _).alloc (Nat.le_refl _) _⟩
  | true =>
  cases k2 : inB t 0 3 with
  | false =>
    clear h
    go_enter Tryz.func88, Tryz.ntmps88
    go_wp2_with (first | (go_at_call 26; refine (keeper_any _ _).mono ?_; rintro e w' ⟨rfl, rfl⟩) | (go_at_call 53; refine (in_any _ _ _ _).mono ?_; rintro e w' ⟨rfl, rfl⟩))
    go_ret
    exact ⟨rfl, (Below.refl _ _).alloc (Nat.le_refl _) _⟩
  | true =>
  cases k3 : inB n 1 99 with
  | false =>
    clear h
    go_enter Tryz.func88, Tryz.ntmps88
    go_wp2_with (first | (go_at_call 26; refine (keeper_any _ _).mono ?_; rintro e w' ⟨rfl, rfl⟩) | (go_at_call 53; refine (in_any _ _ _ _).mono ?_; rintro e w' ⟨rfl, rfl⟩))
    go_ret
    exact ⟨rfl, (Below.refl _ _).alloc (Nat.le_refl _) _⟩
  | true =>
  cases k4 : inB u 1 999 with
  | false =>
    clear h
    go_enter Tryz.func88, Tryz.ntmps88
    go_wp2_with (first | (go_at_call 26; refine (keeper_any _ _).mono ?_; rintro e w' ⟨rfl, rfl⟩) | (go_at_call 53; refine (in_any _ _ _ _).mono ?_; rintro e w' ⟨rfl, rfl⟩))
    go_ret
    exact ⟨rfl, (Below.refl _ _).alloc (Nat.le_refl _) _⟩
  | true =>
  by_cases k5 : s.size < 1
  · have k5' : (s.size : Int) < 1 := by omega
    clear h
    go_enter Tryz.func88, Tryz.ntmps88
    go_wp2_with (first | (go_at_call 26; refine (keeper_any _ _).mono ?_; rintro e w' ⟨rfl, rfl⟩) | (go_at_call 53; refine (in_any _ _ _ _).mono ?_; rintro e w' ⟨rfl, rfl⟩))
    go_ret
    exact ⟨rfl, (Below.refl _ _).alloc (Nat.le_refl _) _⟩
  by_cases k6 : 24 < s.size
  · have k5' : ¬ (s.size : Int) < 1 := by omega
    have k6' : 24 < (s.size : Int) := by omega
    clear h
    go_enter Tryz.func88, Tryz.ntmps88
    go_wp2_with (first | (go_at_call 26; refine (keeper_any _ _).mono ?_; rintro e w' ⟨rfl, rfl⟩) | (go_at_call 53; refine (in_any _ _ _ _).mono ?_; rintro e w' ⟨rfl, rfl⟩))
    go_ret
    exact ⟨rfl, (Below.refl _ _).alloc (Nat.le_refl _) _⟩
  · exfalso
    rw [k1, k2, k3, k4, okS_t (by omega) (by omega)] at h
    simp at h

theorem sok_t (f n t u : Int) (s : ByteArray) (w : World)
    (k1 : inB f 0 3 = true) (k2 : inB t 0 3 = true) (k3 : inB n 1 99 = true) (k4 : inB u 1 999 = true) (k5 : 1 ≤ s.size) (k6 : s.size ≤ 24) :
    Calls Tryz.prog 88 #[note f n t u s] w (BoolPost w (allPr s)) := by
  unfold note
  have k7 : ¬ (s.size : Int) < 1 := by omega
  have k8 : ¬ 24 < (s.size : Int) := by omega
  go_enter Tryz.func88, Tryz.ntmps88
  go_wp2_with (first | (go_at_call 26; refine (keeper_any _ _).mono ?_; rintro e w' ⟨rfl, rfl⟩) | (go_at_call 53; refine (in_any _ _ _ _).mono ?_; rintro e w' ⟨rfl, rfl⟩))
  go_loop [3] (fun i => ∃ k : Nat, k ≤ s.size ∧ i = .int .i64 k ∧ Hid ((s.data.toList.take k).all pr = true)) (fun i => s.size - (intOf i).toNat)
  case atStart => exact ⟨0, by omega, rfl, rfl⟩
  case round =>
    obtain ⟨k, hk, rfl, HA⟩ := hrel
    by_cases hlt : k < s.size
    · by_cases p0 : 32 ≤ (s[k].toNat : Int)
      · by_cases p1 : (s[k].toNat : Int) ≤ 126
        · have R := Lib.hid (all_more hlt HA.out (pr_t p0 p1))
          go_wp2
          go_round
          case rel => exact ⟨k + 1, by omega, by go_num, R⟩
          case measure => simp [intOf]; omega
        · have R := Lib.hid (all_not hlt (pr_f (.inr (by omega))))
          go_wp2
          go_ret
          exact ⟨ret_bool R.out.symm, (Below.refl _ _).alloc (Nat.le_refl _) _⟩
      · have R := Lib.hid (all_not hlt (pr_f (.inl (by omega))))
        go_wp2
        go_ret
        exact ⟨ret_bool R.out.symm, (Below.refl _ _).alloc (Nat.le_refl _) _⟩
    · have R := Lib.hid (all_whole (by omega) HA.out)
      go_wp2
      go_ret
      exact ⟨ret_bool R.out.symm, (Below.refl _ _).alloc (Nat.le_refl _) _⟩

theorem sok_any (f n t u : Int) (s : ByteArray) (w : World) (hs : s.size ≤ maxLen) :
    Calls Tryz.prog 88 #[note f n t u s] w (BoolPost w (okN f n t u s)) := by
  by_cases h : inB f 0 3 = false ∨ inB t 0 3 = false ∨ inB n 1 99 = false ∨ inB u 1 999 = false ∨ okS s = false
  · rw [okN_f h]; exact sok_f f n t u s w hs h
  · simp only [not_or, Bool.not_eq_false] at h
    obtain ⟨h1, h2, h3, h4, h5⟩ := h
    rw [okN_t h1 h2 h3 h4 h5]
    have := of_decide_eq_true h5
    exact sok_t f n t u s w h1 h2 h3 h4 this.1 this.2
end Go.Proofs.YtgihbilpimempabGreatDoor.ok

/-
  Contract of laws.eqNote at two messages that are the same.
-/
namespace Go.Proofs.YtgihbilpimempabGreatDoor.ok
open Go.ChangeShapes Go.WideShapes Go.ChangeAt Go.RowKit
open Go.Proofs.YtgihbilpimempabGreatDoor.nb

theorem eq_same (f n t u : Int) (s : ByteArray) (w : World) :
    Calls Tryz.prog 84 #[note f n t u s, note f n t u s] w (BoolPost w true) := by
  unfold note
  go_enter Tryz.func84, Tryz.ntmps84
  go_wp2
  go_ret
  exact ⟨rfl, ((Below.refl _ _).alloc (Nat.le_refl _) _).alloc (by simp) _⟩
end Go.Proofs.YtgihbilpimempabGreatDoor.ok

/-
  Contracts of the laws' own helpers over what a keeper has: eqMark, eqNoteS, eqMarkS, eqKeep (where both are the same); szKeep; toKeep.
-/
namespace Go.Proofs.YtgihbilpimempabGreatDoor.kp
open Go.ChangeShapes Go.WideShapes Go.ChangeAt Go.RowKit
open Go.Proofs.YtgihbilpimempabGreatDoor.wd Go.Proofs.YtgihbilpimempabGreatDoor.ow Go.Proofs.YtgihbilpimempabGreatDoor.rl Go.Proofs.YtgihbilpimempabGreatDoor.ok

def YesPost (w : World) (e : Ending) (w' : World) : Prop := e = .returned (.bool true) ∧ Below w.heap.size w w'

theorem eqMk_same (f n u : Int) (w : World) : Calls Tryz.prog 85 #[mark f n u, mark f n u] w (YesPost w) := by
  unfold mark
  go_enter Tryz.func85, Tryz.ntmps85
  go_wp2
  go_ret
  exact ⟨rfl, ((Below.refl _ _).alloc (Nat.le_refl _) _).alloc (by simp) _⟩
theorem eqNt_same (f n t u : Int) (s : ByteArray) (w : World) : Calls Tryz.prog 84 #[note f n t u s, note f n t u s] w (YesPost w) := ok.eq_same f n t u s w

set_option maxRecDepth 100000 in
set_option maxHeartbeats 1600000 in
theorem eqN_same (w : World) (v1 v2 : Value) (l : List Nt) (h1 : SeesN w v1 l) (h2 : SeesN w v2 l) (hl : l.length ≤ 1048576) :
    Calls Tryz.prog 41 #[v1, v2] w (YesPost w) := by
  have H1 := Lib.hid h1
  have H2 := Lib.hid h2
  obtain ⟨A1, c1, rfl, _⟩ := h1
  obtain ⟨A2, c2, rfl, _⟩ := h2
  go_enter Tryz.func41, Tryz.ntmps41
  go_wp2
  go_loopw [5] (fun i wr => ∃ k : Nat, k ≤ l.length ∧ i = .int .i64 k ∧ Below w.heap.size w wr) (fun i _ => (l.length + 1 : Nat) - (intOf i).toNat)
  case atStart => exact ⟨0, by omega, rfl, Below.refl _ _⟩
  case round =>
    obtain ⟨k, hk, rfl, hB⟩ := hrel
    by_cases hkl : k < l.length
    · have hx : l[k]? = some l[k] := List.getElem?_eq_getElem hkl
      obtain ⟨g1, c1', e1, hg1, _, a0, a1, a2, a3, a4⟩ := note_at (H1.out.later hB) hx
      obtain ⟨g2, c2', e2, hg2, _, b0, b1, b2, b3, b4⟩ := note_at (H2.out.later hB) hx
      injection e1 with e1 _ q1
      injection e2 with e2 _ q2
      subst e1; subst e2; subst q1; subst q2
      generalize l[k] = y at a0 a1 a2 a3 a4 b0 b1 b2 b3 b4
      have hk0 : (0 : Int) ≤ (k : Int) := by omega
      have hk1 : (k : Int) < (l.length : Int) := by omega
      have HE := Lib.hid (fun V => eqNt_same y.f y.n y.t y.u y.s V)
      unfold note at HE
      clear hx
      go_wp2_with fail
      go_region_held3 (fun w' => w'.cell? ⟨g1, k * 5, none⟩ = some (.int .i64 y.f) ∧ w'.cell? ⟨g1, k * 5 + 1, none⟩ = some (.int .i64 y.n) ∧ w'.cell? ⟨g1, k * 5 + 2, none⟩ = some (.int .i64 y.t) ∧ w'.cell? ⟨g1, k * 5 + 3, none⟩ = some (.int .i64 y.u) ∧ w'.cell? ⟨g1, k * 5 + 4, none⟩ = some (.string y.s) ∧ w'.cell? ⟨g2, k * 5, none⟩ = some (.int .i64 y.f) ∧ w'.cell? ⟨g2, k * 5 + 1, none⟩ = some (.int .i64 y.n) ∧ w'.cell? ⟨g2, k * 5 + 2, none⟩ = some (.int .i64 y.t) ∧ w'.cell? ⟨g2, k * 5 + 3, none⟩ = some (.int .i64 y.u) ∧ w'.cell? ⟨g2, k * 5 + 4, none⟩ = some (.string y.s)) (first | exact ⟨a0, a1, a2, a3, a4, b0, b1, b2, b3, b4⟩ | exact ⟨s0, s1, s2, s3, s4, r0, r1, r2, r3, r4⟩ | go_keep) ((go_at_call 84; refine (HE.out _).mono ?_; rintro e w2 ⟨rfl, hB2⟩; have s0 := (hB2.cell (p := ⟨g1, k * 5, none⟩) hg1).trans a0; have s1 := (hB2.cell (p := ⟨g1, k * 5 + 1, none⟩) hg1).trans a1; have s2 := (hB2.cell (p := ⟨g1, k * 5 + 2, none⟩) hg1).trans a2; have s3 := (hB2.cell (p := ⟨g1, k * 5 + 3, none⟩) hg1).trans a3; have s4 := (hB2.cell (p := ⟨g1, k * 5 + 4, none⟩) hg1).trans a4; have r0 := (hB2.cell (p := ⟨g2, k * 5, none⟩) hg2).trans b0; have r1 := (hB2.cell (p := ⟨g2, k * 5 + 1, none⟩) hg2).trans b1; have r2 := (hB2.cell (p := ⟨g2, k * 5 + 2, none⟩) hg2).trans b2; have r3 := (hB2.cell (p := ⟨g2, k * 5 + 3, none⟩) hg2).trans b3; have r4 := (hB2.cell (p := ⟨g2, k * 5 + 4, none⟩) hg2).trans b4))
      have R := Lib.hid (hB.drew.trans (hB2.mono hB.size))
      clear hB hB2 s0 s1 s2 s3 s4 r0 r1 r2 r3 r4 a0 a1 a2 a3 a4 b0 b1 b2 b3 b4
      go_wp2
      go_roundw
      case rel => exact ⟨k + 1, by omega, by go_num, R.out⟩
      case measure => simp [intOf]; omega
    · obtain rfl : k = l.length := by omega
      go_wp2
      go_ret
      exact ⟨rfl, hB⟩

set_option maxRecDepth 100000 in
set_option maxHeartbeats 1600000 in
theorem eqM_same (w : World) (v1 v2 : Value) (l : List Mk) (h1 : SeesMk w v1 l) (h2 : SeesMk w v2 l) (hl : l.length ≤ 1048576) :
    Calls Tryz.prog 42 #[v1, v2] w (YesPost w) := by
  have H1 := Lib.hid h1
  have H2 := Lib.hid h2
  obtain ⟨A1, c1, rfl, _⟩ := h1
  obtain ⟨A2, c2, rfl, _⟩ := h2
  go_enter Tryz.func42, Tryz.ntmps42
  go_wp2
  go_loopw [5] (fun i wr => ∃ k : Nat, k ≤ l.length ∧ i = .int .i64 k ∧ Below w.heap.size w wr) (fun i _ => (l.length + 1 : Nat) - (intOf i).toNat)
  case atStart => exact ⟨0, by omega, rfl, Below.refl _ _⟩
  case round =>
    obtain ⟨k, hk, rfl, hB⟩ := hrel
    by_cases hkl : k < l.length
    · have hx : l[k]? = some l[k] := List.getElem?_eq_getElem hkl
      obtain ⟨g1, c1', e1, hg1, _, a0, a1, a2⟩ := mark_at (H1.out.later hB) hx
      obtain ⟨g2, c2', e2, hg2, _, b0, b1, b2⟩ := mark_at (H2.out.later hB) hx
      injection e1 with e1 _ q1
      injection e2 with e2 _ q2
      subst e1; subst e2; subst q1; subst q2
      generalize l[k] = y at a0 a1 a2 b0 b1 b2
      have hk0 : (0 : Int) ≤ (k : Int) := by omega
      have hk1 : (k : Int) < (l.length : Int) := by omega
      have HE := Lib.hid (fun V => eqMk_same y.f y.n y.u V)
      unfold mark at HE
      clear hx
      go_wp2_with fail
      go_region_held3 (fun w' => w'.cell? ⟨g1, k * 3, none⟩ = some (.int .i64 y.f) ∧ w'.cell? ⟨g1, k * 3 + 1, none⟩ = some (.int .i64 y.n) ∧ w'.cell? ⟨g1, k * 3 + 2, none⟩ = some (.int .i64 y.u) ∧ w'.cell? ⟨g2, k * 3, none⟩ = some (.int .i64 y.f) ∧ w'.cell? ⟨g2, k * 3 + 1, none⟩ = some (.int .i64 y.n) ∧ w'.cell? ⟨g2, k * 3 + 2, none⟩ = some (.int .i64 y.u)) (first | exact ⟨a0, a1, a2, b0, b1, b2⟩ | exact ⟨s0, s1, s2, r0, r1, r2⟩ | go_keep) ((go_at_call 85; refine (HE.out _).mono ?_; rintro e w2 ⟨rfl, hB2⟩; have s0 := (hB2.cell (p := ⟨g1, k * 3, none⟩) hg1).trans a0; have s1 := (hB2.cell (p := ⟨g1, k * 3 + 1, none⟩) hg1).trans a1; have s2 := (hB2.cell (p := ⟨g1, k * 3 + 2, none⟩) hg1).trans a2; have r0 := (hB2.cell (p := ⟨g2, k * 3, none⟩) hg2).trans b0; have r1 := (hB2.cell (p := ⟨g2, k * 3 + 1, none⟩) hg2).trans b1; have r2 := (hB2.cell (p := ⟨g2, k * 3 + 2, none⟩) hg2).trans b2))
      have R := Lib.hid (hB.drew.trans (hB2.mono hB.size))
      clear hB hB2 s0 s1 s2 r0 r1 r2 a0 a1 a2 b0 b1 b2
      go_wp2
      go_roundw
      case rel => exact ⟨k + 1, by omega, by go_num, R.out⟩
      case measure => simp [intOf]; omega
    · obtain rfl : k = l.length := by omega
      go_wp2
      go_ret
      exact ⟨rfl, hB⟩

/-- short lists -/
def Few (k : Kp) : Prop := k.held.length ≤ 1048576 ∧ k.marks.length ≤ 1048576 ∧ k.inbox.length ≤ 1048576

/-- the boxes of two keeps -/
structure EqB (w V : World) (k : Kp) (a b c a' b' c' : Value) : Prop where
  one : Blk V w.heap.size 29 #[.int .i64 k.id, .int .i64 k.time, .int .i64 k.next, a, b, c]
  two : Blk V (w.heap.size + 1) 29 #[.int .i64 k.id, .int .i64 k.time, .int .i64 k.next, a', b', c']
  bel : Below w.heap.size w V
theorem EqB.new (w : World) (k : Kp) (a b c a' b' c' : Value) : EqB w ((w.alloc (.cells #[.int .i64 k.id, .int .i64 k.time, .int .i64 k.next, a, b, c] 29)).alloc (.cells #[.int .i64 k.id, .int .i64 k.time, .int .i64 k.next, a', b', c'] 29)) k a b c a' b' c' := by
  have k1 := Blk.new (w.alloc (.cells #[.int .i64 k.id, .int .i64 k.time, .int .i64 k.next, a, b, c] 29)) 29 #[.int .i64 k.id, .int .i64 k.time, .int .i64 k.next, a', b', c']
  simp only [World.size_alloc] at k1
  exact ⟨(Blk.new w _ _).alloc _, k1, ((Below.refl _ w).alloc (Nat.le_refl _) _).alloc (by simp) _⟩
theorem EqB.later {w V V' : World} {k : Kp} {a b c a' b' c' : Value} (h : EqB w V k a b c a' b' c') (hb : Below V.heap.size V V') : EqB w V' k a b c a' b' c' := ⟨h.one.below hb h.one.lt, h.two.below hb h.two.lt, h.bel.trans (hb.mono h.bel.size)⟩
theorem EqB.cells {w V : World} {k : Kp} {a b c a' b' c' : Value} (h : EqB w V k a b c a' b' c') : V.cell? ⟨w.heap.size, 3, none⟩ = some a ∧ V.cell? ⟨w.heap.size, 4, none⟩ = some b ∧ V.cell? ⟨w.heap.size, 5, none⟩ = some c ∧ V.cell? ⟨w.heap.size + 1, 3, none⟩ = some a' ∧ V.cell? ⟨w.heap.size + 1, 4, none⟩ = some b' ∧ V.cell? ⟨w.heap.size + 1, 5, none⟩ = some c' :=
  ⟨h.one.cell 3, h.one.cell 4, h.one.cell 5, h.two.cell 3, h.two.cell 4, h.two.cell 5⟩

set_option maxRecDepth 100000 in
set_option maxHeartbeats 1600000 in
theorem eqK_same (w : World) (k : Kp) (a b c a' b' c' : Value) (h1 : SeesK w k a b c) (h2 : SeesK w k a' b' c') (hl : Few k) :
    Calls Tryz.prog 16 #[kpV k.id k.time k.next a b c, kpV k.id k.time k.next a' b' c'] w (YesPost w) := by
  obtain ⟨hl1, hl2, hl3⟩ := hl
  have hT := EqB.new w k a b c a' b' c'
  have s1 := h1.later hT.bel
  have s2 := h2.later hT.bel
  have HN1 := Lib.hid (fun V (p : SeesN V a k.held) (q : SeesN V a' k.held) => eqN_same V a a' k.held p q hl1)
  have HN2 := Lib.hid (fun V (p : SeesMk V b k.marks) (q : SeesMk V b' k.marks) => eqM_same V b b' k.marks p q hl2)
  have HN3 := Lib.hid (fun V (p : SeesN V c k.inbox) (q : SeesN V c' k.inbox) => eqN_same V c c' k.inbox p q hl3)
  clear hl1 hl2 hl3 h1 h2
  go_enter Tryz.func16, Tryz.ntmps16
  go_wp2_with fail
  generalize (w.alloc (.cells #[.int .i64 k.id, .int .i64 k.time, .int .i64 k.next, a, b, c] 29)).alloc (.cells #[.int .i64 k.id, .int .i64 k.time, .int .i64 k.next, a', b', c'] 29) = V at hT s1 s2 ⊢
  refine (HN1.out _ s1.held s2.held).mono ?_
  rintro e w1 ⟨rfl, hB1⟩
  have hT1 := hT.later hB1
  have s3 := s1.later hB1
  have s4 := s2.later hB1
  obtain ⟨_, d1, d2, _, d4, d5⟩ := hT1.cells
  clear hT s1 s2 hB1 HN1
  go_wp2_with fail
  refine (HN2.out _ s3.marks s4.marks).mono ?_
  rintro e w2 ⟨rfl, hB2⟩
  have hT2 := hT1.later hB2
  have s5 := s3.later hB2
  have s6 := s4.later hB2
  clear d1 d2 d4 d5 hT1 s3 s4 hB2 HN2
  obtain ⟨_, _, d2, _, _, d5⟩ := hT2.cells
  go_wp2_with fail
  refine (HN3.out _ s5.inbox s6.inbox).mono ?_
  rintro e w3 ⟨rfl, hB3⟩
  have HB := Lib.hid (hT2.later hB3).bel
  clear hT2 s5 s6 hB3 d2 d5
  go_wp2
  go_ret
  exact ⟨rfl, HB.out⟩

/-- the size of what came in -/
def SizeK (w : World) (k : Kp) (e : Ending) (w' : World) : Prop := ∃ r : Int, e = .returned (.int .i64 r) ∧ (0 ≤ r → Few k) ∧ Below w.heap.size w w'
set_option maxRecDepth 100000 in
set_option maxHeartbeats 1600000 in
theorem szK_any (w : World) (k : Kp) (a b c : Value) (h : InK w k a b c) :
    Calls Tryz.prog 13 #[kpV k.id k.time k.next a b c, .int .i64 1048576] w (SizeK w k) := by
  have k1 := Blk.new w 39 #[.int .i64 k.id, .int .i64 k.time, .int .i64 k.next, a, b, c]
  have hB0 := (Below.refl w.heap.size w).alloc (Nat.le_refl _) (.cells #[.int .i64 k.id, .int .i64 k.time, .int .i64 k.next, a, b, c] 39)
  have i1 := h.later hB0
  have HF := Lib.hid (fun (p : k.held.length ≤ 1048576) (q : k.marks.length ≤ 1048576) (r : k.inbox.length ≤ 1048576) => show Few k from ⟨p, q, r⟩)
  clear h
  go_enter Tryz.func13, Tryz.ntmps13
  go_wp2_with fail
  generalize w.heap.size = R at k1 ⊢
  generalize w.alloc (.cells #[.int .i64 k.id, .int .i64 k.time, .int .i64 k.next, a, b, c] 39) = V at k1 hB0 i1 ⊢
  refine (szN_any _ _ _ i1.held i1.heldS 1048576 (by omega) (by omega)).mono ?_
  rintro e w1 ⟨x, rfl, x0, x1, hx, hB1⟩
  have k2 := k1.below hB1 k1.lt
  have i2 := i1.later hB1
  have hB2 := hB0.trans (hB1.mono hB0.size)
  have d1 := k2.cell 4
  simp only [List.getElem?_toArray, List.getElem?_cons_zero, List.getElem?_cons_succ] at d1
  clear k1 i1 hB1 hB0
  by_cases hn : x < 0
  · go_wp2
    go_ret
    exact ⟨_, rfl, by omega, hB2⟩
  go_wp2_with fail
  refine (szM_any _ _ _ i2.marks x (by omega) (by omega)).mono ?_
  rintro e w2 ⟨y, rfl, y0, y1, hy, hB3⟩
  have k3 := k2.below hB3 k2.lt
  have i3 := i2.later hB3
  have hB4 := hB2.trans (hB3.mono hB2.size)
  clear d1
  have d2 := k3.cell 5
  simp only [List.getElem?_toArray, List.getElem?_cons_zero, List.getElem?_cons_succ] at d2
  clear k2 i2 hB3 hB2
  by_cases hn2 : y < 0
  · go_wp2
    go_ret
    exact ⟨_, rfl, by omega, hB4⟩
  go_wp2_with fail
  refine (szN_any _ _ _ i3.inbox i3.inboxS y (by omega) (by omega)).mono ?_
  rintro e w3 ⟨z, rfl, z0, z1, hz, hB5⟩
  have hB6 := hB4.trans (hB5.mono hB4.size)
  clear d2 k3 i3 hB4 hB5
  by_cases hn3 : z < 0
  · go_wp2
    go_ret
    exact ⟨_, rfl, by omega, hB6⟩
  · have HF2 := Lib.hid (HF.out (hx (by omega)) (hy (by omega)) (hz (by omega)))
    go_wp2
    go_ret
    exact ⟨_, rfl, fun _ => HF2.out, hB6⟩
end Go.Proofs.YtgihbilpimempabGreatDoor.kp

