/-
  Contracts of eqMixed, eqMixedS (where both lists are one), markMixedS.
-/
import Derived.Test.YtokajeomojlinaaExactL2
namespace Go.Proofs.Ytokajeomojlinaa.ls
open Go.ChangeShapes Go.WideShapes Go.ChangeAt Go.RowKit
open Go.Proofs.Ytokajeomojlinaa.wd Go.Proofs.Ytokajeomojlinaa.cp Go.Proofs.Ytokajeomojlinaa.mp Go.Proofs.Ytokajeomojlinaa.pp Go.Proofs.Ytokajeomojlinaa.ow Go.Proofs.Ytokajeomojlinaa.sl

def YesPost (w : World) (e : Ending) (w' : World) : Prop := e = .returned (.bool true) ∧ Below w.heap.size w w'

theorem eq_one (n : Int) (d : ByteArray) (w : World) : Calls Try.prog 71 #[.agg #[.int .i64 n, .string d], .agg #[.int .i64 n, .string d]] w (YesPost w) := by
  go_enter Try.func71, Try.ntmps71
  go_wp2
  go_ret
  exact ⟨rfl, ((Below.refl _ _).alloc (Nat.le_refl _) _).alloc (by simp) _⟩

set_option maxRecDepth 100000 in
set_option maxHeartbeats 1600000 in
theorem eqM_same (w : World) (v1 v2 : Value) (l : List Mx) (h1 : SeesM w v1 l) (h2 : SeesM w v2 l) (hl : l.length ≤ 1048576) :
    Calls Try.prog 40 #[v1, v2] w (YesPost w) := by
  have H1 := Lib.hid h1
  have H2 := Lib.hid h2
  obtain ⟨A1, c1, rfl, _⟩ := h1
  obtain ⟨A2, c2, rfl, _⟩ := h2
  go_enter Try.func40, Try.ntmps40
  go_wp2
  go_loopw [5] (fun i wr => ∃ k : Nat, k ≤ l.length ∧ i = .int .i64 k ∧ Below w.heap.size w wr) (fun i _ => (l.length + 1 : Nat) - (intOf i).toNat)
  case atStart => exact ⟨0, by omega, rfl, Below.refl _ _⟩
  case round =>
    obtain ⟨k, hk, rfl, hB⟩ := hrel
    by_cases hkl : k < l.length
    · have hx : l[k]? = some l[k] := List.getElem?_eq_getElem hkl
      obtain ⟨g1, c1', e1, hg1, _, a0, a1⟩ := (H1.out.later hB).at hx
      obtain ⟨g2, c2', e2, hg2, _, b0, b1⟩ := (H2.out.later hB).at hx
      injection e1 with e1 _ q1
      injection e2 with e2 _ q2
      subst e1; subst e2; subst q1; subst q2
      generalize l[k] = m at a0 a1 b0 b1
      obtain ⟨num, d⟩ := m
      have hk0 : (0 : Int) ≤ (k : Int) := by omega
      have hk1 : (k : Int) < (l.length : Int) := by omega
      clear hx
      go_wp2_with fail
      go_region_held3 (fun w' => w'.cell? ⟨g1, k * 2, none⟩ = some (.int .i64 num) ∧ w'.cell? ⟨g1, k * 2 + 1, none⟩ = some (.string d) ∧ w'.cell? ⟨g2, k * 2, none⟩ = some (.int .i64 num) ∧ w'.cell? ⟨g2, k * 2 + 1, none⟩ = some (.string d)) (first | exact ⟨a0, a1, b0, b1⟩ | exact ⟨s0, s1, s2, s3⟩ | go_keep) ((go_at_call 71; refine (eq_one num d _).mono ?_; rintro e w2 ⟨rfl, hB2⟩; have s0 := (hB2.cell (p := ⟨g1, k * 2, none⟩) hg1).trans a0; have s1 := (hB2.cell (p := ⟨g1, k * 2 + 1, none⟩) hg1).trans a1; have s2 := (hB2.cell (p := ⟨g2, k * 2, none⟩) hg2).trans b0; have s3 := (hB2.cell (p := ⟨g2, k * 2 + 1, none⟩) hg2).trans b1))
      have R := Lib.hid (hB.drew.trans (hB2.mono hB.size))
      clear hB hB2 s0 s1 s2 s3 a0 a1 b0 b1
      go_wp2
      go_roundw
      case rel => exact ⟨k + 1, by omega, by go_num, R.out⟩
      case measure => simp [intOf]; omega
    · obtain rfl : k = l.length := by omega
      go_wp2
      go_ret
      exact ⟨rfl, hB⟩

def MarksPost (w : World) (v : Value) (n : Nat) (e : Ending) (w' : World) : Prop := e = .returned (.int .i64 ((1 + 2 * n : Nat) : Int)) ∧ Touched v w w'

set_option maxRecDepth 100000 in
set_option maxHeartbeats 1600000 in
theorem markM_any {w0 w : World} {v : Value} {l : List Mx} (h : OwnZ 40 2 w0 w v l.length (l.flatMap mc)) (hl : l.length ≤ 1048576) :
    Calls Try.prog 41 #[v, .int .i64 1] w (MarksPost w v l.length) := by
  rcases h.1.2 with ⟨rfl, h0⟩ | ⟨g, cap, cur, rfl, hb, hh, hnc, hm, hs, ht⟩
  · rw [h0]
    clear h h0
    go_enter Try.func41, Try.ntmps41
    go_wp2
    go_loop [1, 5] (fun a i => i = .int .i64 0 ∧ a = .int .i64 1) (fun _ _ => 0)
    case atStart => exact ⟨rfl, rfl⟩
    case round =>
      obtain ⟨rfl, rfl⟩ := hrel
      go_wp2
      go_ret
      exact ⟨rfl, Touched.refl _ _⟩
  · have hR : (∃ cur, Blk w g 40 cur ∧ cur.size = cap * 2) ∧ Touched (.slice (some ⟨g, 0, none⟩) l.length cap) w w := ⟨⟨cur, hh, hs⟩, Touched.refl _ _⟩
    have HR := Lib.hid hR
    have hm' : cap ≤ 9223372036854775807 := hm
    clear h ht hh hs hb hR hm
    generalize l.length = n at hl hnc HR ⊢
    go_enter Try.func41, Try.ntmps41
    go_wp2
    go_loopw [1, 5] (fun a i wr => ∃ j : Nat, j ≤ n ∧ i = .int .i64 j ∧ a = .int .i64 ((1 + 2 * j : Nat) : Int) ∧ (∃ cur, Blk wr g 40 cur ∧ cur.size = cap * 2) ∧ Touched (.slice (some ⟨g, 0, none⟩) n cap) w wr) (fun _ i _ => (n + 1 : Nat) - (intOf i).toNat)
    case atStart => exact ⟨0, by omega, rfl, by go_num, HR.out⟩
    case round =>
      obtain ⟨j, hj, rfl, rfl, ⟨cur, hB, hs⟩, hT⟩ := hrel
      clear HR
      by_cases hjn : j < n
      · have f0 := hB.frozen (j * 2)
        obtain ⟨x, hx⟩ : ∃ x, wr.cell? ⟨g, j * 2, none⟩ = some x := ⟨cur[j * 2]'(by omega), by rw [hB.cell]; exact Array.getElem?_eq_getElem (by omega)⟩
        have hj1 : (j : Int) < (n : Int) := by omega
        have hB1 := hB.put (j * 2) (.int .i64 (1 + 2 * (j : Int)))
        have hT1 := hT.set (j * 2) (.int .i64 (1 + 2 * (j : Int)))
        have hs1 : (cur.setIfInBounds (j * 2) (.int .i64 (1 + 2 * (j : Int)))).size = cap * 2 := by simpa using hs
        generalize cur.setIfInBounds (j * 2) (.int .i64 (1 + 2 * (j : Int))) = cur1 at hB1 hs1
        clear hB hT hs
        go_wp2_with fail
        generalize hW : wr.setCell _ _ = W at hB1 hT1 ⊢
        clear hW hx f0
        rw [show (1 : Int) + 2 * (j : Int) + 1 = ((2 * j + 2 : Nat) : Int) by omega]
        refine (mark_text (2 * j + 2) (by omega) (by omega) _).mono ?_
        rintro e w2 ⟨rfl, hB2⟩
        have hB3 := hB1.below hB2 hB1.lt
        have hT3 := (hT1.on hB2).set (j * 2 + 1) (.string (mt (2 * j + 2)))
        have f1 := hB3.frozen (j * 2 + 1)
        obtain ⟨y, hy⟩ : ∃ x, w2.cell? ⟨g, j * 2 + 1, none⟩ = some x := ⟨cur1[j * 2 + 1]'(by omega), by rw [hB3.cell]; exact Array.getElem?_eq_getElem (by omega)⟩
        have R := Lib.hid (show (∃ cur, Blk (w2.setCell ⟨g, j * 2 + 1, none⟩ (.string (mt (2 * j + 2)))) g 40 cur ∧ cur.size = cap * 2) ∧ Touched (.slice (some ⟨g, 0, none⟩) n cap) w (w2.setCell ⟨g, j * 2 + 1, none⟩ (.string (mt (2 * j + 2)))) from ⟨⟨_, hB3.put _ _, by simpa using hs1⟩, hT3⟩)
        clear hB1 hT1 hB2 hB3 hT3 hs1
        generalize mt (2 * j + 2) = X at R ⊢
        go_wp2
        go_roundw
        case rel => exact ⟨j + 1, by omega, by go_num, by go_num, R.out⟩
        case measure => simp [intOf]; omega
      · obtain rfl : j = n := by omega
        clear hB
        go_wp2
        go_ret
        exact ⟨rfl, hT⟩
end Go.Proofs.Ytokajeomojlinaa.ls
