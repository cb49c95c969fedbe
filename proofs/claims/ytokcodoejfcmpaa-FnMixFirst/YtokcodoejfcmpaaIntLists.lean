/-
  Contracts of the laws' own loops over lists of ints: lbInts, eqIntS (where both lists are one), markIntS, heldIntS.
-/
import Derived.Test.YtokcodoejfcmpaaRows
import Derived.Test.YtokcodoejfcmpaaWords
import Derived.WalkKit
import Derived.ProofKit
import Derived.Lib.Hide
import Derived.Deep.QuietTactic
import Derived.BigQuiet
import Derived.OwnWalk
namespace Go.Proofs.Ytokcodoejfcmpaa.il
open Go.ChangeShapes Go.WideShapes Go.ChangeAt Go.RowKit
open Go.Proofs.Ytokcodoejfcmpaa.wd

/-- a slice that reads as a list of ints -/
def Sees (w : World) (v : Value) (l : List Int) : Prop :=
  ∃ A c, v = .slice A l.length c ∧ (0 < l.length → ∃ g, A = some ⟨g, 0, none⟩ ∧ ∀ i, i < l.length → w.cell? ⟨g, i, none⟩ = some (.int .i64 (l.getD i 0)))

theorem sees_of_own {w : World} {base : Nat} {v : Value} {l : List Int} (h : w.ownsRow base 3 1 v l.length (l.map (Value.int .i64))) : Sees w v l := by
  rcases h.2 with ⟨rfl, hn⟩ | ⟨g, cap, cur, rfl, hb, hh, hn, hm, hs, ht⟩
  · have : l = [] := List.length_eq_zero_iff.mp hn
    subst this
    exact ⟨none, 0, rfl, fun h => absurd h (by simp)⟩
  · refine ⟨_, cap, rfl, fun _ => ⟨g, rfl, fun i hi => ?_⟩⟩
    have hc := World.ownsRow.cellAt (g := g) (cap := cap) h i (by omega)
    rw [hc]
    simp [List.getD, hi]

theorem sees_below {w w' : World} {v : Value} {l : List Int} (h : Sees w v l) (hb : ∀ g i, v = .slice (some ⟨g, 0, none⟩) l.length i → g < w.heap.size) (hB : Below w.heap.size w w') : Sees w' v l := by
  obtain ⟨A, c, rfl, hc⟩ := h
  refine ⟨A, c, rfl, fun hn => ?_⟩
  obtain ⟨g, rfl, hcell⟩ := hc hn
  exact ⟨g, rfl, fun i hi => (hB.cell (p := ⟨g, i, none⟩) (hb g c rfl)).trans (hcell i hi)⟩

def TruePost (w : World) (e : Ending) (w' : World) : Prop := e = .returned (.bool true) ∧ ∃ q, w' = w.drewN q

set_option maxHeartbeats 400000 in
theorem lb_same (w : World) (v1 v2 : Value) (l : List Int) (h1 : Sees w v1 l) (h2 : Sees w v2 l) (hl : l.length ≤ 1000000) :
    Calls Try.prog 19 #[v1, v2] w (TruePost w) := by
  obtain ⟨A1, c1, rfl, r1⟩ := h1
  obtain ⟨A2, c2, rfl, r2⟩ := h2
  go_enter Try.func19, Try.ntmps19
  go_wp2
  go_loopw [5] (fun i wr => ∃ k : Nat, k ≤ l.length ∧ i = .int .i64 k ∧ ∃ q, wr = w.drewN q) (fun i _ => (l.length + 1 : Nat) - (intOf i).toNat)
  case atStart => exact ⟨0, by omega, rfl, 0, rfl⟩
  case round =>
    obtain ⟨k, hk, rfl, q, rfl⟩ := hrel
    by_cases hkl : k < l.length
    · obtain ⟨g1, rfl, k1⟩ := r1 (by omega)
      obtain ⟨g2, rfl, k2⟩ := r2 (by omega)
      have e1 := k1 k hkl
      have e2 := k2 k hkl
      clear k1 k2 r1 r2
      generalize l.getD k 0 = x at e1 e2
      go_wp2
      go_quiet (fail)
      go_wp2
      go_roundw
      case rel => exact ⟨k + 1, by omega, by go_num, _, rfl⟩
      case measure => simp [intOf]; omega
    · go_wp2
      go_ret
      exact ⟨rfl, q, rfl⟩
set_option maxHeartbeats 400000 in
theorem eq_same (w : World) (v1 v2 : Value) (l : List Int) (h1 : Sees w v1 l) (h2 : Sees w v2 l) (hl : l.length ≤ 1000000) :
    Calls Try.prog 20 #[v1, v2] w (TruePost w) := by
  obtain ⟨A1, c1, rfl, r1⟩ := h1
  obtain ⟨A2, c2, rfl, r2⟩ := h2
  go_enter Try.func20, Try.ntmps20
  go_wp2
  go_loopw [5] (fun i wr => ∃ k : Nat, k ≤ l.length ∧ i = .int .i64 k ∧ ∃ q, wr = w.drewN q) (fun i _ => (l.length + 1 : Nat) - (intOf i).toNat)
  case atStart => exact ⟨0, by omega, rfl, 0, rfl⟩
  case round =>
    obtain ⟨k, hk, rfl, q, rfl⟩ := hrel
    by_cases hkl : k < l.length
    · obtain ⟨g1, rfl, k1⟩ := r1 (by omega)
      obtain ⟨g2, rfl, k2⟩ := r2 (by omega)
      have e1 := k1 k hkl
      have e2 := k2 k hkl
      clear k1 k2 r1 r2
      generalize l.getD k 0 = x at e1 e2
      go_wp2
      go_quiet (fail)
      go_wp2
      go_roundw
      case rel => exact ⟨k + 1, by omega, by go_num, _, rfl⟩
      case measure => simp [intOf]; omega
    · go_wp2
      go_ret
      exact ⟨rfl, q, rfl⟩

/-- the numbers from k on, n of them -/
def marks (k : Int) (n : Nat) : List Int := (List.range n).map fun (i : Nat) => k + (i : Int)
theorem marks_len (k : Int) (n : Nat) : (marks k n).length = n := by simp [marks]
theorem marks_at {k : Int} {n i : Nat} (h : i < n) : (marks k n).getD i 0 = k + i := by simp [marks, h]

/-- nothing but the slice's own block has changed, and none has come -/
def Touched (v : Value) (w w' : World) : Prop :=
  w'.os = w.os ∧ w'.tape = w.tape ∧ w'.output = w.output ∧ w'.heap.size = w.heap.size ∧ ∀ b, some b ≠ v.ownBlock → w'.heap[b]? = w.heap[b]?
theorem Touched.below {v : Value} {w w' : World} (h : Touched v w w') {B : Nat} (hB : ∀ g, v.ownBlock = some g → B ≤ g) : Below B w w' :=
  ⟨h.1, h.2.1, h.2.2.1, by rw [h.2.2.2.1]; exact Nat.le_refl _, fun k hk => h.2.2.2.2 k (fun e => by have := hB k e.symm; omega)⟩

def MarkPost (w : World) (v : Value) (k : Int) (n : Nat) (e : Ending) (w' : World) : Prop :=
  e = .returned (.int .i64 (k + n)) ∧ Sees w' v (marks k n) ∧ Touched v w w'

def MRel (w : World) (g cap : Nat) (k : Int) (i : Nat) (wr : World) : Prop :=
  (∃ cur, Blk wr g 3 cur ∧ cur.size = cap ∧ ∀ j, j < i → cur[j]? = some (.int .i64 (k + j))) ∧ Touched (.slice (some ⟨g, 0, none⟩) 0 0) w wr
theorem mrel_on {w : World} {g cap : Nat} {k : Int} {i : Nat} {wr : World} (h : MRel w g cap k i wr) (hi : i < cap) : MRel w g cap k (i + 1) (wr.setCell ⟨g, i, none⟩ (.int .i64 (k + i))) := by
  obtain ⟨⟨cur, hB, hs, hc⟩, t1, t2, t3, t4, t5⟩ := h
  refine ⟨⟨_, hB.put i _, by simpa using hs, fun j hj => ?_⟩, t1, t2, t3, by simpa using t4, fun b hb => ?_⟩
  · by_cases e : j = i
    · subst e; rw [Array.getElem?_setIfInBounds]; simp; omega
    · rw [Array.getElem?_setIfInBounds]; rw [if_neg (fun h => e h.symm)]; exact hc j (by omega)
  · have hne : b ≠ g := fun e => hb (by subst e; rfl)
    exact (Below.heap_setCell wr ⟨g, i, none⟩ _ b hne).trans (t5 b hb)

set_option maxHeartbeats 400000 in
theorem mark_any (w : World) (base : Nat) (v : Value) (k : Int) (n : Nat) (xs : List Value) (h : w.ownsRow base 3 1 v n xs) (hn : n ≤ 1000000) (k0 : 0 ≤ k) (k1 : k ≤ 1000000) :
    Calls Try.prog 21 #[v, .int .i64 k] w (MarkPost w v k n) := by
  rcases h.2 with ⟨rfl, rfl⟩ | ⟨g, cap, cur, rfl, hb, hh, hnc, hm, hs, ht⟩
  · clear h
    go_enter Try.func21, Try.ntmps21
    go_wp2
    go_loop [1, 5] (fun a i => i = .int .i64 0 ∧ a = .int .i64 k) (fun _ _ => 0)
    case atStart => exact ⟨rfl, rfl⟩
    case round =>
      obtain ⟨rfl, rfl⟩ := hrel
      go_wp2
      go_ret
      exact ⟨by simp, ⟨none, 0, rfl, fun h => absurd h (by simp [marks])⟩, rfl, rfl, rfl, rfl, fun _ _ => rfl⟩
  · have hR : MRel w g cap k 0 w := ⟨⟨cur, hh, by omega, fun j hj => absurd hj (by omega)⟩, rfl, rfl, rfl, rfl, fun _ _ => rfl⟩
    clear h ht hh hs hb
    have hm' : cap ≤ 9223372036854775807 := hm
    clear hm
    go_enter Try.func21, Try.ntmps21
    go_wp2
    go_loopw [1, 5] (fun a i wr => ∃ j : Nat, j ≤ n ∧ i = .int .i64 j ∧ a = .int .i64 (k + j) ∧ MRel w g cap k j wr) (fun _ i _ => (n + 1 : Nat) - (intOf i).toNat)
    case atStart => exact ⟨0, by omega, rfl, by go_num, hR⟩
    case round =>
      obtain ⟨j, hj, rfl, rfl, hM⟩ := hrel
      clear hR
      by_cases hjn : j < n
      · have R := Lib.hid (mrel_on hM (by omega))
        obtain ⟨⟨cur', hB, hs, hc⟩, hT⟩ := hM
        have fj := hB.frozen j
        obtain ⟨x, hx⟩ : ∃ x, wr.cell? ⟨g, j, none⟩ = some x := ⟨cur'[j]'(by omega), by rw [hB.cell j]; exact Array.getElem?_eq_getElem (by omega)⟩
        clear hB hs hc hT
        go_wp2
        go_roundw
        case rel => exact ⟨j + 1, by omega, by go_num, by go_num, R.out⟩
        case measure => simp [intOf]; omega
      · obtain rfl : j = n := by omega
        obtain ⟨⟨cur', hB, hs, hc⟩, t1, t2, t3, t4, t5⟩ := hM
        have P : Hid (Sees wr (.slice (some ⟨g, 0, none⟩) j cap) (marks k j)) :=
          ⟨_, cap, by rw [marks_len], fun _ => ⟨g, rfl, fun i hi => by rw [marks_len] at hi; rw [marks_at hi, hB.cell i]; exact hc i hi⟩⟩
        have T : Hid (Touched (.slice (some ⟨g, 0, none⟩) j cap) w wr) := ⟨t1, t2, t3, t4, t5⟩
        clear hB hs hc t1 t2 t3 t4 t5
        go_wp2
        go_ret
        exact ⟨rfl, P.out, T.out⟩

set_option maxHeartbeats 400000 in
theorem held_any (w : World) (v : Value) (k : Int) (n : Nat) (h : Sees w v (marks k n)) (hn : n ≤ 1000000) (k0 : 0 ≤ k) (k1 : k ≤ 1000000) :
    Calls Try.prog 22 #[v, .int .i64 k] w fun e w' => e = .returned (.int .i64 (k + n)) ∧ w = w' := by
  obtain ⟨A, c, rfl, hc⟩ := h
  rw [marks_len] at hc ⊢
  go_enter Try.func22, Try.ntmps22
  go_wp2
  go_loop [1, 5] (fun a i => ∃ j : Nat, j ≤ n ∧ i = .int .i64 j ∧ a = .int .i64 (k + j)) (fun _ i => (n + 1 : Nat) - (intOf i).toNat)
  case atStart => exact ⟨0, by omega, rfl, by go_num⟩
  case round =>
    obtain ⟨j, hj, rfl, rfl⟩ := hrel
    by_cases hjn : j < n
    · obtain ⟨g, rfl, hcell⟩ := hc (by omega)
      have e := hcell j hjn
      rw [marks_at hjn] at e
      clear hc hcell
      go_wp2
      go_round
      case rel => exact ⟨j + 1, by omega, by go_num, by go_num⟩
      case measure => simp [intOf]; omega
    · obtain rfl : j = n := by omega
      go_wp2
      go_ret
      exact ⟨rfl, rfl⟩
end Go.Proofs.Ytokcodoejfcmpaa.il
