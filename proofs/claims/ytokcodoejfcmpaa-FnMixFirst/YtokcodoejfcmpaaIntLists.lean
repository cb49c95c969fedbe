/-
  Contracts of the laws' own loops over lists of ints: lbInts, eqIntS (where both lists are one), markIntS, heldIntS.
-/
import Derived.Test.YtokcodoejfcmpaaRows
import Derived.Test.YtokcodoejfcmpaaWords
import Derived.WalkKit
import Derived.ProofKit
import Derived.Lib.Hide
import Derived.Deep.QuietTactic
import Derived.BigQuiet
import Derived.OwnWalk
namespace Go.Proofs.Ytokcodoejfcmpaa.il
open Go.ChangeShapes Go.WideShapes Go.ChangeAt Go.RowKit
open Go.Proofs.Ytokcodoejfcmpaa.wd

/-- a slice that reads as a list of ints -/
def Sees (w : World) (v : Value) (l : List Int) : Prop :=
  ∃ A c, v = .slice A l.length c ∧ (0 < l.length → ∃ g, A = some ⟨g, 0, none⟩ ∧ ∀ i, i < l.length → w.cell? ⟨g, i, none⟩ = some (.int .i64 (l.getD i 0)))

theorem sees_of_own {w : World} {base : Nat} {v : Value} {l : List Int} (h : w.ownsRow base 3 1 v l.length (l.map (Value.int .i64))) : Sees w v l := by
  rcases h.2 with ⟨rfl, hn⟩ | ⟨g, cap, cur, rfl, hb, hh, hn, hm, hs, ht⟩
  · have : l = [] := List.length_eq_zero_iff.mp hn
    subst this
    exact ⟨none, 0, rfl, fun h => absurd h (by simp)⟩
  · refine ⟨_, cap, rfl, fun _ => ⟨g, rfl, fun i hi => ?_⟩⟩
    have hc := World.ownsRow.cellAt (g := g) (cap := cap) h i (by omega)
    rw [hc]
    simp [List.getD, hi]

theorem sees_below {w w' : World} {v : Value} {l : List Int} (h : Sees w v l) (hb : ∀ g i, v = .slice (some ⟨g, 0, none⟩) l.length i → g < w.heap.size) (hB : Below w.heap.size w w') : Sees w' v l := by
  obtain ⟨A, c, rfl, hc⟩ := h
  refine ⟨A, c, rfl, fun hn => ?_⟩
  obtain ⟨g, rfl, hcell⟩ := hc hn
  exact ⟨g, rfl, fun i hi => (hB.cell (p := ⟨g, i, none⟩) (hb g c rfl)).trans (hcell i hi)⟩

def TruePost (w : World) (e : Ending) (w' : World) : Prop := e = .returned (.bool true) ∧ ∃ q, w' = w.drewN q

set_option maxHeartbeats 400000 in
theorem lb_same (w : World) (v1 v2 : Value) (l : List Int) (h1 : Sees w v1 l) (h2 : Sees w v2 l) (hl : l.length ≤ 1000000) :
    Calls Try.prog 19 #[v1, v2] w (TruePost w) := by
  obtain ⟨A1, c1, rfl, r1⟩ := h1
  obtain ⟨A2, c2, rfl, r2⟩ := h2
  go_enter Try.func19, Try.ntmps19
  go_wp2
  go_loopw [5] (fun i wr => ∃ k : Nat, k ≤ l.length ∧ i = .int .i64 k ∧ ∃ q, wr = w.drewN q) (fun i _ => (l.length + 1 : Nat) - (intOf i).toNat)
  case atStart => exact ⟨0, by omega, rfl, 0, rfl⟩
  case round =>
    obtain ⟨k, hk, rfl, q, rfl⟩ := hrel
    by_cases hkl : k < l.length
    · obtain ⟨g1, rfl, k1⟩ := r1 (by omega)
      obtain ⟨g2, rfl, k2⟩ := r2 (by omega)
      have e1 := k1 k hkl
      have e2 := k2 k hkl
      clear k1 k2 r1 r2
      generalize l.getD k 0 = x at e1 e2
      go_wp2
      go_quiet (fail)
      go_wp2
      go_roundw
      case rel => exact ⟨k + 1, by omega, by go_num, _, rfl⟩
      case measure => simp [intOf]; omega
    · go_wp2
      go_ret
      exact ⟨rfl, q, rfl⟩
set_option maxHeartbeats 400000 in
theorem eq_same (w : World) (v1 v2 : Value) (l : List Int) (h1 : Sees w v1 l) (h2 : Sees w v2 l) (hl : l.length ≤ 1000000) :
    Calls Try.prog 20 #[v1, v2] w (TruePost w) := by
  obtain ⟨A1, c1, rfl, r1⟩ := h1
  obtain ⟨A2, c2, rfl, r2⟩ := h2
  go_enter Try.func20, Try.ntmps20
  go_wp2
  go_loopw [5] (fun i wr => ∃ k : Nat, k ≤ l.length ∧ i = .int .i64 k ∧ ∃ q, wr = w.drewN q) (fun i _ => (l.length + 1 : Nat) - (intOf i).toNat)
  case atStart => exact ⟨0, by omega, rfl, 0, rfl⟩
  case round =>
    obtain ⟨k, hk, rfl, q, rfl⟩ := hrel
    by_cases hkl : k < l.length
    · obtain ⟨g1, rfl, k1⟩ := r1 (by omega)
      obtain ⟨g2, rfl, k2⟩ := r2 (by omega)
      have e1 := k1 k hkl
      have e2 := k2 k hkl
      clear k1 k2 r1 r2
      generalize l.getD k 0 = x at e1 e2
      go_wp2
      go_quiet (fail)
      go_wp2
      go_roundw
      case rel => exact ⟨k + 1, by omega, by go_num, _, rfl⟩
      case measure => simp [intOf]; omega
    · go_wp2
      go_ret
      exact ⟨rfl, q, rfl⟩
end Go.Proofs.Ytokcodoejfcmpaa.il
