/-
  Contracts of the laws' own helpers over what a keeper has: eqMark, eqNoteS, eqMarkS, eqKeep (where both are the same); szKeep; toKeep.
-/
import Derived.Test.YtckicpnnclbkpaaKeepTo
import Derived.Test.YtckicpnnclbkpaaEqNote
import Derived.Deep.RegionHeld3
namespace Go.Proofs.Ytckicpnnclbkpaa.kp
open Go.ChangeShapes Go.WideShapes Go.ChangeAt Go.RowKit
open Go.Proofs.Ytckicpnnclbkpaa.wd Go.Proofs.Ytckicpnnclbkpaa.ow Go.Proofs.Ytckicpnnclbkpaa.rl Go.Proofs.Ytckicpnnclbkpaa.ok

def YesPost (w : World) (e : Ending) (w' : World) : Prop := e = .returned (.bool true) ∧ Below w.heap.size w w'

theorem eqNt_same (f n t u : Int) (s : ByteArray) (w : World) : Calls Try.prog 30 #[note f n t u s, note f n t u s] w (YesPost w) := ok.eq_same f n t u s w

set_option maxRecDepth 100000 in
set_option maxHeartbeats 1600000 in
theorem eqN_same (w : World) (v1 v2 : Value) (l : List Nt) (h1 : SeesN w v1 l) (h2 : SeesN w v2 l) (hl : l.length ≤ 1048576) :
    Calls Try.prog 15 #[v1, v2] w (YesPost w) := by
  have H1 := Lib.hid h1
  have H2 := Lib.hid h2
  obtain ⟨A1, c1, rfl, _⟩ := h1
  obtain ⟨A2, c2, rfl, _⟩ := h2
  go_enter Try.func15, Try.ntmps15
  go_wp2
  go_loopw [5] (fun i wr => ∃ k : Nat, k ≤ l.length ∧ i = .int .i64 k ∧ Below w.heap.size w wr) (fun i _ => (l.length + 1 : Nat) - (intOf i).toNat)
  case atStart => exact ⟨0, by omega, rfl, Below.refl _ _⟩
  case round =>
    obtain ⟨k, hk, rfl, hB⟩ := hrel
    by_cases hkl : k < l.length
    · have hx : l[k]? = some l[k] := List.getElem?_eq_getElem hkl
      obtain ⟨g1, c1', e1, hg1, _, a0, a1, a2, a3, a4⟩ := note_at (H1.out.later hB) hx
      obtain ⟨g2, c2', e2, hg2, _, b0, b1, b2, b3, b4⟩ := note_at (H2.out.later hB) hx
      injection e1 with e1 _ q1
      injection e2 with e2 _ q2
      subst e1; subst e2; subst q1; subst q2
      generalize l[k] = y at a0 a1 a2 a3 a4 b0 b1 b2 b3 b4
      have hk0 : (0 : Int) ≤ (k : Int) := by omega
      have hk1 : (k : Int) < (l.length : Int) := by omega
      have HE := Lib.hid (fun V => eqNt_same y.f y.n y.t y.u y.s V)
      unfold note at HE
      clear hx
      go_wp2_with fail
      go_region_held3 (fun w' => w'.cell? ⟨g1, k * 5, none⟩ = some (.int .i64 y.f) ∧ w'.cell? ⟨g1, k * 5 + 1, none⟩ = some (.int .i64 y.n) ∧ w'.cell? ⟨g1, k * 5 + 2, none⟩ = some (.int .i64 y.t) ∧ w'.cell? ⟨g1, k * 5 + 3, none⟩ = some (.int .i64 y.u) ∧ w'.cell? ⟨g1, k * 5 + 4, none⟩ = some (.string y.s) ∧ w'.cell? ⟨g2, k * 5, none⟩ = some (.int .i64 y.f) ∧ w'.cell? ⟨g2, k * 5 + 1, none⟩ = some (.int .i64 y.n) ∧ w'.cell? ⟨g2, k * 5 + 2, none⟩ = some (.int .i64 y.t) ∧ w'.cell? ⟨g2, k * 5 + 3, none⟩ = some (.int .i64 y.u) ∧ w'.cell? ⟨g2, k * 5 + 4, none⟩ = some (.string y.s)) (first | exact ⟨a0, a1, a2, a3, a4, b0, b1, b2, b3, b4⟩ | exact ⟨s0, s1, s2, s3, s4, r0, r1, r2, r3, r4⟩ | go_keep) ((go_at_call 30; refine (HE.out _).mono ?_; rintro e w2 ⟨rfl, hB2⟩; have s0 := (hB2.cell (p := ⟨g1, k * 5, none⟩) hg1).trans a0; have s1 := (hB2.cell (p := ⟨g1, k * 5 + 1, none⟩) hg1).trans a1; have s2 := (hB2.cell (p := ⟨g1, k * 5 + 2, none⟩) hg1).trans a2; have s3 := (hB2.cell (p := ⟨g1, k * 5 + 3, none⟩) hg1).trans a3; have s4 := (hB2.cell (p := ⟨g1, k * 5 + 4, none⟩) hg1).trans a4; have r0 := (hB2.cell (p := ⟨g2, k * 5, none⟩) hg2).trans b0; have r1 := (hB2.cell (p := ⟨g2, k * 5 + 1, none⟩) hg2).trans b1; have r2 := (hB2.cell (p := ⟨g2, k * 5 + 2, none⟩) hg2).trans b2; have r3 := (hB2.cell (p := ⟨g2, k * 5 + 3, none⟩) hg2).trans b3; have r4 := (hB2.cell (p := ⟨g2, k * 5 + 4, none⟩) hg2).trans b4))
      have R := Lib.hid (hB.drew.trans (hB2.mono hB.size))
      clear hB hB2 s0 s1 s2 s3 s4 r0 r1 r2 r3 r4 a0 a1 a2 a3 a4 b0 b1 b2 b3 b4
      go_wp2
      go_roundw
      case rel => exact ⟨k + 1, by omega, by go_num, R.out⟩
      case measure => simp [intOf]; omega
    · obtain rfl : k = l.length := by omega
      go_wp2
      go_ret
      exact ⟨rfl, hB⟩

/-- short lists -/
def Few (k : Kp) : Prop := k.held.length ≤ 1048576 ∧ k.marks.length ≤ 1048576 ∧ k.inbox.length ≤ 1048576

end Go.Proofs.Ytckicpnnclbkpaa.kp
