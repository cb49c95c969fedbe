/-
  Contracts of the laws' own helpers: markKeep, heldNoteS, heldMarkS, heldKeep: marks that were written are found again.
-/
import Derived.Test.YtckicpnnclbkpaaKeepMark
namespace Go.Proofs.Ytckicpnnclbkpaa.kp
open Go.ChangeShapes Go.WideShapes Go.ChangeAt Go.RowKit
open Go.Proofs.Ytckicpnnclbkpaa.wd Go.Proofs.Ytckicpnnclbkpaa.ow Go.Proofs.Ytckicpnnclbkpaa.rl Go.Proofs.Ytckicpnnclbkpaa.ok Go.Proofs.Ytckicpnnclbkpaa.sl

def FoundPost (w : World) (y : Int) (e : Ending) (w' : World) : Prop := e = .returned (.int .i64 y) ∧ Below w.heap.size w w'

set_option maxRecDepth 100000 in
set_option maxHeartbeats 1600000 in
theorem heldN_any (w : World) (v : Value) (x : Int) (n : Nat) (h : SeesN w v (ntMs x n)) (hx : 1 ≤ x) (hn : x + 5 * n < 100000000) :
    Calls Try.prog 23 #[v, .int .i64 x] w (FoundPost w (x + 5 * n)) := by
  have HS := Lib.hid h
  obtain ⟨A, c, rfl, _⟩ := h
  have HL := Lib.hid (ntMs_len x n)
  rw [ntMs_len]
  go_enter Try.func23, Try.ntmps23
  go_wp2
  go_loopw [1, 5] (fun a i wr => ∃ (j : Nat) (y : Int), j ≤ n ∧ i = .int .i64 j ∧ a = .int .i64 y ∧ Hid (y = x + 5 * j) ∧ 1 ≤ y ∧ y + 5 * (n - j : Nat) < 100000000 ∧ Below w.heap.size w wr) (fun _ i _ => (n + 1 : Nat) - (intOf i).toNat)
  case atStart => exact ⟨0, x, by omega, rfl, rfl, by show x = x + 5 * ((0 : Nat) : Int); omega, hx, by omega, Below.refl _ _⟩
  case round =>
    obtain ⟨j, y, hj, rfl, rfl, HY, y0, y1, hB⟩ := hrel
    by_cases hjn : j < n
    · have ha : (ntMs x n)[j]? = some (ntM y) := by rw [ntMs_at hjn, HY.out]
      obtain ⟨g, c', e, hg, _, t0, t1, t2, t3, t4⟩ := note_at (HS.out.later hB) ha
      rw [HL.out] at e
      injection e with e1 e2 e3
      subst e1; subst e3
      change wr.cell? ⟨g, j * 5, none⟩ = some (.int .i64 y) at t0
      change wr.cell? ⟨g, j * 5 + 1, none⟩ = some (.int .i64 (y + 1)) at t1
      change wr.cell? ⟨g, j * 5 + 2, none⟩ = some (.int .i64 (y + 1 + 1)) at t2
      change wr.cell? ⟨g, j * 5 + 3, none⟩ = some (.int .i64 (y + 1 + 1 + 1)) at t3
      change wr.cell? ⟨g, j * 5 + 4, none⟩ = some (.string (mt (y + 1 + 1 + 1 + 1).toNat)) at t4
      have hj0 : (0 : Int) ≤ (j : Int) := by omega
      have hj1 : (j : Int) < (n : Int) := by omega
      have hz := hB.size
      have HY2 := Lib.hid (show y + 1 + 1 + 1 + 1 + 1 = x + 5 * ((j + 1 : Nat) : Int) by have := HY.out; omega)
      have HM := Lib.hid (fun V => mark_int (y + 1 + 1 + 1 + 1) (by omega) (by omega) V)
      clear ha
      generalize mt (y + 1 + 1 + 1 + 1).toNat = txt at t4 HM
      go_wp2_with fail
      go_region_held3 (fun w' => w'.cell? ⟨g, j * 5 + 4, none⟩ = some (.string txt)) (first | exact t4 | exact s1 | go_keep) ((go_at_call 31; refine (HM.out _).mono ?_; rintro e w2 ⟨rfl, hB2⟩; have s1 := (hB2.cell (p := ⟨g, j * 5 + 4, none⟩) hg).trans t4))
      have hB3 : Below w.heap.size w w2 := hB.trans (Below.mono ⟨hB2.os, hB2.tape, hB2.output, hB2.size, hB2.block⟩ hz)
      clear hB2 s1 t0 t1 t2 t3 t4
      go_wp2
      go_roundw
      case rel => exact ⟨j + 1, y + 1 + 1 + 1 + 1 + 1, by omega, by go_num, rfl, HY2.out, by omega, by omega, hB3⟩
      case measure => simp [intOf]; omega
    · obtain rfl : j = n := by omega
      go_wp2
      go_ret
      exact ⟨ow.ret_int HY.out, hB⟩

/-- what marks a keep of these lengths -/
def kM (x : Int) (h m i : Nat) : Kp := ⟨0, 0, 0, ntMs x h, mkMs (x + 5 * h) m, ntMs (x + 5 * h + 3 * m) i⟩
def kN (x : Int) (h m i : Nat) : Int := x + 5 * h + 3 * m + 5 * i

/-- nothing old has turned but the three lists -/
structure Marked (w w' : World) (a b c : Value) : Prop where
  os : w'.os = w.os
  tape : w'.tape = w.tape
  output : w'.output = w.output
  size : w.heap.size ≤ w'.heap.size
  block : ∀ k, k < w.heap.size → a.ownBlock ≠ some k → b.ownBlock ≠ some k → c.ownBlock ≠ some k → w'.heap[k]? = w.heap[k]?
/-- three lists of the call's own, apart -/
structure Own3 (B : Nat) (W : World) (k : Kp) (a b c : Value) : Prop where
  held : OwnAt ntS 60 B W a k.held
  marks : OwnAt mkS 100 B W b k.marks
  inbox : OwnAt ntS 60 B W c k.inbox
  hm : Apart a b
  hi : Apart a c
  mi : Apart b c
theorem OwnK.three {w0 w : World} {k : Kp} {a b c : Value} (h : OwnK w0 w k a b c) : Own3 w0.heap.size w k a b c := ⟨h.held.1, h.marks.1, h.inbox.1, h.hm, h.hi, h.mi⟩
theorem Own3.sees {B : Nat} {W : World} {k : Kp} {a b c : Value} (h : Own3 B W k a b c) : SeesK W k a b c := ⟨h.held.sees, h.marks.sees, h.inbox.sees⟩

def MarkedPost (w : World) (B : Nat) (x : Int) (h m i : Nat) (a b c : Value) (e : Ending) (w' : World) : Prop := e = .returned (.int .i64 (kN x h m i)) ∧ Own3 B w' (kM x h m i) a b c ∧ Marked w w' a b c

end Go.Proofs.Ytckicpnnclbkpaa.kp
