/-
  Contracts of the reader of a code: spec.l6Open, (*spec.l6Rd).pick: a number from 0 to n-1, whatever the code.
-/
import Derived.Test.YtgihbilpimempaaDoorRows
import Derived.Test.YtgihbilpimempaaDoorWords
import Derived.WalkKit
import Derived.ProofKit
import Derived.Lib.Hide
import Derived.Deep.QuietTactic
import Derived.BigQuiet
import Derived.Laws.BitsAllLaws
namespace Go.Proofs.YtgihbilpimempaaDoor.pk
open Go.ChangeShapes Go.WideShapes Go.ChangeAt Go.RowKit
open Go.Proofs.YtgihbilpimempaaDoor.wd

theorem xor_nonneg (x y : Int) (h0 : 0 ≤ x) (h1 : x < 4611686018427387904) (h2 : 0 ≤ y) (h3 : y < 4611686018427387904) : 0 ≤ bits .xor .i64 x y := by
  obtain ⟨a, rfl⟩ := Int.eq_ofNat_of_zero_le h0
  obtain ⟨b, rfl⟩ := Int.eq_ofNat_of_zero_le h2
  have hx : a ^^^ b < 2 ^ 62 := Nat.xor_lt_two_pow (by omega) (by omega)
  show 0 ≤ IntKind.i64.wrap ((BitVec.ofInt 64 (a : Int) ^^^ BitVec.ofInt 64 (b : Int)).toNat : Int)
  rw [BitVec.toNat_xor, ofInt_u64 a (by omega), ofInt_u64 b (by omega)]
  simp [IntKind.wrap, IntKind.bits, IntKind.signed]
  omega

/-- a reader: its code, how far it has come -/
def Rd (w : World) (b : Nat) (A : Option Addr) (len cap : Nat) (p : Int) : Prop :=
  Blk w b 60 #[.slice A len cap, .int .i64 p] ∧ Bytes w b A len ∧ len ≤ 2000 ∧ 0 ≤ p

def PickPost (w : World) (b : Nat) (p n : Int) (e : Ending) (w' : World) : Prop :=
  ∃ (v : Int) (k : Nat), e = .returned (.int .i64 v) ∧ 0 ≤ v ∧ v < n ∧ w' = (w.setCell ⟨b, 1, none⟩ (.int .i64 (p + 1))).drewN k

theorem pick_none (w : World) (b : Nat) (A : Option Addr) (cap : Nat) (p n : Int) (h : Rd w b A 0 cap p) (hp : p ≤ 1000000) (hn : 1 ≤ n) (hn' : n ≤ 100000) :
    Calls Tryd.prog 35 #[.pointer (some ⟨b, 0, none⟩), .int .i64 n] w (PickPost w b p n) := by
  obtain ⟨hB, hby, hl, h0⟩ := h
  have c0 := hB.cell 0
  have c1 := hB.cell 1
  have f1 := hB.frozen 1
  simp at c0 c1
  go_enter Tryd.func35, Tryd.ntmps35
  go_wp2
  go_ret
  exact ⟨0, 0, rfl, by omega, by omega, rfl⟩

theorem pick_near (w : World) (b : Nat) (A : Option Addr) (len cap : Nat) (p n : Int) (h : Rd w b A len cap p) (hp : p ≤ 1000000) (hn : 1 ≤ n) (hn' : n ≤ 100000) (hlt : p < len) :
    Calls Tryd.prog 35 #[.pointer (some ⟨b, 0, none⟩), .int .i64 n] w (PickPost w b p n) := by
  obtain ⟨hB, hby, hl, h0⟩ := h
  have c0 := hB.cell 0
  have c1 := hB.cell 1
  have f1 := hB.frozen 1
  simp at c0 c1
  obtain ⟨g, o, rfl, hg, hc⟩ := hby (by omega)
  obtain ⟨v, hv, v0, v1⟩ := hc p.toNat (by omega)
  clear hc hB hby
  have hne : ((len : Int) == 0) = false := by simp; omega
  have hgb : g ≠ b := by omega
  have H := Lib.hid hgb; clear hgb
  go_enter Tryd.func35, Tryd.ntmps35
  go_wp2
  go_ret
  exact ⟨v % n, 0, rfl, Int.emod_nonneg _ (by omega), Int.emod_lt_of_pos _ (by omega), rfl⟩

theorem pick_far (w : World) (b : Nat) (A : Option Addr) (len cap : Nat) (p n : Int) (h : Rd w b A len cap p) (hp : p ≤ 1000000) (hn : 1 ≤ n) (hn' : n ≤ 100000) (hlt : (len : Int) ≤ p) (hpos : 0 < len) :
    Calls Tryd.prog 35 #[.pointer (some ⟨b, 0, none⟩), .int .i64 n] w (PickPost w b p n) := by
  obtain ⟨hB, hby, hl, h0⟩ := h
  have c0 := hB.cell 0
  have c1 := hB.cell 1
  have f1 := hB.frozen 1
  simp at c0 c1
  obtain ⟨g, o, rfl, hg, hc⟩ := hby (by omega)
  have m0 : 0 ≤ p % len := Int.emod_nonneg p (by omega)
  have m1 : p % len < len := Int.emod_lt_of_pos p (by omega)
  have m2 : 0 ≤ (p * 7 + 3) % len := Int.emod_nonneg _ (by omega)
  have m3 : (p * 7 + 3) % len < len := Int.emod_lt_of_pos _ (by omega)
  have m4 : 0 ≤ p / len := Int.ediv_nonneg (by omega) (by omega)
  have m5 : p / len ≤ 1000000 := Int.le_trans (Int.ediv_le_self _ (by omega)) hp
  obtain ⟨v, hv, v0, v1⟩ := hc (p % len).toNat (by omega)
  obtain ⟨u, hu, u0, u1⟩ := hc ((p * 7 + 3) % len).toNat (by omega)
  clear hc hB hby
  have hx := xor_nonneg (v * 131 + u * 1117 + p * 29 + p / len * 53) ((v * 131 + u * 1117 + p * 29 + p / len * 53) / 64) (by omega) (by omega) (by omega) (by omega)
  have hne : ((len : Int) == 0) = false := by simp; omega
  have hgb : g ≠ b := by omega
  have H := Lib.hid hgb; clear hgb
  go_enter Tryd.func35, Tryd.ntmps35
  go_wp2
  go_quiet (fail)
  go_wp2
  go_ret
  exact ⟨_, nq, rfl, Int.emod_nonneg _ (by omega), Int.emod_lt_of_pos _ (by omega), rfl⟩

theorem pick_any (w : World) (b : Nat) (A : Option Addr) (len cap : Nat) (p n : Int) (h : Rd w b A len cap p) (hp : p ≤ 1000000) (hn : 1 ≤ n) (hn' : n ≤ 100000) :
    Calls Tryd.prog 35 #[.pointer (some ⟨b, 0, none⟩), .int .i64 n] w (PickPost w b p n) := by
  by_cases h1 : p < len
  · exact pick_near w b A len cap p n h hp hn hn' h1
  · rcases Nat.eq_zero_or_pos len with rfl | h2
    · exact pick_none w b A cap p n h hp hn hn'
    · exact pick_far w b A len cap p n h hp hn hn' (by omega) h2

/-- a reader that picked is a reader still, one place on -/
theorem Rd.on {w : World} {b : Nat} {A : Option Addr} {len cap : Nat} {p : Int} (h : Rd w b A len cap p) (k : Nat) :
    Rd ((w.setCell ⟨b, 1, none⟩ (.int .i64 (p + 1))).drewN k) b A len cap (p + 1) := by
  obtain ⟨hB, hby, hl, h0⟩ := h
  refine ⟨?_, ?_, hl, by omega⟩
  · have := (hB.put 1 (.int .i64 (p + 1))).drewN k
    simpa using this
  · refine hby.keep fun g o hg => ?_
    show (w.setCell ⟨b, 1, none⟩ (.int .i64 (p + 1))).cell? ⟨g, o, none⟩ = _
    exact World.cell?_setCell_other w _ _ _ (fun e => by injection e; omega)

/-- only block b has changed, and none has come -/
def Only (b : Nat) (w w' : World) : Prop := Below b w w' ∧ (∀ k, k ≠ b → w'.heap[k]? = w.heap[k]?) ∧ w'.heap.size = w.heap.size
theorem Only.trans {b : Nat} {w w' w'' : World} (h : Only b w w') (k : Only b w' w'') : Only b w w'' :=
  ⟨h.1.trans k.1, fun i hi => (k.2.1 i hi).trans (h.2.1 i hi), k.2.2.trans h.2.2⟩

def Picked (w : World) (b : Nat) (A : Option Addr) (len cap : Nat) (p n : Int) (e : Ending) (w' : World) : Prop :=
  ∃ v : Int, e = .returned (.int .i64 v) ∧ 0 ≤ v ∧ v < n ∧ Rd w' b A len cap (p + 1) ∧ Only b w w'

theorem picked (w : World) (b : Nat) (A : Option Addr) (len cap : Nat) (p n : Int) (h : Rd w b A len cap p) (hp : p ≤ 1000000) (hn : 1 ≤ n) (hn' : n ≤ 100000) :
    Calls Tryd.prog 35 #[.pointer (some ⟨b, 0, none⟩), .int .i64 n] w (Picked w b A len cap p n) := by
  refine (pick_any w b A len cap p n h hp hn hn').mono ?_
  rintro e w' ⟨v, k, rfl, v0, v1, rfl⟩
  have hb : Below b w (w.setCell ⟨b, 1, none⟩ (.int .i64 (p + 1))) := (Below.refl _ _).setCell (p := ⟨b, 1, none⟩) (Nat.le_refl _) _
  refine ⟨v, rfl, v0, v1, h.on k, ⟨⟨hb.os, hb.tape, hb.output, hb.size, hb.block⟩, fun i hi => ?_, ?_⟩⟩
  · exact Below.heap_setCell w _ _ i hi
  · show (w.setCell ⟨b, 1, none⟩ (.int .i64 (p + 1))).heap.size = _
    simp

/-- a code is opened: a new reader of it, of its first 2000 bytes at the most -/
def OpenPost (w : World) (A : Option Addr) (e : Ending) (w' : World) : Prop :=
  ∃ (len cap : Nat), e = .returned (.pointer (some ⟨w.heap.size, 0, none⟩)) ∧ Rd w' w.heap.size A len cap 0 ∧ Below w.heap.size w w' ∧ w'.heap.size = w.heap.size + 1

theorem open_any (w : World) (A : Option Addr) (len cap : Nat) (h : Bytes w w.heap.size A len) (hl : len ≤ cap) (hm : cap ≤ maxLen) :
    Calls Tryd.prog 20 #[.slice A len cap] w (OpenPost w A) := by
  unfold maxLen at hm
  by_cases h2 : 2000 < len
  · obtain ⟨g, o, rfl, hg, hc⟩ := h (by omega)
    have hb : Bytes w w.heap.size (some ⟨g, o, none⟩) 2000 := Bytes.take (n := len) (fun _ => ⟨g, o, rfl, hg, hc⟩) (by omega)
    have HB := Lib.hid hb
    clear hb h hc
    go_enter Tryd.func20, Tryd.ntmps20
    go_wp2
    go_ret
    refine ⟨2000, cap, rfl, ⟨Blk.new _ _ _, ?_, by omega, by omega⟩, (Below.refl _ _).alloc (Nat.le_refl _) _, by simp⟩
    exact HB.out.below ((Below.refl _ _).alloc (Nat.le_refl _) _)
  · have HB := Lib.hid h
    clear h
    go_enter Tryd.func20, Tryd.ntmps20
    go_wp2
    go_ret
    refine ⟨len, cap, rfl, ⟨Blk.new _ _ _, ?_, by omega, by omega⟩, (Below.refl _ _).alloc (Nat.le_refl _) _, by simp⟩
    exact HB.out.below ((Below.refl _ _).alloc (Nat.le_refl _) _)
end Go.Proofs.YtgihbilpimempaaDoor.pk
