/-
  Runs in which nothing is under way: as values; contracts of the laws' own helpers over them: eqRiver (where both are one), markRiver, heldRiver.
-/
import Derived.Test.YtckicpnnclbkpaaKrMark
namespace Go.Proofs.Ytckicpnnclbkpaa.kr
open Go.ChangeShapes Go.WideShapes Go.ChangeAt Go.RowKit
open Go.Proofs.Ytckicpnnclbkpaa.wd Go.Proofs.Ytckicpnnclbkpaa.nb Go.Proofs.Ytckicpnnclbkpaa.li Go.Proofs.Ytckicpnnclbkpaa.ow Go.Proofs.Ytckicpnnclbkpaa.rl Go.Proofs.Ytckicpnnclbkpaa.kp Go.Proofs.Ytckicpnnclbkpaa.sl Go.Proofs.Ytckicpnnclbkpaa.op

/-- a run, as a value -/
abbrev rvV (K L : Value) : Value := .agg #[.int .i64 0, K, L, no, no, no]
abbrev rvC (K L : Value) : Array Value := #[.int .i64 0, K, L, no, no, no]
theorem six6 {V : World} {R : Nat} {t : TypeId} {a b c d e f : Value} (h : Blk V R t #[a, b, c, d, e, f]) : V.cell? ⟨R, 0, none⟩ = some a ∧ V.cell? ⟨R, 1, none⟩ = some b ∧ V.cell? ⟨R, 2, none⟩ = some c ∧ V.cell? ⟨R, 3, none⟩ = some d ∧ V.cell? ⟨R, 4, none⟩ = some e ∧ V.cell? ⟨R, 5, none⟩ = some f :=
  ⟨h.cell 0, h.cell 1, h.cell 2, h.cell 3, h.cell 4, h.cell 5⟩

set_option maxRecDepth 100000 in
set_option maxHeartbeats 1600000 in
theorem eqRv_same (w : World) (K1 L1 K2 L2 : Value) (l : List Nk) (m : List Bool) (h1 : SeesR nkS w K1 l) (h2 : SeesR nkS w K2 l) (g1 : SeesR boS w L1 m) (g2 : SeesR boS w L2 m) (hl : l.length ≤ 100) (hm : m.length ≤ 100) :
    Calls Try.prog 6 #[rvV K1 L1, rvV K2 L2] w (BPost w true) := by
  have B0 := ((Below.refl w.heap.size w).alloc (Nat.le_refl _) (.cells (rvC K1 L1) 27)).alloc (by simp) (.cells (rvC K2 L2) 27)
  have k1 := Lib.hid ((Blk.new w 27 (rvC K1 L1)).alloc (.cells (rvC K2 L2) 27))
  have k2 := Blk.new (w.alloc (.cells (rvC K1 L1) 27)) 27 (rvC K2 L2)
  simp only [World.size_alloc] at k2
  have K2' := Lib.hid k2
  have HB := Lib.hid B0
  have HE := Lib.hid (fun V (hV : Below w.heap.size w V) => eqKrs_same V K1 K2 l (h1.later hV) (h2.later hV) hl)
  have HF := Lib.hid (fun V (hV : Below w.heap.size w V) => eqBos_same V L1 L2 m (g1.later hV) (g2.later hV) hm)
  unfold BPost at HE HF
  clear h1 h2 g1 g2 B0 k2
  go_enter Try.func6, Try.ntmps6
  go_wp2_with fail
  generalize (w.alloc (.cells (rvC K1 L1) 27)).alloc (.cells (rvC K2 L2) 27) = V at k1 K2' HB ⊢
  refine (HE.out _ HB.out).mono ?_
  rintro e w1 ⟨rfl, B1⟩
  replace k1 := Lib.hid (k1.out.below B1 k1.out.lt)
  replace K2' := Lib.hid (K2'.out.below B1 K2'.out.lt)
  replace HB := Lib.hid (HB.out.trans (B1.mono HB.out.size))
  clear B1
  obtain ⟨a0, a1, a2, a3, a4, a5⟩ := six6 k1.out
  obtain ⟨b0, b1, b2, b3, b4, b5⟩ := six6 K2'.out
  go_wp2_with fail
  refine (HF.out _ HB.out).mono ?_
  rintro e w2 ⟨rfl, B1⟩
  replace k1 := Lib.hid (k1.out.below B1 k1.out.lt)
  replace K2' := Lib.hid (K2'.out.below B1 K2'.out.lt)
  replace HB := Lib.hid (HB.out.trans (B1.mono HB.out.size))
  clear B1 a0 a1 a2 a3 a4 a5 b0 b1 b2 b3 b4 b5
  obtain ⟨a0, a1, a2, a3, a4, a5⟩ := six6 k1.out
  obtain ⟨b0, b1, b2, b3, b4, b5⟩ := six6 K2'.out
  go_wp2_with fail
  refine (eqPs_nil _).mono ?_
  rintro e w3 ⟨rfl, B1⟩
  replace k1 := Lib.hid (k1.out.below B1 k1.out.lt)
  replace K2' := Lib.hid (K2'.out.below B1 K2'.out.lt)
  replace HB := Lib.hid (HB.out.trans (B1.mono HB.out.size))
  clear B1 a0 a1 a2 a3 a4 a5 b0 b1 b2 b3 b4 b5
  obtain ⟨a0, a1, a2, a3, a4, a5⟩ := six6 k1.out
  obtain ⟨b0, b1, b2, b3, b4, b5⟩ := six6 K2'.out
  go_wp2_with fail
  refine (eqNs_nil _).mono ?_
  rintro e w4 ⟨rfl, B1⟩
  replace k1 := Lib.hid (k1.out.below B1 k1.out.lt)
  replace K2' := Lib.hid (K2'.out.below B1 K2'.out.lt)
  replace HB := Lib.hid (HB.out.trans (B1.mono HB.out.size))
  clear B1 a0 a1 a2 a3 a4 a5 b0 b1 b2 b3 b4 b5
  obtain ⟨a0, a1, a2, a3, a4, a5⟩ := six6 k1.out
  obtain ⟨b0, b1, b2, b3, b4, b5⟩ := six6 K2'.out
  go_wp2_with fail
  refine (eqNs_nil _).mono ?_
  rintro e w5 ⟨rfl, B1⟩
  replace HB := Lib.hid (HB.out.trans (B1.mono HB.out.size))
  clear B1 a0 a1 a2 a3 a4 a5 b0 b1 b2 b3 b4 b5 k1 K2'
  go_wp2
  go_ret
  exact ⟨rfl, HB.out⟩

/-- what is written over: two lists' blocks -/
structure MarkedR (w w' : World) (K L : Value) : Prop where
  os : w'.os = w.os
  tape : w'.tape = w.tape
  output : w'.output = w.output
  size : w.heap.size ≤ w'.heap.size
  block : ∀ k, k < w.heap.size → K.ownBlock ≠ some k → L.ownBlock ≠ some k → w'.heap[k]? = w.heap[k]?
def MarkRP (w : World) (B : Nat) (K L : Value) (x : Int) (n m : Nat) (e : Ending) (w' : World) : Prop :=
  e = .returned (.int .i64 (x + 4 * n + m)) ∧ OwnAt nkS 36 B w' K (nkMs x n) ∧ OwnAt boS 4 B w' L (boMs (x + 4 * n) m) ∧ MarkedR w w' K L

set_option maxRecDepth 100000 in
set_option maxHeartbeats 1600000 in
theorem markRv_any (w : World) (B : Nat) (K L : Value) (l : List Nk) (m : List Bool) (x : Int) (hK : OwnAt nkS 36 B w K l) (hL : OwnAt boS 4 B w L m) (hA : Apart K L) (hx : 1 ≤ x) (hn : x + 4 * l.length + m.length < 100000000) :
    Calls Try.prog 7 #[rvV K L, .int .i64 x] w (MarkRP w B K L x l.length m.length) := by
  have BV := (Below.refl w.heap.size w).alloc (Nat.le_refl _) (.cells (rvC K L) 27)
  have KB := Lib.hid (Blk.new w 27 (rvC K L))
  have HM1 := Lib.hid (markKrs_any (hK.later BV) x hx (by omega))
  have HM2 := Lib.hid (fun V (hV : OwnAt boS 4 B V L m) => markBos_any hV (x + 4 * l.length) (by omega) (by omega))
  unfold MarkedKr at HM1
  unfold MarkedBo at HM2
  have HK := Lib.hid hK
  have HL := Lib.hid hL
  have HB := Lib.hid BV
  have HAp := Lib.hid hA
  have hneg : 1 ≤ x + 4 * (l.length : Int) := by omega
  unfold MarkRP
  clear hK hL hA BV hn
  generalize l.length = n at HM1 HM2 hneg ⊢
  generalize x + 4 * (n : Int) = y at HM1 HM2 hneg ⊢
  generalize m.length = p at HM2 ⊢
  go_enter Try.func7, Try.ntmps7
  go_wp2_with fail
  generalize w.alloc (.cells (rvC K L) 27) = V at KB HB HM1 ⊢
  refine HM1.out.mono ?_
  rintro e w1 ⟨rfl, hO1, hG1⟩
  have l1 := HL.out.later HB.out
  have h1 := Lib.hid (l1.same (W' := w1) fun g hg => hG1.block g (l1.lt hg).2 (fun e => HAp.out g e.symm hg))
  have K1 := Lib.hid (show Blk w1 w.heap.size 27 (rvC K L) from (hG1.block _ KB.out.lt (fun e => by have := (HK.out.lt e.symm).2; omega)).trans KB.out)
  have HO1 := Lib.hid hO1
  have HG1 := Lib.hid hG1
  clear hO1 hG1 l1 HM1
  obtain ⟨a0, a1, a2, a3, a4, a5⟩ := six6 K1.out
  go_wp2_with fail
  refine (HM2.out _ h1.out).mono ?_
  rintro e w2 ⟨rfl, hO2, hG2⟩
  have K2 := Lib.hid (show Blk w2 w.heap.size 27 (rvC K L) from (hG2.block _ K1.out.lt (fun e => by have := (HL.out.lt e.symm).2; omega)).trans K1.out)
  have HP2 := Lib.hid (HO1.out.same (W' := w2) fun g hg => hG2.block g (HO1.out.lt hg).2 (fun e => HAp.out g hg e.symm))
  have HO2 := Lib.hid hO2
  have HR := Lib.hid (show MarkedR w w2 K L from ⟨hG2.os.trans (HG1.out.os.trans HB.out.os), hG2.tape.trans (HG1.out.tape.trans HB.out.tape), hG2.output.trans (HG1.out.output.trans HB.out.output), Nat.le_trans HB.out.size (Nat.le_trans HG1.out.size hG2.size), fun k hk n1 n2 => (hG2.block k (Nat.lt_of_lt_of_le hk (Nat.le_trans HB.out.size HG1.out.size)) (fun e => n2 e.symm)).trans ((HG1.out.block k (Nat.lt_of_lt_of_le hk HB.out.size) (fun e => n1 e.symm)).trans (HB.out.block k hk))⟩)
  clear hO2 hG2 a0 a1 a2 a3 a4 a5 K1 HG1 HB HM2 KB h1 HO1
  obtain ⟨a0, a1, a2, a3, a4, a5⟩ := six6 K2.out
  have HMo := Lib.hid (show ∀ W W' : World, MarkedR w W K L → Below W.heap.size W W' → MarkedR w W' K L from fun W W' h hB => ⟨hB.os.trans h.os, hB.tape.trans h.tape, hB.output.trans h.output, Nat.le_trans h.size hB.size, fun k hk n1 n2 => (hB.block k (Nat.lt_of_lt_of_le hk h.size)).trans (h.block k hk n1 n2)⟩)
  go_wp2_with fail
  refine (markPs_nil _ _).mono ?_
  rintro e w3 ⟨rfl, B3⟩
  replace K2 := Lib.hid (K2.out.below B3 K2.out.lt)
  replace HP2 := Lib.hid (HP2.out.later B3)
  replace HO2 := Lib.hid (HO2.out.later B3)
  replace HR := Lib.hid (HMo.out _ _ HR.out B3)
  clear B3 a0 a1 a2 a3 a4 a5
  obtain ⟨a0, a1, a2, a3, a4, a5⟩ := six6 K2.out
  go_wp2_with fail
  refine (markNs_nil _ _).mono ?_
  rintro e w4 ⟨rfl, B3⟩
  replace K2 := Lib.hid (K2.out.below B3 K2.out.lt)
  replace HP2 := Lib.hid (HP2.out.later B3)
  replace HO2 := Lib.hid (HO2.out.later B3)
  replace HR := Lib.hid (HMo.out _ _ HR.out B3)
  clear B3 a0 a1 a2 a3 a4 a5
  obtain ⟨a0, a1, a2, a3, a4, a5⟩ := six6 K2.out
  go_wp2_with fail
  refine (markNs_nil _ _).mono ?_
  rintro e w5 ⟨rfl, B3⟩
  replace HP2 := Lib.hid (HP2.out.later B3)
  replace HO2 := Lib.hid (HO2.out.later B3)
  replace HR := Lib.hid (HMo.out _ _ HR.out B3)
  clear B3 a0 a1 a2 a3 a4 a5 K2
  go_wp2
  go_ret
  exact ⟨rfl, HP2.out, HO2.out, HR.out⟩

set_option maxRecDepth 100000 in
set_option maxHeartbeats 1600000 in
theorem heldRv_any (w : World) (K L : Value) (x : Int) (n m : Nat) (hK : SeesR nkS w K (nkMs x n)) (hL : SeesR boS w L (boMs (x + 4 * n) m)) (hx : 1 ≤ x) (hn : x + 4 * n + m < 100000000) :
    Calls Try.prog 8 #[rvV K L, .int .i64 x] w (IPost w (x + 4 * n + m)) := by
  have BV := (Below.refl w.heap.size w).alloc (Nat.le_refl _) (.cells (rvC K L) 27)
  have KB := Lib.hid (Blk.new w 27 (rvC K L))
  have H1 := Lib.hid (fun V (hV : Below w.heap.size w V) => heldKrs_any V K x n (hK.later hV) hx (by omega))
  have H2 := Lib.hid (fun V (hV : Below w.heap.size w V) => heldBos_any V L (x + 4 * n) m (hL.later hV) (by omega) (by omega))
  unfold IPost at H1 H2
  have HB := Lib.hid BV
  have hy : ¬ x + 4 * (n : Int) < 0 := by omega
  have hz : ¬ x + 4 * (n : Int) + m < 0 := by omega
  unfold IPost
  clear hK hL BV hn hx
  generalize x + 4 * (n : Int) = y at H1 H2 hy hz ⊢
  generalize y + (m : Int) = z at H2 hz ⊢
  go_enter Try.func8, Try.ntmps8
  go_wp2_with fail
  generalize w.alloc (.cells (rvC K L) 27) = V at KB HB ⊢
  refine (H1.out _ HB.out).mono ?_
  rintro e w1 ⟨rfl, B1⟩
  replace KB := Lib.hid (KB.out.below B1 KB.out.lt)
  replace HB := Lib.hid (HB.out.trans (B1.mono HB.out.size))
  clear B1
  obtain ⟨a0, a1, a2, a3, a4, a5⟩ := six6 KB.out
  go_wp2_with fail
  refine (H2.out _ HB.out).mono ?_
  rintro e w2 ⟨rfl, B1⟩
  replace KB := Lib.hid (KB.out.below B1 KB.out.lt)
  replace HB := Lib.hid (HB.out.trans (B1.mono HB.out.size))
  clear B1 a0 a1 a2 a3 a4 a5
  obtain ⟨a0, a1, a2, a3, a4, a5⟩ := six6 KB.out
  go_wp2_with fail
  refine (heldPs_nil _ _).mono ?_
  rintro e w3 ⟨rfl, B1⟩
  replace KB := Lib.hid (KB.out.below B1 KB.out.lt)
  replace HB := Lib.hid (HB.out.trans (B1.mono HB.out.size))
  clear B1 a0 a1 a2 a3 a4 a5
  obtain ⟨a0, a1, a2, a3, a4, a5⟩ := six6 KB.out
  go_wp2_with fail
  refine (heldNs_nil _ _).mono ?_
  rintro e w4 ⟨rfl, B1⟩
  replace KB := Lib.hid (KB.out.below B1 KB.out.lt)
  replace HB := Lib.hid (HB.out.trans (B1.mono HB.out.size))
  clear B1 a0 a1 a2 a3 a4 a5
  obtain ⟨a0, a1, a2, a3, a4, a5⟩ := six6 KB.out
  go_wp2_with fail
  refine (heldNs_nil _ _).mono ?_
  rintro e w5 ⟨rfl, B1⟩
  replace HB := Lib.hid (HB.out.trans (B1.mono HB.out.size))
  clear B1 a0 a1 a2 a3 a4 a5 KB
  go_wp2
  go_ret
  exact ⟨rfl, HB.out⟩
end Go.Proofs.Ytckicpnnclbkpaa.kr
