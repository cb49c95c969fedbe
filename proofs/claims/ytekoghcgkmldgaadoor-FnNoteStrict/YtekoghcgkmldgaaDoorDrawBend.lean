/-
  Contract of spec.l72Bend: whatever the code, a text of at most twice as many bytes and 25; nothing old is turned but the reader.
-/
import Derived.Test.YtekoghcgkmldgaaDoorDrawNote
import Derived.Test.YtekoghcgkmldgaaDoorSWrite
import Derived.Deep.RegionHeld3
import Derived.Deep.QuietTactic
import Derived.BigQuiet
namespace Go.Proofs.YtekoghcgkmldgaaDoor.dr
open Go.ChangeShapes Go.WideShapes Go.ChangeAt Go.RowKit
open Go.Proofs.YtekoghcgkmldgaaDoor.wd Go.Proofs.YtekoghcgkmldgaaDoor.pk Go.Proofs.YtekoghcgkmldgaaDoor.cp Go.Proofs.YtekoghcgkmldgaaDoor.ow Go.Proofs.YtekoghcgkmldgaaDoor.ok Go.Proofs.YtekoghcgkmldgaaDoor.dc

def BendPost (w : World) (b : Nat) (A : Option Addr) (len cap : Nat) (p : Int) (m : Nat) (e : Ending) (w' : World) : Prop :=
  ∃ (s : ByteArray) (p' : Int), e = .returned (.string s) ∧ s.size ≤ m ∧ p ≤ p' ∧ p' ≤ p + 4 ∧ Rd w' b A len cap p' ∧ w.grownBy w' (some b)

theorem grown_drewN {w W : World} {b : Option Nat} (h : w.grownBy W b) (n : Nat) : w.grownBy (W.drewN n) b := ⟨h.os, h.tape, h.output, h.size, h.block⟩
theorem rd_drewN {W : World} {b : Nat} {A : Option Addr} {len cap : Nat} {q : Int} (h : Rd W b A len cap q) (n : Nat) : Rd (W.drewN n) b A len cap q := h
theorem ext_le (s : ByteArray) (a b : Nat) : (s.extract a b).size ≤ s.size := by rw [ByteArray.size_extract]; omega

theorem of_here (W : World) (b : Nat) (A : Option Addr) (len cap : Nat) (q : Int) (h : Rd W b A len cap q) (hp : q ≤ 1000000) (cs : Array Value) (n : Nat) (hn : 1 ≤ n) (hn' : n ≤ 100)
    (hc : ∀ i, i < n → ∃ s : ByteArray, cs[i]? = some (.string s) ∧ s.size ≤ 25) :
    Calls Tryd.prog 36 #[.pointer (some ⟨b, 0, none⟩), .slice (some ⟨W.heap.size, 0, none⟩) n n] (W.alloc (.cells cs 9)).drew (OfPost (W.alloc (.cells cs 9)).drew b A len cap q) := by
  have hb := h.1.lt
  have hR : Rd (W.alloc (.cells cs 9)).drew b A len cap q := rd_later (w := W) (w' := (W.alloc (.cells cs 9)).drew) h (((Below.refl (b + 1) W).alloc (by omega) (.cells cs 9)).drew)
  have hB : Blk (W.alloc (.cells cs 9)).drew W.heap.size 9 cs := Blk.new W _ _
  exact of_any _ b A len cap q hR hp W.heap.size n cs hB (by omega) hn hn' hc
theorem of_grown {w W V : World} {b : Nat} {o : Obj} (h : w.grownBy W (some b)) (hO : Only b (W.alloc o).drew V) : w.grownBy V (some b) := by
  have h1 : (W.alloc o).grownBy V (some b) := by have := only_grown hO; exact ⟨this.os, this.tape, this.output, this.size, this.block⟩
  exact grown_trans (grown_trans h (below_grown ((Below.refl _ _).alloc (Nat.le_refl _) o) _)) h1
theorem five' {i : Nat} (h : i < 5) : i = 0 ∨ i = 1 ∨ i = 2 ∨ i = 3 ∨ i = 4 := by omega
theorem seven {i : Nat} (h : i < 7) : i = 0 ∨ i = 1 ∨ i = 2 ∨ i = 3 ∨ i = 4 ∨ i = 5 ∨ i = 6 := by omega

theorem bend_keep (w : World) (b : Nat) (A : Option Addr) (len cap : Nat) (p : Int) (h : Rd w b A len cap p) (s : ByteArray) (hs : s.size = 0) :
    Calls Tryd.prog 33 #[.pointer (some ⟨b, 0, none⟩), .string s] w (BendPost w b A len cap p (2 * s.size + 25)) := by
  have hz : ((s.size : Int) == 0) = true := by rw [hs]; rfl
  have HS := Lib.hid hs
  clear hs
  go_enter Tryd.func33, Tryd.ntmps33
  go_wp2_with fail
  go_ret
  exact ⟨s, p, rfl, by omega, by omega, by omega, h, World.grownBy.refl _ _⟩

set_option maxRecDepth 100000 in
set_option maxHeartbeats 4000000 in
theorem bend_more (w : World) (b : Nat) (A : Option Addr) (len cap : Nat) (p : Int) (h : Rd w b A len cap p) (hp : p ≤ 900000) (s : ByteArray) (hs0 : 1 ≤ s.size) (hs : s.size ≤ 90000) :
    Calls Tryd.prog 33 #[.pointer (some ⟨b, 0, none⟩), .string s] w (BendPost w b A len cap p (2 * s.size + 25)) := by
  have hz : ((s.size : Int) == 0) = false := by rw [beq_eq_false_iff_ne]; omega
  have hb := h.1.lt
  go_enter Tryd.func33, Tryd.ntmps33
  go_wp2_with fail
  refine (picked _ _ _ _ _ _ _ h (by omega) (by omega) (by omega)).mono ?_
  rintro e w1 ⟨v, rfl, v0, v1, hR1, hO1⟩
  have hG1 := only_grown hO1
  clear hO1 h
  by_cases e0 : v = 0
  · subst e0
    have HR := Lib.hid hR1
    have HG := Lib.hid hG1
    clear hR1 hG1
    go_wp2_with fail
    go_ret
    exact ⟨s, p + 1, rfl, by omega, by omega, by omega, HR.out, HG.out⟩
  have k0 : (v == 0) = false := by simpa using e0
  go_wp2_with fail
  refine (picked _ _ _ _ _ _ _ hR1 (by omega) (by omega) (by omega)).mono ?_
  rintro e w2 ⟨i, rfl, i0, i1, hR2, hO2⟩
  have hG2 := grown_trans hG1 (only_grown hO2)
  clear hO2 hR1 hG1
  obtain ⟨i, rfl⟩ := Int.eq_ofNat_of_zero_le i0
  go_wp2_with fail
  refine (picked _ _ _ _ _ _ _ hR2 (by omega) (by omega) (by omega)).mono ?_
  rintro e W ⟨c, rfl, c0, c1, hR, hO3⟩
  have HG := Lib.hid (grown_trans hG2 (only_grown hO3))
  have HR := Lib.hid hR
  have hlt := hR.1.lt
  clear hO3 hR2 hG2 hR e0
  have b0 : (0 : Int) ≤ (i : Int) := by omega
  have b1 : (i : Int) ≤ (s.size : Int) := by omega
  have b2 : IntKind.i64.wrap ((i : Int) + 1) = (i : Int) + 1 := by rw [IntKind.wrap_i64]; omega
  have b3 : (0 : Int) ≤ (i : Int) + 1 := by omega
  have b4 : (i : Int) + 1 ≤ (s.size : Int) := by omega
  have b5 : ((i : Int) + 1).toNat = i + 1 := by omega
  have x0 := ext_le s 0 i
  have x1 := ext_le s (i + 1) s.size
  have x2 := ext_le s i s.size
  by_cases d0 : c = 0
  · subst d0
    obtain ⟨y, ey, qy, ry⟩ := adds (s.extract 0 i) (s.extract (i + 1) s.size) (by omega)
    have hy : y.size ≤ 2 * s.size + 25 := by omega
    clear ey qy
    go_wp2_with fail
    go_quiet (fail)
    go_wp2
    go_ret
    exact ⟨y, p + 1 + 1 + 1, rfl, hy, by omega, by omega, rd_drewN HR.out _, grown_drewN HG.out _⟩
  by_cases d1 : c = 1
  · subst d1
    have HC : Hid (∀ j, j < 7 → ∃ s : ByteArray, (#[.string ⟨#[32]⟩, .string ⟨#[48]⟩, .string ⟨#[45]⟩, .string ⟨#[49]⟩, .string ⟨#[120]⟩, .string ⟨#[58]⟩, .string ⟨#[59]⟩] : Array Value)[j]? = some (.string s) ∧ s.size ≤ 25) := fun j hj => by
      rcases seven hj with rfl | rfl | rfl | rfl | rfl | rfl | rfl <;> exact ⟨_, rfl, by decide⟩
    go_wp2_with fail
    go_region_held3 (fun _ => True) (trivial) ((go_at_call 36; refine (of_here W b A len cap _ HR.out (by omega) _ 7 (by omega) (by omega) HC.out).mono ?_; rintro e w3 ⟨o, rfl, ho, hR3, hO3⟩; obtain ⟨y1, ey1, qy1, ry1⟩ := adds (s.extract 0 i) o (by omega); obtain ⟨y2, ey2, qy2, ry2⟩ := adds y1 (s.extract i s.size) (by omega); have hy : y2.size ≤ 2 * s.size + 25 := (by omega); clear ey1 qy1 ey2 qy2))
    have HR3 := Lib.hid hR3
    have HG3 := Lib.hid (of_grown HG.out hO3)
    clear hR3 hO3 HC
    go_wp2
    go_ret
    exact ⟨y2, p + 1 + 1 + 1 + 1, rfl, hy, by omega, by omega, HR3.out, HG3.out⟩
  by_cases d2 : c = 2
  · subst d2
    have HC : Hid (∀ j, j < 5 → ∃ s : ByteArray, (#[.string ⟨#[57]⟩, .string ⟨#[45]⟩, .string ⟨#[59]⟩, .string ⟨#[32]⟩, .string ⟨#[10]⟩] : Array Value)[j]? = some (.string s) ∧ s.size ≤ 25) := fun j hj => by
      rcases five' hj with rfl | rfl | rfl | rfl | rfl <;> exact ⟨_, rfl, by decide⟩
    go_wp2_with fail
    go_region_held3 (fun _ => True) (trivial) ((go_at_call 36; refine (of_here W b A len cap _ HR.out (by omega) _ 5 (by omega) (by omega) HC.out).mono ?_; rintro e w3 ⟨o, rfl, ho, hR3, hO3⟩; obtain ⟨y1, ey1, qy1, ry1⟩ := adds (s.extract 0 i) o (by omega); obtain ⟨y2, ey2, qy2, ry2⟩ := adds y1 (s.extract (i + 1) s.size) (by omega); have hy : y2.size ≤ 2 * s.size + 25 := (by omega); clear ey1 qy1 ey2 qy2))
    have HR3 := Lib.hid hR3
    have HG3 := Lib.hid (of_grown HG.out hO3)
    clear hR3 hO3 HC
    go_wp2
    go_ret
    exact ⟨y2, p + 1 + 1 + 1 + 1, rfl, hy, by omega, by omega, HR3.out, HG3.out⟩
  by_cases d3 : c = 3
  · subst d3
    obtain ⟨y, ey, qy, ry⟩ := adds s s (by omega)
    have hy : y.size ≤ 2 * s.size + 25 := by omega
    clear ey qy
    go_wp2_with fail
    go_ret
    exact ⟨y, p + 1 + 1 + 1, rfl, hy, by omega, by omega, HR.out, HG.out⟩
  · have k0 : (c == 0) = false := by simpa using d0
    have k1 : (c == 1) = false := by simpa using d1
    have k2 : (c == 2) = false := by simpa using d2
    have k3 : (c == 3) = false := by simpa using d3
    have hy : (s.extract 0 i).size ≤ 2 * s.size + 25 := by omega
    clear d0 d1 d2 d3
    go_wp2_with fail
    go_ret
    exact ⟨_, p + 1 + 1 + 1, rfl, hy, by omega, by omega, HR.out, HG.out⟩

theorem bend72 (w : World) (b : Nat) (A : Option Addr) (len cap : Nat) (p : Int) (h : Rd w b A len cap p) (hp : p ≤ 900000) (s : ByteArray) (hs : s.size ≤ 90000) :
    Calls Tryd.prog 33 #[.pointer (some ⟨b, 0, none⟩), .string s] w (BendPost w b A len cap p (2 * s.size + 25)) := by
  by_cases h0 : s.size = 0
  · exact bend_keep w b A len cap p h s h0
  · exact bend_more w b A len cap p h hp s (by omega) hs
end Go.Proofs.YtekoghcgkmldgaaDoor.dr
