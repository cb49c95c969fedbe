/-
  Contracts of spec.DrawRandNext and spec.DrawMixDegree, DrawMixOf: whatever the code, numbers within bounds; nothing old is turned.
-/
import Derived.Test.YtokcodoejfcmpaaPick
namespace Go.Proofs.Ytokcodoejfcmpaa.dr
open Go.ChangeShapes Go.WideShapes Go.ChangeAt Go.RowKit
open Go.Proofs.Ytokcodoejfcmpaa.wd Go.Proofs.Ytokcodoejfcmpaa.pk

/-- what the shells say of a slice of bytes that came in, in our words -/
theorem bytes_of_row {w : World} {a : Option Addr} {len cap : Nat} {zs : List Int}
    (h : (a = none ∧ len = 0 ∧ cap = 0 ∧ zs = []) ∨ ∃ x, a = some x ∧ len ≤ cap ∧ cap ≤ maxLen ∧ zs.length = cap ∧ (∀ i, i < zs.length → w.cell? (x.add i) = some (.int .u8 (zs.getD i 0))) ∧ ∀ n ∈ zs, (Lit.int .u8 n).wf = true) :
    Bytes w w.heap.size a len ∧ len ≤ cap ∧ cap ≤ maxLen := by
  rcases h with ⟨rfl, rfl, rfl, rfl⟩ | ⟨x, rfl, hl, hm, hz, hc, hwf⟩
  · exact ⟨fun h => absurd h (by omega), Nat.le_refl _, by unfold maxLen; omega⟩
  · refine ⟨fun hn => ?_, hl, hm⟩
    obtain ⟨g, o, spot⟩ := x
    have h0 := hc 0 (by omega)
    have hspot : spot = none := by simpa [Addr.add] using World.cell?_spot h0
    subst hspot
    have e : ∀ j, (⟨g, o, none⟩ : Addr).add j = ⟨g, o + j, none⟩ := fun j => by
      unfold Addr.add; split <;> simp_all
    refine ⟨g, o, rfl, ?_, fun j hj => ?_⟩
    · rcases Nat.lt_or_ge g w.heap.size with hlt | hge
      · exact hlt
      · rw [e] at h0
        have : w.heap[g]? = none := Array.getElem?_eq_none hge
        simp [World.cell?, this] at h0
    · have hj' : j < zs.length := by omega
      have hcell := hc j hj'
      rw [e] at hcell
      have hd : zs.getD j 0 = zs[j] := by simp [List.getD, hj']
      have hw := hwf (zs.getD j 0) (hd ▸ List.getElem_mem hj')
      have hx : 0 ≤ zs.getD j 0 ∧ zs.getD j 0 ≤ 255 := by simpa [Lit.wf, IntKind.min, IntKind.max, IntKind.signed, IntKind.bits] using hw
      exact ⟨_, hcell, hx.1, hx.2⟩

theorem Bytes_later {w w1 : World} {A : Option Addr} {n : Nat} (h : Bytes w w.heap.size A n) (hb : Below w.heap.size w w1) : Bytes w1 w1.heap.size A n := fun hn => by
  obtain ⟨g, o, e, hg, hc⟩ := (h.below hb) hn
  exact ⟨g, o, e, Nat.lt_of_lt_of_le hg hb.size, hc⟩

def DrawnInt (w : World) (lo hi : Int) (e : Ending) (w' : World) : Prop :=
  ∃ v : Int, e = .returned (.int .i64 v) ∧ lo ≤ v ∧ v ≤ hi ∧ Below w.heap.size w w'

theorem drawRand (w : World) (A : Option Addr) (len cap : Nat) (h : Bytes w w.heap.size A len) (hl : len ≤ cap) (hm : cap ≤ maxLen) :
    Calls Try.prog 10 #[.slice A len cap] w (DrawnInt w (-2) 65541) := by
  go_enter Try.func10, Try.ntmps10
  go_wp2_with fail
  refine (open_any _ _ _ _ h hl hm).mono ?_
  rintro e w1 ⟨len1, cap1, rfl, hR, hB, hz⟩
  have HZ := Lib.hid hz
  clear hz
  go_wp2_with fail
  refine (picked _ _ _ _ _ _ _ hR (by omega) (by omega) (by omega)).mono ?_
  rintro e w2 ⟨v, rfl, v0, v1, hR2, hO2⟩
  go_wp2_with fail
  refine (picked _ _ _ _ _ _ _ hR2 (by omega) (by omega) (by omega)).mono ?_
  rintro e w3 ⟨u, rfl, u0, u1, hR3, hO3⟩
  go_wp2_with fail
  refine (picked _ _ _ _ _ _ _ hR3 (by omega) (by omega) (by omega)).mono ?_
  rintro e w4 ⟨x, rfl, x0, x1, hR4, hO4⟩
  go_wp2
  go_ret
  exact ⟨_, rfl, by omega, by omega, hB.trans ((hO2.trans (hO3.trans hO4)).1)⟩

def DrawnTwo (w : World) (e : Ending) (w' : World) : Prop :=
  ∃ a b : Int, e = .returned (.tuple #[.int .i64 a, .int .i64 b]) ∧ 0 ≤ a ∧ a ≤ 7 ∧ -1 ≤ b ∧ b ≤ 1011 ∧ Below w.heap.size w w'

theorem drawMixDegree (w : World) (A : Option Addr) (len cap : Nat) (h : Bytes w w.heap.size A len) (hl : len ≤ cap) (hm : cap ≤ maxLen) :
    Calls Try.prog 13 #[.slice A len cap] w (DrawnTwo w) := by
  go_enter Try.func13, Try.ntmps13
  go_wp2_with fail
  refine (open_any _ _ _ _ h hl hm).mono ?_
  rintro e w1 ⟨len1, cap1, rfl, hR, hB, hz⟩
  have HZ := Lib.hid hz
  clear hz
  go_wp2_with fail
  refine (picked _ _ _ _ _ _ _ hR (by omega) (by omega) (by omega)).mono ?_
  rintro e w2 ⟨v, rfl, v0, v1, hR2, hO2⟩
  go_wp2_with fail
  refine (picked _ _ _ _ _ _ _ hR2 (by omega) (by omega) (by omega)).mono ?_
  rintro e w3 ⟨u, rfl, u0, u1, hR3, hO3⟩
  go_wp2_with fail
  refine (picked _ _ _ _ _ _ _ hR3 (by omega) (by omega) (by omega)).mono ?_
  rintro e w4 ⟨x, rfl, x0, x1, hR4, hO4⟩
  have hux : 0 ≤ u * x ∧ u * x ≤ 1001 := by
    have : u = 0 ∨ u = 1 := by omega
    rcases this with rfl | rfl <;> simp <;> omega
  obtain ⟨hux0, hux1⟩ := hux
  go_wp2_with fail
  refine (picked _ _ _ _ _ _ _ hR4 (by omega) (by omega) (by omega)).mono ?_
  rintro e w5 ⟨y, rfl, y0, y1, hR5, hO5⟩
  go_wp2
  go_ret2
  exact ⟨_, _, rfl, by omega, by omega, by omega, by omega, hB.trans ((hO2.trans (hO3.trans (hO4.trans hO5))).1)⟩

theorem drawMixOf (w : World) (A : Option Addr) (len cap : Nat) (h : Bytes w w.heap.size A len) (hl : len ≤ cap) (hm : cap ≤ maxLen) :
    Calls Try.prog 16 #[.slice A len cap] w (DrawnTwo w) := by
  go_enter Try.func16, Try.ntmps16
  go_wp2_with fail
  refine (drawMixDegree _ _ _ _ h hl hm).mono ?_
  rintro e w1 ⟨a, b, rfl, a0, a1, b0, b1, hB⟩
  go_wp2
  go_ret2
  exact ⟨_, _, rfl, by omega, by omega, by omega, by omega, hB⟩
end Go.Proofs.Ytokcodoejfcmpaa.dr
