/-
  Plain mathematics of chapter 1: the numbers behind numbers, degrees, selections. Nothing here speaks of a program.
-/
import Derived.Below
namespace Go.Proofs.Ytokcodoejfcmpaa.mp

/-- the number behind a number -/
def rnd (x : Int) : Int := if 0 ≤ x ∧ x ≤ 65535 then (25173 * x + 13849) % 65536 else 0

theorem rnd_range (x : Int) : 0 ≤ rnd x ∧ rnd x ≤ 65535 := by
  unfold rnd; split <;> omega
theorem rnd_in {x : Int} (h0 : 0 ≤ x) (h1 : x ≤ 65535) : rnd x = (25173 * x + 13849) % 65536 := by
  unfold rnd; rw [if_pos ⟨h0, h1⟩]
theorem rnd_out {x : Int} (h : x < 0 ∨ 65535 < x) : rnd x = 0 := by
  unfold rnd; rw [if_neg (by omega)]
theorem rnd_inj {a b : Int} (a0 : 0 ≤ a) (a1 : a ≤ 65535) (b0 : 0 ≤ b) (b1 : b ≤ 65535) (h : rnd a = rnd b) : a = b := by
  rw [rnd_in a0 a1, rnd_in b0 b1] at h
  omega
end Go.Proofs.Ytokcodoejfcmpaa.mp
