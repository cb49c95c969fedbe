/-
  Plain mathematics of chapter 1: the numbers behind numbers, degrees, selections. Nothing here speaks of a program.
-/
import Derived.Below
namespace Go.Proofs.Ytgihbilpimempaa.mp

/-- the number behind a number -/
def rnd (x : Int) : Int := if 0 ≤ x ∧ x ≤ 65535 then (25173 * x + 13849) % 65536 else 0

theorem rnd_range (x : Int) : 0 ≤ rnd x ∧ rnd x ≤ 65535 := by
  unfold rnd; split <;> omega
theorem rnd_in {x : Int} (h0 : 0 ≤ x) (h1 : x ≤ 65535) : rnd x = (25173 * x + 13849) % 65536 := by
  unfold rnd; rw [if_pos ⟨h0, h1⟩]
theorem rnd_out {x : Int} (h : x < 0 ∨ 65535 < x) : rnd x = 0 := by
  unfold rnd; rw [if_neg (by omega)]
theorem rnd_inj {a b : Int} (a0 : 0 ≤ a) (a1 : a ≤ 65535) (b0 : 0 ≤ b) (b1 : b ≤ 65535) (h : rnd a = rnd b) : a = b := by
  rw [rnd_in a0 a1, rnd_in b0 b1] at h
  omega

/-- how often a degree comes -/
def wt (b d : Nat) : Int := if d = 1 then 60 / (b : Int) + 10 else 60 / ((d : Int) * ((d : Int) - 1))
/-- the weights of 1 to n -/
def ps (b : Nat) : Nat → Int
  | 0 => 0
  | n + 1 => ps b n + wt b (n + 1)
/-- the weights of d, d+1 .. d+f -/
def ts (b : Nat) : Nat → Nat → Int
  | 0, d => wt b d
  | f + 1, d => wt b d + ts b f (d + 1)
/-- the least degree whose weights, from d on, pass x; d+f at the last -/
def deg (b : Nat) : Nat → Nat → Int → Nat
  | 0, d, _ => d
  | f + 1, d, x => if x < wt b d then d else deg b f (d + 1) (x - wt b d)

theorem six {b : Nat} (h0 : 1 ≤ b) (h1 : b ≤ 6) : b = 1 ∨ b = 2 ∨ b = 3 ∨ b = 4 ∨ b = 5 ∨ b = 6 := by omega
theorem wt_bd {b d : Nat} (b0 : 1 ≤ b) (b1 : b ≤ 6) (d0 : 1 ≤ d) (d1 : d ≤ 6) : 2 ≤ wt b d ∧ wt b d ≤ 70 := by
  rcases six b0 b1 with rfl | rfl | rfl | rfl | rfl | rfl <;> rcases six d0 d1 with rfl | rfl | rfl | rfl | rfl | rfl <;> decide
theorem ps_bd {b n : Nat} (b0 : 1 ≤ b) (b1 : b ≤ 6) (n1 : n ≤ 6) : 0 ≤ ps b n ∧ ps b n ≤ 120 := by
  have : n = 0 ∨ n = 1 ∨ n = 2 ∨ n = 3 ∨ n = 4 ∨ n = 5 ∨ n = 6 := by omega
  rcases six b0 b1 with rfl | rfl | rfl | rfl | rfl | rfl <;> rcases this with rfl | rfl | rfl | rfl | rfl | rfl | rfl <;> decide
theorem ps_pos {b : Nat} (b0 : 1 ≤ b) (b1 : b ≤ 6) : 1 ≤ ps b b := by
  rcases six b0 b1 with rfl | rfl | rfl | rfl | rfl | rfl <;> decide
theorem ps_ts {b : Nat} (b0 : 1 ≤ b) (b1 : b ≤ 6) : ps b b = ts b (b - 1) 1 := by
  rcases six b0 b1 with rfl | rfl | rfl | rfl | rfl | rfl <;> decide
theorem deg_hit {b f d : Nat} {x : Int} (h : x < wt b d) : deg b f d x = d := by
  cases f with
  | zero => rfl
  | succ f => simp [deg, h]
theorem deg_miss {b f d : Nat} {x : Int} (h : wt b d ≤ x) : deg b (f + 1) d x = deg b f (d + 1) (x - wt b d) := by
  simp only [deg]; rw [if_neg (by omega)]
theorem deg_range (b f d : Nat) (x : Int) : d ≤ deg b f d x ∧ deg b f d x ≤ d + f := by
  induction f generalizing d x with
  | zero => simp [deg]
  | succ f ih =>
    simp only [deg]
    split
    · omega
    · have := ih (d + 1) (x - wt b d); omega

/-- the number that decides a degree -/
def dr (b : Nat) (num : Int) : Int := rnd (rnd (31 * num + b)) / 16 % ps b b
theorem dr_range {b : Nat} (b0 : 1 ≤ b) (b1 : b ≤ 6) (num : Int) : 0 ≤ dr b num ∧ dr b num < ps b b := by
  have := ps_pos b0 b1
  exact ⟨Int.emod_nonneg _ (by omega), Int.emod_lt_of_pos _ (by omega)⟩
/-- a degree, the arguments in range -/
def mdN (b : Nat) (num : Int) : Nat := if num < b then 1 else deg b (b - 1) 1 (dr b num)
theorem mdN_range {b : Nat} (b0 : 1 ≤ b) (num : Int) : 1 ≤ mdN b num ∧ mdN b num ≤ b := by
  unfold mdN
  split
  · omega
  · have := deg_range b (b - 1) 1 (dr b num); omega
def okM (blocks num : Int) : Bool := decide (1 ≤ blocks ∧ blocks ≤ 6 ∧ 0 ≤ num ∧ num ≤ 999)
theorem okM_t {blocks num : Int} (h0 : 1 ≤ blocks) (h1 : blocks ≤ 6) (h2 : 0 ≤ num) (h3 : num ≤ 999) : okM blocks num = true := by simp [okM, h0, h1, h2, h3]
theorem okM_f {blocks num : Int} (h : ¬ (1 ≤ blocks ∧ blocks ≤ 6 ∧ 0 ≤ num ∧ num ≤ 999)) : okM blocks num = false := by
  unfold okM; exact decide_eq_false h
theorem okM_out {blocks num : Int} (h : okM blocks num = true) : 1 ≤ blocks ∧ blocks ≤ 6 ∧ 0 ≤ num ∧ num ≤ 999 := of_decide_eq_true h
/-- the degree, at every argument -/
def md (blocks num : Int) : Int := if okM blocks num = true then (mdN blocks.toNat num : Int) else 0
theorem md_no {blocks num : Int} (h : okM blocks num = false) : md blocks num = 0 := by simp [md, h]
theorem md_yes {b : Nat} {num : Int} (h : okM b num = true) : md b num = mdN b num := by simp [md, h]
end Go.Proofs.Ytgihbilpimempaa.mp
