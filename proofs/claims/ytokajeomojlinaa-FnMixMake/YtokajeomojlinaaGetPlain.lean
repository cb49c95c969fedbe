/-
  Plain mathematics of chapter 2: one byte of a block. Nothing here speaks of a program.
-/
import Derived.Test.YtokajeomojlinaaMakePlain
import Derived.Test.YtokajeomojlinaaCutImpl
namespace Go.Proofs.Ytokajeomojlinaa.cp
open Go.Proofs.Ytokajeomojlinaa.ci

theorem str_get (q : Q) {i : Nat} (h : i < q.str.size) : q.str[i] = ci.Q.get q i := by
  have h4 : i < 4 := h
  rcases four h4 with rfl | rfl | rfl | rfl <;> rfl
theorem get_xor (p q : Q) (i : Nat) : ci.Q.get (p.xor q) i = ci.Q.get p i ^^^ ci.Q.get q i := by
  unfold ci.Q.get
  split <;> rfl
theorem get_zero (i : Nat) : ci.Q.get Q.zero i = 0 := by
  unfold ci.Q.get
  split <;> rfl
theorem xq_get (t : ByteArray) {l : List Int} {k : Nat} (h : k < l.length) (i : Nat) :
    bits .xor .u8 ((ci.Q.get (xq t (l.take k)) i).toNat : Int) ((ci.Q.get (qb t (l.getD k 0).toNat) i).toNat : Int) = ((ci.Q.get (xq t (l.take (k + 1))) i).toNat : Int) := by
  rw [xor_bv, xq_on t h, get_xor]
end Go.Proofs.Ytokajeomojlinaa.cp
