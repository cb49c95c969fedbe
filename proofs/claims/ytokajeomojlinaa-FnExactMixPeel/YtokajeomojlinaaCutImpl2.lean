/-
  The contract of the program's cutText.
-/
import Derived.Test.YtokajeomojlinaaCutImpl
import Derived.Deep.RegionHeld3
namespace Go.Proofs.Ytokajeomojlinaa.ci
open Go.ChangeShapes Go.WideShapes Go.ChangeAt Go.RowKit
open Go.Proofs.Ytokajeomojlinaa.wd Go.Proofs.Ytokajeomojlinaa.cp Go.Proofs.Ytokajeomojlinaa.ow Go.Proofs.Ytokajeomojlinaa.mi

theorem by_extract (s : ByteArray) {a : Nat} (j : Nat) : by_ (s.extract a s.size) j = by_ s (a + j) := by
  rw [by_list, by_list, Lib.extract_data]
  rw [List.getD_eq_getElem?_getD, List.getD_eq_getElem?_getD]
  rw [List.getElem?_take]
  split
  · rw [List.getElem?_drop]
  · rw [List.getElem?_eq_none (l := s.data.toList) (by rw [← Lib.size_eq]; omega)]
theorem qb_extract (s : ByteArray) (k : Nat) : qb (s.extract (4 * k) s.size) 0 = qb s k := by
  unfold qb
  simp only [by_extract]
  rfl

/-- the first n blocks of a text, the others zero -/
def sb (t : ByteArray) (n i : Nat) : Q := if i < n then qb t i else Q.zero
/-- sourceBlocks, as the model has it -/
def src (t : ByteArray) (n : Nat) : Array Value := #[.int .i64 n, bv (sb t n 0).a, bv (sb t n 0).b, bv (sb t n 0).c, bv (sb t n 0).d, bv (sb t n 1).a, bv (sb t n 1).b, bv (sb t n 1).c, bv (sb t n 1).d, bv (sb t n 2).a, bv (sb t n 2).b, bv (sb t n 2).c, bv (sb t n 2).d, bv (sb t n 3).a, bv (sb t n 3).b, bv (sb t n 3).c, bv (sb t n 3).d, bv (sb t n 4).a, bv (sb t n 4).b, bv (sb t n 4).c, bv (sb t n 4).d, bv (sb t n 5).a, bv (sb t n 5).b, bv (sb t n 5).c, bv (sb t n 5).d]
theorem src_size (t : ByteArray) (n : Nat) : (src t n).size = 25 := rfl
theorem src_one (t : ByteArray) (n : Nat) : (src t n).all (·.oneCell') = true :=
  all_oneCell_toArray (cs := (src t n).toList) (by
    intro v hv
    simp only [src, List.mem_cons, List.not_mem_nil, or_false] at hv
    rcases hv with rfl | rfl | rfl | rfl | rfl | rfl | rfl | rfl | rfl | rfl | rfl | rfl | rfl | rfl | rfl | rfl | rfl | rfl | rfl | rfl | rfl | rfl | rfl | rfl | rfl <;> rfl)
theorem src_count (t : ByteArray) (n : Nat) : (src t n)[0]? = some (.int .i64 n) := rfl
theorem six0 {b : Nat} (h1 : b < 6) : b = 0 ∨ b = 1 ∨ b = 2 ∨ b = 3 ∨ b = 4 ∨ b = 5 := by omega
theorem src_on (t : ByteArray) {k : Nat} (h : k < 6) :
    (((((src t k).setIfInBounds (1 + k * 4) (bv (qb t k).a)).setIfInBounds (1 + k * 4 + 1) (bv (qb t k).b)).setIfInBounds (1 + k * 4 + 2) (bv (qb t k).c)).setIfInBounds (1 + k * 4 + 3) (bv (qb t k).d)).setIfInBounds 0 (.int .i64 ((k : Int) + 1)) = src t (k + 1) := by
  rcases six0 h with rfl | rfl | rfl | rfl | rfl | rfl <;> rfl
theorem sizeSrc : (Try.prog.info? 61).map (·.size) = some 25 := by kernel_rfl
theorem zeroSrc (t : ByteArray) : src t 0 = #[.int .i64 0, .int .u8 0, .int .u8 0, .int .u8 0, .int .u8 0, .int .u8 0, .int .u8 0, .int .u8 0, .int .u8 0, .int .u8 0, .int .u8 0, .int .u8 0, .int .u8 0, .int .u8 0, .int .u8 0, .int .u8 0, .int .u8 0, .int .u8 0, .int .u8 0, .int .u8 0, .int .u8 0, .int .u8 0, .int .u8 0, .int .u8 0, .int .u8 0] := rfl
end Go.Proofs.Ytokajeomojlinaa.ci
