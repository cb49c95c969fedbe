/-
  Contracts of impl.limitedNode and of (impl.limited).isOutside: a number with its limits.
-/
import Derived.Test.YtckicpnnclbkpaaIn0
import Derived.Below
namespace Go.Proofs.Ytckicpnnclbkpaa.li
open Go.ChangeShapes Go.WideShapes Go.ChangeAt Go.RowKit
open Go.Proofs.Ytckicpnnclbkpaa.nb

abbrev lim (v a b : Int) : Value := .agg #[.int .i64 v, .int .i64 a, .int .i64 b]

theorem limited_any (n : Int) (w : World) :
    Calls Try.prog 26 #[.int .i64 n] w fun e w' => e = .returned (lim n 0 3) ∧ Below w.heap.size w w' := by
  go_enter Try.func26, Try.ntmps26
  go_wp2
  exact bodyPost_ret (v := lim n 0 3) (by simp [results, Try.results26, go_sem, lim]) rfl ⟨rfl, (Below.refl _ _).alloc (Nat.le_refl _) _⟩

theorem outside_any (v a b : Int) (w : World) :
    Calls Try.prog 27 #[lim v a b] w fun e w' => e = .returned (.bool (!inB v a b)) ∧ Below w.heap.size w w' := by
  unfold lim
  by_cases h1 : v < a
  · rw [inB_f (.inl h1)]
    go_enter Try.func27, Try.ntmps27
    go_wp2
    go_ret
    exact ⟨rfl, (Below.refl _ _).alloc (Nat.le_refl _) _⟩
  · by_cases h2 : b < v
    · rw [inB_f (.inr h2)]
      go_enter Try.func27, Try.ntmps27
      go_wp2
      go_ret
      exact ⟨rfl, (Below.refl _ _).alloc (Nat.le_refl _) _⟩
    · rw [inB_t (by omega) (by omega)]
      go_enter Try.func27, Try.ntmps27
      go_wp2
      go_ret
      exact ⟨rfl, (Below.refl _ _).alloc (Nat.le_refl _) _⟩
end Go.Proofs.Ytckicpnnclbkpaa.li
