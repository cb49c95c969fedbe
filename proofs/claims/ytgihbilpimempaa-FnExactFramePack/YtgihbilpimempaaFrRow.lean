/-
  Words: a slice that reads as bytes. Contracts of both FrameSum.
-/
import Derived.Test.YtgihbilpimempaaFrCells
import Derived.Test.YtgihbilpimempaaOwn
namespace Go.Proofs.Ytgihbilpimempaa.fr
open Go.ChangeShapes Go.WideShapes Go.ChangeAt Go.RowKit
open Go.Proofs.Ytgihbilpimempaa.nb Go.Proofs.Ytgihbilpimempaa.wd Go.Proofs.Ytgihbilpimempaa.cp Go.Proofs.Ytgihbilpimempaa.ow

/-- a slice that reads as bytes -/
def RowB (w : World) (A : Option Addr) (l : List UInt8) : Prop := 0 < l.length → ∃ g o, A = some ⟨g, o, none⟩ ∧ g < w.heap.size ∧ ∀ j, j < l.length → w.cell? ⟨g, o + j, none⟩ = some (.int .u8 (vl l j))
section
variable {w w' : World} {A : Option Addr} {l : List UInt8}
theorem RowB.later (h : RowB w A l) (hB : Below w.heap.size w w') : RowB w' A l := fun hl => by
  obtain ⟨g, o, e, hg, hc⟩ := h hl
  exact ⟨g, o, e, Nat.lt_of_lt_of_le hg hB.size, fun j hj => (hB.cell (p := ⟨g, o + j, none⟩) hg).trans (hc j hj)⟩
theorem RowB.drewN (h : RowB w A l) (n : Nat) : RowB (w.drewN n) A l := h
theorem RowB.nil (w : World) (A : Option Addr) : RowB w A [] := fun h => absurd h (by simp)
theorem RowB.take (h : RowB w A l) (n : Nat) : RowB w A (l.take n) := fun hl => by
  rw [List.length_take] at hl
  obtain ⟨g, o, e, hg, hc⟩ := h (by omega)
  refine ⟨g, o, e, hg, fun j hj => ?_⟩
  rw [List.length_take] at hj
  rw [hc j (by omega)]
  unfold vl
  rw [List.getD_eq_getElem?_getD, List.getD_eq_getElem?_getD, List.getElem?_take_of_lt (by omega)]
end

/-- the byte that a cell holds -/
def ofCell (c : Option Value) : UInt8 :=
  match c with
  | some (.int _ v) => b8 v
  | _ => 0
theorem bytes_row {w : World} {A : Option Addr} {n : Nat} (h : Bytes w w.heap.size A n) : ∃ l : List UInt8, l.length = n ∧ RowB w A l := by
  by_cases hn : 0 < n
  · obtain ⟨g, o, e, hg, hc⟩ := h hn
    refine ⟨(List.range n).map fun j => ofCell (w.cell? ⟨g, o + j, none⟩), by simp, fun _ => ⟨g, o, e, hg, fun j hj => ?_⟩⟩
    have hj' : j < n := by simpa using hj
    obtain ⟨v, hv, h0, h1⟩ := hc j hj'
    rw [hv]
    congr 2
    unfold vl
    rw [List.getD_eq_getElem?_getD, List.getElem?_map, List.getElem?_range hj', Option.map_some, Option.getD_some, hv]
    exact (b8_nat h0 h1).symm
  · obtain rfl : n = 0 := by omega
    exact ⟨[], rfl, RowB.nil w A⟩
/-- bytes of the call's own read as bytes -/
theorem own_row {w0 w : World} {v : Value} {l : List UInt8} (h : Own 5 w0 w v (l.map bv)) : ∃ A c, v = .slice A l.length c ∧ RowB w A l := by
  obtain ⟨A, c, rfl, hc⟩ := h.form
  rw [List.length_map] at hc ⊢
  refine ⟨A, c, rfl, fun hl => ?_⟩
  obtain ⟨g, rfl, _, hg, hcell⟩ := hc hl
  refine ⟨g, 0, rfl, hg, fun j hj => ?_⟩
  rw [Nat.zero_add, hcell j _ (by rw [List.getElem?_map, List.getElem?_eq_getElem hj]; rfl)]
  unfold bv vl
  rw [List.getD_eq_getElem?_getD, List.getElem?_eq_getElem hj]
  rfl

theorem step_bd {k : Nat} (l : List UInt8) : 0 ≤ ((k : Int) % 1000 + 1) * vl l k ∧ ((k : Int) % 1000 + 1) * vl l k ≤ 255000 := by
  have h0 := vl_lo l k
  have h1 := vl_hi l k
  have a : (0 : Int) ≤ (k : Int) % 1000 + 1 := by omega
  have b : (k : Int) % 1000 + 1 ≤ 1000 := by omega
  exact ⟨Int.mul_nonneg a h0, by have := Int.mul_le_mul b h1 h0 (by omega); omega⟩

theorem ssum_any (w : World) (A : Option Addr) (c : Nat) (l : List UInt8) (h : RowB w A l) (hl : l.length ≤ maxLen) :
    Calls Try.prog 10 #[.slice A l.length c] w fun e w' => e = .returned (.int .i64 (smL l)) ∧ w = w' := by
  unfold maxLen at hl
  have hA : ∃ g o, 0 < l.length → A = some ⟨g, o, none⟩ ∧ ∀ j, j < l.length → w.cell? ⟨g, o + j, none⟩ = some (.int .u8 (vl l j)) := by
    by_cases hp : 0 < l.length
    · obtain ⟨g, o, e, _, hc⟩ := h hp
      exact ⟨g, o, fun _ => ⟨e, hc⟩⟩
    · exact ⟨0, 0, fun hh => absurd hh hp⟩
  clear h
  by_cases hp : 0 < l.length
  · obtain ⟨g, o, hA⟩ := hA
    obtain ⟨rfl, hc⟩ := hA hp
    have HC := Lib.hid hc
    clear hA hc hp
    go_enter Try.func10, Try.ntmps10
    go_wp2
    go_loop [3, 4] (fun n i => ∃ k : Nat, k ≤ l.length ∧ i = .int .i64 k ∧ n = .int .i64 (sm l k)) (fun _ i => l.length - (intOf i).toNat)
    case atStart => exact ⟨0, by omega, rfl, rfl⟩
    case round =>
      obtain ⟨k, hk, rfl, rfl⟩ := hrel
      have s0 := sm_lo l k
      have s1 := sm_hi l k
      obtain ⟨p0, p1⟩ := step_bd (k := k) l
      have v0 := vl_lo l k
      have v1 := vl_hi l k
      have HS := Lib.hid (show (sm l k + ((k : Int) % 1000 + 1) * vl l k) % 65521 = sm l (k + 1) from rfl)
      by_cases hlt : k < l.length
      · have ck := HC.out k hlt
        generalize sm l k = S at s0 s1 HS ⊢
        generalize vl l k = V at v0 v1 p0 p1 HS ck ⊢
        go_wp2
        go_round
        case rel => exact ⟨k + 1, by omega, by go_num, by rw [← HS.out]⟩
        case measure => simp [intOf]; omega
      · obtain rfl : k = l.length := by omega
        clear p0 p1 v0 v1 HS
        go_wp2
        go_ret
        exact ⟨rfl, rfl⟩
  · have h0 : l.length = 0 := by omega
    have R := Lib.hid (show smL l = 0 by unfold smL; rw [h0]; rfl)
    rw [h0]
    clear hA hp
    go_enter Try.func10, Try.ntmps10
    go_wp2
    go_loop [3, 4] (fun n i => i = .int .i64 0 ∧ n = .int .i64 0) (fun _ i => (intOf i).toNat)
    case atStart => exact ⟨rfl, rfl⟩
    case round =>
      obtain ⟨rfl, rfl⟩ := hrel
      go_wp2
      go_ret
      exact ⟨nb.ret_int R.out.symm, rfl⟩
theorem isum_any (w : World) (A : Option Addr) (c : Nat) (l : List UInt8) (h : RowB w A l) (hl : l.length ≤ maxLen) :
    Calls Try.prog 11 #[.slice A l.length c] w fun e w' => e = .returned (.int .i64 (smL l)) ∧ w = w' := by
  unfold maxLen at hl
  by_cases hp : 0 < l.length
  · obtain ⟨g, o, rfl, _, hc⟩ := h hp
    have HC := Lib.hid hc
    clear h hc hp
    go_enter Try.func11, Try.ntmps11
    go_wp2
    go_loop [3, 4, 5, 8] (fun n _ _ i => ∃ k : Nat, k ≤ l.length ∧ i = .int .i64 k ∧ n = .int .i64 (sm l k)) (fun _ _ _ i => l.length - (intOf i).toNat)
    case atStart => exact ⟨0, by omega, rfl, rfl⟩
    case round =>
      obtain ⟨k, hk, rfl, rfl⟩ := hrel
      have s0 := sm_lo l k
      have s1 := sm_hi l k
      obtain ⟨p0, p1⟩ := step_bd (k := k) l
      rw [Int.mul_comm] at p0 p1
      have v0 := vl_lo l k
      have v1 := vl_hi l k
      have HS := Lib.hid (show (sm l k + vl l k * ((k : Int) % 1000 + 1)) % 65521 = sm l (k + 1) by rw [Int.mul_comm]; rfl)
      by_cases hlt : k < l.length
      · have ck := HC.out k hlt
        generalize sm l k = S at s0 s1 HS ⊢
        generalize vl l k = V at v0 v1 p0 p1 HS ck ⊢
        go_wp2
        go_round
        case rel => exact ⟨k + 1, by omega, by go_num, by rw [← HS.out]⟩
        case measure => simp [intOf]; omega
      · obtain rfl : k = l.length := by omega
        clear p0 p1 v0 v1 HS
        go_wp2
        go_ret
        exact ⟨rfl, rfl⟩
  · have h0 : l.length = 0 := by omega
    have R := Lib.hid (show smL l = 0 by unfold smL; rw [h0]; rfl)
    rw [h0]
    clear h hp
    go_enter Try.func11, Try.ntmps11
    go_wp2
    go_loop [3, 4, 5, 8] (fun n _ _ i => i = .int .i64 0 ∧ n = .int .i64 0) (fun _ _ _ i => (intOf i).toNat)
    case atStart => exact ⟨rfl, rfl⟩
    case round =>
      obtain ⟨rfl, rfl⟩ := hrel
      go_wp2
      go_ret
      exact ⟨nb.ret_int R.out.symm, rfl⟩
end Go.Proofs.Ytgihbilpimempaa.fr
