/-
  Contracts of spec.l3Word, and of strings.Cut at a blank: the first word, and what stands behind it.
-/
import Derived.Test.YtekoghcgkmldgaaDoorDecPlain
import Derived.Test.YtekoghcgkmldgaaDoorShelf
import Derived.Test.YtekoghcgkmldgaaDoorRows
import Derived.WalkKit
import Derived.ProofKit
import Derived.Lib.Hide
import Derived.Deep.QuietTactic
import Derived.BigQuiet
import Derived.Below
namespace Go.Proofs.YtekoghcgkmldgaaDoor.dc
open Go.ChangeShapes Go.WideShapes Go.ChangeAt Go.RowKit
open Go.Proofs.YtekoghcgkmldgaaDoor.nb Go.Proofs.YtekoghcgkmldgaaDoor.ok

theorem below_drewN' {B : Nat} {a w : World} (h : Below B a w) (n : Nat) : Below B a (w.drewN n) := ⟨h.os, h.tape, h.output, h.size, h.block⟩

theorem word_parts {s : ByteArray} {i : Nat} (hi : s.data.toList[i]? = some 32) (hb : ∀ k, k < i → s.data.toList[k]? ≠ some 32) :
    s.extract 0 i = str (word s.data.toList).1 ∧ s.extract (i + 1) s.size = str (word s.data.toList).2 := by
  rw [word_at hi hb, Lib.extract_eq, Lib.extract_eq]
  refine ⟨by simp [str], ?_⟩
  unfold str
  congr 2
  show List.take (s.size - (i + 1)) (List.drop (i + 1) s.data.toList) = _
  rw [List.take_of_length_le (by rw [List.length_drop, ← Lib.size_eq]; exact Nat.le_refl _)]
theorem word_whole {s : ByteArray} (h : ∀ k : Nat, s.data.toList[k]? ≠ some 32) : s = str (word s.data.toList).1 ∧ (⟨#[]⟩ : ByteArray) = str (word s.data.toList).2 := by
  rw [word_none h]
  exact ⟨(str_data s).symm, rfl⟩

def WordPost (w : World) (s : ByteArray) (e : Ending) (w' : World) : Prop := e = .returned (.tuple #[.string (str (word s.data.toList).1), .string (str (word s.data.toList).2)]) ∧ Below w.heap.size w w'
def CutPost (w : World) (s : ByteArray) (e : Ending) (w' : World) : Prop := ∃ b, e = .returned (.tuple #[.string (str (word s.data.toList).1), .string (str (word s.data.toList).2), .bool b]) ∧ Below w.heap.size w w'

theorem idx_any (s : ByteArray) (w : World) : Calls Tryd.prog 52 #[.string s, .string ⟨#[32]⟩] w fun e w' => e = .returned (.int .i64 (Lib.indexByte s.data.toList 32)) ∧ w = w' :=
  (Tryd.stringslite_Index_one s 32 w).mono fun _ _ ⟨a, b⟩ => ⟨a, b.symm⟩

theorem cut_inner (s : ByteArray) (hs : s.size ≤ 1048576) (w : World) :
    Calls Tryd.prog 45 #[.string s, .string ⟨#[32]⟩] w (CutPost w s) := by
  by_cases hneg : Lib.indexByte s.data.toList 32 < 0
  · have e1 : Lib.indexByte s.data.toList 32 = -1 := by have := Lib.indexByte_ge s.data.toList 32; omega
    have HW := Lib.hid (word_whole (Lib.indexByte_none e1))
    have HI := Lib.hid (fun W => (idx_any s W))
    rw [e1] at HI
    clear hneg e1
    go_enter Tryd.func45, Tryd.ntmps45
    go_wp2_with ((go_at_call 52; refine (HI.out _).mono ?_; rintro e w' ⟨rfl, rfl⟩))
    go_ret3
    exact ⟨false, by rw [← HW.out.1, ← HW.out.2]; rfl, Below.refl _ _⟩
  · obtain ⟨o, ho⟩ := Int.eq_ofNat_of_zero_le (Int.not_lt.1 hneg)
    obtain ⟨h1, h2⟩ := Lib.indexByte_some ho
    have HW := Lib.hid (word_parts h1 h2)
    have HI := Lib.hid (fun W => (idx_any s W))
    rw [ho] at HI
    have hlt : o < s.size := by have := (List.getElem?_eq_some_iff.1 h1).1; rwa [← Lib.size_eq] at this
    clear hneg ho h1 h2
    have b0 : (0 : Int) ≤ (o : Int) := by omega
    have b1 : (o : Int) ≤ (s.size : Int) := by omega
    have b2 : IntKind.i64.wrap ((o : Int) + 1) = (o : Int) + 1 := by rw [IntKind.wrap_i64]; omega
    have b3 : (0 : Int) ≤ (o : Int) + 1 := by omega
    have b4 : (o : Int) + 1 ≤ (s.size : Int) := by omega
    have b5 : ((o : Int) + 1).toNat = o + 1 := by omega
    go_enter Tryd.func45, Tryd.ntmps45
    go_wp2_with ((go_at_call 52; refine (HI.out _).mono ?_; rintro e w' ⟨rfl, rfl⟩))
    go_quiet (fail)
    go_wp2
    go_ret3
    exact ⟨true, by rw [← HW.out.1, ← HW.out.2]; rfl, below_drewN' (Below.refl _ _) _⟩

theorem cut_any (s : ByteArray) (hs : s.size ≤ 1048576) (w : World) :
    Calls Tryd.prog 39 #[.string s, .string ⟨#[32]⟩] w (CutPost w s) := by
  have H := Lib.hid (fun W => cut_inner s hs W)
  go_enter Tryd.func39, Tryd.ntmps39
  go_wp2_with fail
  refine (H.out _).mono ?_
  rintro e w1 ⟨b, rfl, hB⟩
  go_wp2
  go_ret3
  exact ⟨b, rfl, hB⟩

theorem sword_any (s : ByteArray) (hs : s.size ≤ 1048576) (w : World) :
    Calls Tryd.prog 41 #[.string s] w (WordPost w s) := by
  go_enter Tryd.func41, Tryd.ntmps41
  go_wp2
  go_loop [4] (fun i => ∃ k : Nat, k ≤ s.size ∧ i = .int .i64 k ∧ Hid (∀ j, j < k → s.data.toList[j]? ≠ some 32)) (fun i => s.size - (intOf i).toNat)
  case atStart => exact ⟨0, by omega, rfl, fun j hj => absurd hj (by omega)⟩
  case round =>
    obtain ⟨k, hk, rfl, HA⟩ := hrel
    by_cases hlt : k < s.size
    · have hat : s.data.toList[k]? = some s[k] := by rw [List.getElem?_eq_getElem (by rw [← Lib.size_eq]; exact hlt)]; rfl
      by_cases hc : s[k] = 32
      · have HW := Lib.hid (word_parts (hat.trans (by rw [hc])) HA.out)
        have hcv : ((s[k].toNat : Int) == 32) = true := by rw [hc]; rfl
        have b0 : (0 : Int) ≤ (k : Int) := by omega
        have b1 : (k : Int) ≤ (s.size : Int) := by omega
        have b2 : IntKind.i64.wrap ((k : Int) + 1) = (k : Int) + 1 := by rw [IntKind.wrap_i64]; omega
        have b3 : (0 : Int) ≤ (k : Int) + 1 := by omega
        have b4 : (k : Int) + 1 ≤ (s.size : Int) := by omega
        have b5 : ((k : Int) + 1).toNat = k + 1 := by omega
        clear hat hc
        go_wp2
        go_quiet (fail)
        go_wp2
        go_ret2
        exact ⟨by rw [← HW.out.1, ← HW.out.2]; rfl, below_drewN' (Below.refl _ _) _⟩
      · have R : Hid (∀ j, j < k + 1 → s.data.toList[j]? ≠ some 32) := fun j hj => by
          by_cases e : j = k
          · subst e; rw [hat]; intro h; exact hc (Option.some.inj h)
          · exact HA.out j (by omega)
        have hcv : ((s[k].toNat : Int) == 32) = false := by
          rw [beq_eq_false_iff_ne]
          intro e
          apply hc
          apply UInt8.toNat_inj.1
          have : s[k].toNat = 32 := by omega
          rw [this]; rfl
        clear hat hc
        go_wp2
        go_round
        case rel => exact ⟨k + 1, by omega, by go_num, R⟩
        case measure => simp [intOf]; omega
    · have HW := Lib.hid (word_whole (s := s) (fun j e => by
        by_cases hj : j < k
        · exact HA.out j hj e
        · have := (List.getElem?_eq_some_iff.1 e).1
          rw [← Lib.size_eq] at this
          omega))
      go_wp2
      go_ret2
      exact ⟨by rw [← HW.out.1, ← HW.out.2]; rfl, Below.refl _ _⟩
end Go.Proofs.YtekoghcgkmldgaaDoor.dc
