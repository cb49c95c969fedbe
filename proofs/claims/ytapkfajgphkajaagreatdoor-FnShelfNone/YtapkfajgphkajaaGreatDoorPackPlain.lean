/-
  Plain: what packing says of a list's beginnings.
-/
import Derived.Test.YtapkfajgphkajaaGreatDoorSShAdd
namespace Go.Proofs.YtapkfajgphkajaaGreatDoor.sh
open Go.Proofs.YtapkfajgphkajaaGreatDoor.nb Go.Proofs.YtapkfajgphkajaaGreatDoor.dc

def allR (xs : List ByteArray) : Bool := xs.all fun x => inB x.size 1 60
theorem take_more {xs : List ByteArray} {k : Nat} (h : k < xs.length) : xs.take (k + 1) = xs.take k ++ [xs[k]] := List.take_succ_eq_append_getElem h
theorem cat_take {xs : List ByteArray} {k : Nat} (h : k < xs.length) : cat (xs.take (k + 1)) = cat (xs.take k) ++ stS xs[k] := by rw [take_more h, cat_snoc]
theorem all_take {xs : List ByteArray} {k : Nat} (h : k < xs.length) (ha : allR (xs.take k) = true) (hx : inB (xs[k].size : Int) 1 60 = true) : allR (xs.take (k + 1)) = true := by
  unfold allR at *
  rw [take_more h, List.all_append, ha]
  simpa using hx
theorem all_bad {xs : List ByteArray} {k : Nat} (h : k < xs.length) (hx : inB (xs[k].size : Int) 1 60 = false) : packOk xs = false := by
  unfold packOk
  have : (xs.all fun x => inB x.size 1 60) = false := by
    rw [List.all_eq_false]
    exact ⟨xs[k], List.getElem_mem h, by rw [hx]; simp⟩
  rw [this]; rfl
theorem cat_mono (xs : List ByteArray) (k : Nat) : (cat (xs.take k)).size ≤ (cat xs).size := by
  have e : cat xs = cat (xs.take k) ++ cat (xs.drop k) := by rw [← cat_app, List.take_append_drop]
  rw [e, size_app]
  omega
theorem cat_size {xs : List ByteArray} {k : Nat} (hk : k ≤ xs.length) (ha : allR (xs.take k) = true) : (cat (xs.take k)).size ≤ 64 * k := by
  induction k with
  | zero => simp [cat, ByteArray.size]
  | succ k ih =>
    have hx : inB (xs[k].size : Int) 1 60 = true := by
      unfold allR at ha
      rw [take_more hk, List.all_append, Bool.and_eq_true] at ha
      simpa using ha.2
    have ha' : allR (xs.take k) = true := by
      unfold allR at *
      rw [take_more hk, List.all_append, Bool.and_eq_true] at ha
      exact ha.1
    have := ih (by omega) ha'
    have hs := stS_size (inB_nat.1 hx)
    have := (inB_nat.1 hx).2
    rw [cat_take hk, size_app]
    omega
theorem pack_big {xs : List ByteArray} (h : 2400 < (cat xs).size) : packOk xs = false := by
  unfold packOk
  rw [decide_eq_false (by omega), Bool.and_false]
theorem pack_ok {xs : List ByteArray} (ha : allR xs = true) (h : (cat xs).size ≤ 2400) : packOk xs = true := by
  unfold packOk allR at *
  rw [ha, decide_eq_true h]; rfl
theorem pack_no {s : ByteArray} {f : Int} {xs : List ByteArray} (h : okSh s f = true) (h2 : packOk xs = false) : packS s f xs = s ∧ packF s f xs = f ∧ packB s f xs = false := by simp [packS, packF, packB, h, h2]
theorem pack_yes {s : ByteArray} {f : Int} {xs : List ByteArray} (h : okSh s f = true) (h2 : packOk xs = true) : packS s f xs = cat xs ∧ packF s f xs = ((cat xs).size : Nat) ∧ packB s f xs = true := by simp [packS, packF, packB, h, h2]
theorem pack_bad {s : ByteArray} {f : Int} {xs : List ByteArray} (h : okSh s f = false) : packS s f xs = ⟨#[]⟩ ∧ packF s f xs = 0 ∧ packB s f xs = false := by simp [packS, packF, packB, h]
theorem in_false {n : Nat} (h : ¬ (1 ≤ n ∧ n ≤ 60)) : inB (n : Int) 1 60 = false := by
  cases e : inB (n : Int) 1 60 with
  | false => rfl
  | true => exact absurd (inB_nat.1 e) h
end Go.Proofs.YtapkfajgphkajaaGreatDoor.sh
