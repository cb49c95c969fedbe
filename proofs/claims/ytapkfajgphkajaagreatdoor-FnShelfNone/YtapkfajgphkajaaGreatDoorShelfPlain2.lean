/-
  More plain mathematics of chapter 11: the front of a log by its first colon; sums of strings.
-/
import Derived.Test.YtapkfajgphkajaaGreatDoorShelfPlain
namespace Go.Proofs.YtapkfajgphkajaaGreatDoor.sh
open Go.Proofs.YtapkfajgphkajaaGreatDoor.dc

theorem one_at {l : List UInt8} {i : Nat} (hi : l[i]? = some 58) (hb : ∀ k, k < i → l[k]? ≠ some 58) :
    one l = if sz (l.take i) ≠ 0 ∧ l[i + 1 + sz (l.take i)]? = some 59 then some ((l.drop (i + 1)).take (sz (l.take i)), i + sz (l.take i) + 2) else none := by
  have hl : i < l.length := (List.getElem?_eq_some_iff.1 hi).1
  unfold one
  rw [hd_at hi hb]
  simp only [List.getElem?_drop, List.length_take, Nat.min_eq_left (Nat.le_of_lt hl)]
theorem dl_len2 {n : Nat} (h : n ≤ 60) : (dl (n : Int)).length ≤ 2 := by
  unfold dl
  by_cases hs : n < 10
  · rw [Lib.decDigits_one (by simpa using hs)]; simp
  · rw [Lib.decDigits_two (by simpa using hs) (by simp; omega)]; simp
theorem one_no3 {l : List UInt8} (h : ∀ k, k < 3 → l[k]? ≠ some 58) : one l = none := by
  cases e : one l with
  | none => rfl
  | some p =>
    obtain ⟨x, k⟩ := p
    obtain ⟨hx, _, t, hl⟩ := one_some e
    exfalso
    have := dl_len2 hx.2
    apply h (dl (x.length : Int)).length (by omega)
    rw [hl]
    unfold st
    simp
theorem sz_none {d : List UInt8} (h : ∀ n : Nat, 1 ≤ n → n ≤ 60 → d ≠ dl (n : Int)) : sz d = 0 := by
  by_cases e : sz d = 0
  · exact e
  · obtain ⟨h1, h2, h3⟩ := sz_pos e
    exact absurd h3 (h _ h1 h2)

/-- what reading one record answers -/
def oneS (l : List UInt8) : ByteArray := match one l with | some (x, _) => str x | none => str []
def oneN (l : List UInt8) : Nat := match one l with | some (_, k) => k | none => 0
theorem oneS_none {l : List UInt8} (h : one l = none) : oneS l = str [] := by unfold oneS; rw [h]
theorem oneN_none {l : List UInt8} (h : one l = none) : oneN l = 0 := by unfold oneN; rw [h]
theorem oneS_some {l x : List UInt8} {k : Nat} (h : one l = some (x, k)) : oneS l = str x := by unfold oneS; rw [h]
theorem oneN_some {l x : List UInt8} {k : Nat} (h : one l = some (x, k)) : oneN l = k := by unfold oneN; rw [h]

theorem ext_take (s : ByteArray) (i : Nat) : (s.extract 0 i).data.toList = s.data.toList.take i := by
  rw [Lib.extract_eq, data_str']
  simp
where data_str' : ∀ {l : List UInt8}, (⟨l.toArray⟩ : ByteArray).data.toList = l := by intro l; simp
end Go.Proofs.YtapkfajgphkajaaGreatDoor.sh
