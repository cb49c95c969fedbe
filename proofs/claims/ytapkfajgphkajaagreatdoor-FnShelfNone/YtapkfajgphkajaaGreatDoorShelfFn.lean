/-
  What the functions of chapter 11 answer, as plain functions.
-/
import Derived.Test.YtapkfajgphkajaaGreatDoorSRec
namespace Go.Proofs.YtapkfajgphkajaaGreatDoor.sh
open Go.Proofs.YtapkfajgphkajaaGreatDoor.nb Go.Proofs.YtapkfajgphkajaaGreatDoor.dc

/-- a shelf as a value -/
abbrev shv (s : ByteArray) (f : Int) : Value := .agg #[.string s, .int .i64 f]
/-- is it ok? -/
def okL (l : List UInt8) (f : Int) : Prop := l.length ≤ 2400 ∧ 0 ≤ f ∧ f ≤ l.length ∧ en l = l.length ∧ en (l.take f.toNat) = f.toNat
instance (l : List UInt8) (f : Int) : Decidable (okL l f) := by unfold okL; exact inferInstance
def okSh (s : ByteArray) (f : Int) : Bool := decide (okL s.data.toList f)
theorem okSh_iff {s : ByteArray} {f : Int} : okSh s f = true ↔ okL s.data.toList f := by unfold okSh; exact decide_eq_true_iff
theorem okSh_f {s : ByteArray} {f : Int} (h : ¬ okL s.data.toList f) : okSh s f = false := decide_eq_false h
theorem okSh_t {s : ByteArray} {f : Int} (h : okL s.data.toList f) : okSh s f = true := decide_eq_true h

theorem okSh_nat {s : ByteArray} {m : Nat} (h1 : s.size ≤ 2400) (hm : m ≤ s.size) : okSh s (m : Int) = ((en s.data.toList == s.size) && (en (s.data.toList.take m) == m)) := by
  rw [Bool.eq_iff_iff, okSh_iff, Bool.and_eq_true, beq_iff_eq, beq_iff_eq]
  unfold okL
  rw [← Lib.size_eq]
  simp only [Int.toNat_natCast]
  omega

/-- can a record be added? -/
def fits (s x : ByteArray) : Bool := decide (1 ≤ x.size ∧ x.size ≤ 60 ∧ s.size + (stS x).size ≤ 2400)
def addS (s : ByteArray) (f : Int) (x : ByteArray) : ByteArray := if okSh s f then (if fits s x then s ++ stS x else s) else ⟨#[]⟩
def addF (s : ByteArray) (f : Int) : Int := if okSh s f then f else 0
def addB (s : ByteArray) (f : Int) (x : ByteArray) : Bool := okSh s f && fits s x
def forceS (s : ByteArray) (f : Int) : ByteArray := if okSh s f then s else ⟨#[]⟩
def forceF (s : ByteArray) (f : Int) : Int := if okSh s f then (s.size : Nat) else 0
/-- what a fall leaves, of a shelf that is ok -/
def left (s : ByteArray) (f k : Int) : Nat := f.toNat + min k.toNat (s.size - f.toNat)
def fallN (s : ByteArray) (f k : Int) : Nat := en (s.data.toList.take (left s f k))
def fallS (s : ByteArray) (f k : Int) : ByteArray := if okSh s f then s.extract 0 (fallN s f k) else ⟨#[]⟩
def fallF (s : ByteArray) (f k : Int) : Int := if okSh s f then (fallN s f k : Nat) else 0
/-- texts as records, one behind the other -/
def cat : List ByteArray → ByteArray
  | [] => ⟨#[]⟩
  | x :: xs => stS x ++ cat xs
def packOk (xs : List ByteArray) : Bool := xs.all (fun x => inB x.size 1 60) && decide ((cat xs).size ≤ 2400)
def packS (s : ByteArray) (f : Int) (xs : List ByteArray) : ByteArray := if okSh s f then (if packOk xs then cat xs else s) else ⟨#[]⟩
def packF (s : ByteArray) (f : Int) (xs : List ByteArray) : Int := if okSh s f then (if packOk xs then ((cat xs).size : Nat) else f) else 0
def packB (s : ByteArray) (f : Int) (xs : List ByteArray) : Bool := okSh s f && packOk xs

theorem size_app (a b : ByteArray) : (a ++ b).size = a.size + b.size := by simp
theorem nil_app (a : ByteArray) : (⟨#[]⟩ : ByteArray) ++ a = a := ByteArray.empty_append
theorem app_nil (a : ByteArray) : a ++ (⟨#[]⟩ : ByteArray) = a := ByteArray.append_empty
theorem cat_app (a b : List ByteArray) : cat (a ++ b) = cat a ++ cat b := by
  induction a with
  | nil => exact (nil_app _).symm
  | cons x a ih => simp only [List.cons_append, cat, ih, ByteArray.append_assoc]
theorem cat_snoc (a : List ByteArray) (x : ByteArray) : cat (a ++ [x]) = cat a ++ stS x := by rw [cat_app]; simp only [cat, app_nil]
theorem stS_size {x : ByteArray} (h : 1 ≤ x.size ∧ x.size ≤ 60) : x.size + 3 ≤ (stS x).size ∧ (stS x).size ≤ x.size + 4 := by
  unfold stS
  rw [str_size]
  have := st_len (x := x.data.toList) ⟨by rw [← Lib.size_eq]; exact h.1, by rw [← Lib.size_eq]; exact h.2⟩
  rwa [← Lib.size_eq] at this
theorem cat_data (xs : List ByteArray) : (cat xs).data.toList = lg (xs.map fun x => x.data.toList) := by
  induction xs with
  | nil => rfl
  | cons x xs ih =>
    simp only [cat, List.map_cons, lg]
    rw [show (stS x ++ cat xs).data.toList = (stS x).data.toList ++ (cat xs).data.toList by simp, ih]
    unfold stS
    rw [data_str]
theorem inB_nat {n : Nat} : inB (n : Int) 1 60 = true ↔ 1 ≤ n ∧ n ≤ 60 := by rw [inB_iff]; omega
theorem cat_rks {xs : List ByteArray} (h : xs.all (fun x => inB x.size 1 60) = true) : Rks (xs.map fun x => x.data.toList) := fun y hy => by
  obtain ⟨x, hx, rfl⟩ := List.mem_map.1 hy
  have := inB_nat.1 (List.all_eq_true.1 h x hx)
  exact ⟨by rw [← Lib.size_eq]; exact this.1, by rw [← Lib.size_eq]; exact this.2⟩
end Go.Proofs.YtapkfajgphkajaaGreatDoor.sh
