/-
  Contract of spec.DrawNoteNext: two numbers from -1 to 4, whatever the code.
-/
import Derived.Test.YtekoghcgkmldgaaDraw0
namespace Go.Proofs.Ytekoghcgkmldgaa.dn
open Go.ChangeShapes Go.WideShapes Go.ChangeAt Go.RowKit
open Go.Proofs.Ytekoghcgkmldgaa.wd Go.Proofs.Ytekoghcgkmldgaa.pk Go.Proofs.Ytekoghcgkmldgaa.dr

def DrawnNodes (w : World) (e : Ending) (w' : World) : Prop :=
  ∃ a b : Int, e = .returned (.tuple #[.int .i64 a, .int .i64 b]) ∧ -1 ≤ a ∧ a ≤ 4 ∧ -1 ≤ b ∧ b ≤ 4 ∧ Below w.heap.size w w'

theorem drawNext (w : World) (A : Option Addr) (len cap : Nat) (h : Bytes w w.heap.size A len) (hl : len ≤ cap) (hm : cap ≤ maxLen) :
    Calls Try.prog 18 #[.slice A len cap] w (DrawnNodes w) := by
  go_enter Try.func18, Try.ntmps18
  go_wp2_with fail
  refine (open_any _ _ _ _ h hl hm).mono ?_
  rintro e w1 ⟨len1, cap1, rfl, hR, hB, hz⟩
  have HZ := Lib.hid hz
  clear hz
  go_wp2_with fail
  refine (picked _ _ _ _ _ _ _ hR (by omega) (by omega) (by omega)).mono ?_
  rintro e w2 ⟨v, rfl, v0, v1, hR2, hO2⟩
  go_wp2_with fail
  refine (picked _ _ _ _ _ _ _ hR2 (by omega) (by omega) (by omega)).mono ?_
  rintro e w3 ⟨u, rfl, u0, u1, hR3, hO3⟩
  go_wp2
  go_ret2
  exact ⟨_, _, rfl, by omega, by omega, by omega, by omega, hB.trans (hO2.trans hO3).1⟩
end Go.Proofs.Ytekoghcgkmldgaa.dn
