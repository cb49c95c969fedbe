/-
  Contract of (*impl.Note).numbers: a slice of its own, of pointers to the message's four numbers.
-/
import Derived.Test.YtekoghcgkmldgaaDoorIn0
import Derived.Test.YtekoghcgkmldgaaDoorWords
import Derived.Below
import Derived.Deep.RegionHeld3
namespace Go.Proofs.YtekoghcgkmldgaaDoor.dc
open Go.ChangeShapes Go.WideShapes Go.ChangeAt Go.RowKit
open Go.Proofs.YtekoghcgkmldgaaDoor.wd

def ptrA (g : Nat) : Array Value := #[.pointer (some ⟨g, 0, none⟩), .pointer (some ⟨g, 1, none⟩), .pointer (some ⟨g, 2, none⟩), .pointer (some ⟨g, 3, none⟩)]
theorem ptrA_at {k : Nat} (hk : k < 4) (g : Nat) : (ptrA g)[k]? = some (.pointer (some ⟨g, k, none⟩)) := by
  match k, hk with
  | 0, _ => rfl
  | 1, _ => rfl
  | 2, _ => rfl
  | 3, _ => rfl
def NumPost (g : Nat) (w : World) (e : Ending) (w' : World) : Prop := ∃ R, e = .returned (.slice (some ⟨R, 0, none⟩) 4 4) ∧ w.heap.size ≤ R ∧ Blk w' R 46 (ptrA g) ∧ Below w.heap.size w w'

set_option maxRecDepth 100000 in
set_option maxHeartbeats 1000000 in
theorem numbers_any (g : Nat) (w : World) :
    Calls Tryd.prog 23 #[.pointer (some ⟨g, 0, none⟩)] w (NumPost g w) := by
  go_enter Tryd.func23, Tryd.ntmps23
  go_wp2_with fail
  go_region
  all_goals
    go_wp2
    go_ret
    exact ⟨_, rfl, Nat.le_refl _, Blk.new _ _ _, ((Below.refl _ _).alloc (Nat.le_refl _) _).drew⟩
end Go.Proofs.YtekoghcgkmldgaaDoor.dc
