/-
  Contract of spec.DrawShelfRead: whatever the code, a text of at most 12025 bytes.
-/
import Derived.Test.YtapkfajgphkajaaDoorDrawShelf
namespace Go.Proofs.YtapkfajgphkajaaDoor.dr
open Go.ChangeShapes Go.WideShapes Go.ChangeAt Go.RowKit
open Go.Proofs.YtapkfajgphkajaaDoor.wd Go.Proofs.YtapkfajgphkajaaDoor.pk Go.Proofs.YtapkfajgphkajaaDoor.cp Go.Proofs.YtapkfajgphkajaaDoor.ow Go.Proofs.YtapkfajgphkajaaDoor.ok Go.Proofs.YtapkfajgphkajaaDoor.dc Go.Proofs.YtapkfajgphkajaaDoor.sh

def DrawnLog (w : World) (e : Ending) (w' : World) : Prop := ∃ x : ByteArray, e = .returned (.string x) ∧ x.size ≤ 12025 ∧ Below w.heap.size w w'

set_option maxRecDepth 100000 in
theorem drawShelfRead (w : World) (A : Option Addr) (len cap : Nat) (h : Bytes w w.heap.size A len) (hl : len ≤ cap) (hm : cap ≤ maxLen) :
    Calls Tryd.prog 25 #[.slice A len cap] w (DrawnLog w) := by
  go_enter Tryd.func25, Tryd.ntmps25
  go_wp2_with fail
  refine (open_any _ _ _ _ h hl hm).mono ?_
  rintro e w1 ⟨len1, cap1, rfl, hR, hB1, hz⟩
  clear hz
  go_wp2_with fail
  refine (shelf72 _ _ _ _ _ _ hR (by omega)).mono ?_
  rintro e w2 ⟨s, f, p', rfl, hs, hp0, hp1, hR2, hG2⟩
  have hB2 := hB1.trans (grown_below hG2 (Nat.le_refl _) hB1.size)
  have hfld : ∀ V : World, (Instr.field 24 (shv s f) 0).run Tryd.prog V = .ok (.string s) V := fun V => by kernel_rfl
  clear hR hG2 hB1
  go_wp2_with fail
  refine (bend72 _ _ _ _ _ _ hR2 (by omega) s (by omega)).mono ?_
  rintro e w3 ⟨y, p2, rfl, hy, _, _, _, hG3⟩
  have HB := Lib.hid (hB2.trans (grown_below hG3 (Nat.le_refl _) hB2.size))
  clear hR2 hB2 hG3
  go_wp2
  go_ret
  exact ⟨y, rfl, by omega, HB.out⟩
end Go.Proofs.YtapkfajgphkajaaDoor.dr
