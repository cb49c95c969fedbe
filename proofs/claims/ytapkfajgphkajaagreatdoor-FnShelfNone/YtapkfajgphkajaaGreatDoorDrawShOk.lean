/-
  Contract of spec.DrawShelfOk: whatever the code, a shelf whose log has at most 6000 bytes.
-/
import Derived.Test.YtapkfajgphkajaaGreatDoorDrawShelf
namespace Go.Proofs.YtapkfajgphkajaaGreatDoor.dr
open Go.ChangeShapes Go.WideShapes Go.ChangeAt Go.RowKit
open Go.Proofs.YtapkfajgphkajaaGreatDoor.wd Go.Proofs.YtapkfajgphkajaaGreatDoor.pk Go.Proofs.YtapkfajgphkajaaGreatDoor.cp Go.Proofs.YtapkfajgphkajaaGreatDoor.ow Go.Proofs.YtapkfajgphkajaaGreatDoor.ok Go.Proofs.YtapkfajgphkajaaGreatDoor.dc Go.Proofs.YtapkfajgphkajaaGreatDoor.sh

def DrawnShelf (w : World) (e : Ending) (w' : World) : Prop := ∃ (s : ByteArray) (f : Int), e = .returned (shv s f) ∧ s.size ≤ 6000 ∧ Below w.heap.size w w'

theorem drawShelfOk (w : World) (A : Option Addr) (len cap : Nat) (h : Bytes w w.heap.size A len) (hl : len ≤ cap) (hm : cap ≤ maxLen) :
    Calls Tryz.prog 18 #[.slice A len cap] w (DrawnShelf w) := by
  have hB0 := (Below.refl w.heap.size w).alloc (Nat.le_refl _) (.cells #[.string ⟨#[]⟩, .int .i64 0] 24)
  have hZ0 := Blk.new w 24 #[.string ⟨#[]⟩, .int .i64 0]
  have h0 := Bytes_later h hB0
  clear h
  go_enter Tryz.func18, Tryz.ntmps18
  go_wp2_with fail
  generalize w.alloc (.cells #[.string ⟨#[]⟩, .int .i64 0] 24) = W0 at hB0 hZ0 h0 ⊢
  refine (open_any _ _ _ _ h0 hl hm).mono ?_
  rintro e w1 ⟨len1, cap1, rfl, hR, hB1, hz⟩
  have hZ1 := hZ0.below hB1 hZ0.lt
  have hB2 := hB0.trans (hB1.mono hB0.size)
  have hlt := hZ0.lt
  have hb0 := hB0.size
  clear hz hZ0 hB0 hB1
  go_wp2_with fail
  refine (shelf72 _ _ _ _ _ _ hR (by omega)).mono ?_
  rintro e W ⟨s, f, p', rfl, hs, _, _, _, hG⟩
  have hZ2 := blk_grown hZ1 hG (by omega)
  have hB3 := hB2.trans (grown_below hG (by omega) hB2.size)
  have z0 := hZ2.cell 0
  have z1 := hZ2.cell 1
  simp only [List.getElem?_toArray, List.getElem?_cons_zero, List.getElem?_cons_succ] at z0 z1
  have y0 := hZ2.frozen 0
  have y1 := hZ2.frozen 1
  have HC := Lib.hid ((hZ2.put 0 (.string s)).put 1 (.int .i64 f))
  have HB := Lib.hid ((hB3.setCell (p := ⟨w.heap.size, 0, none⟩) (Nat.le_refl _) (.string s)).setCell (p := ⟨w.heap.size, 1, none⟩) (Nat.le_refl _) (.int .i64 f))
  clear hZ1 hZ2 hG hB2 hB3 hR
  go_wp2
  have x0 := HC.out.cell 0
  have x1 := HC.out.cell 1
  exact bodyPost_ret (v := shv s f) (by simp [results, Tryz.results18, go_sem, x0, x1]) rfl ⟨s, f, rfl, hs, HB.out⟩
end Go.Proofs.YtapkfajgphkajaaGreatDoor.dr
