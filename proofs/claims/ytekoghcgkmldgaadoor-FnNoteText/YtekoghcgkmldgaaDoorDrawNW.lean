/-
  Contract of spec.DrawNoteWrite: whatever the code, a message with a text of at most 25 bytes.
-/
import Derived.Test.YtekoghcgkmldgaaDoorDrawNote
namespace Go.Proofs.YtekoghcgkmldgaaDoor.dr
open Go.ChangeShapes Go.WideShapes Go.ChangeAt Go.RowKit
open Go.Proofs.YtekoghcgkmldgaaDoor.wd Go.Proofs.YtekoghcgkmldgaaDoor.pk Go.Proofs.YtekoghcgkmldgaaDoor.cp Go.Proofs.YtekoghcgkmldgaaDoor.ow Go.Proofs.YtekoghcgkmldgaaDoor.ok

def DrawnNote (w : World) (e : Ending) (w' : World) : Prop := ∃ (f n t u : Int) (s : ByteArray), e = .returned (note f n t u s) ∧ s.size ≤ 25 ∧ Below w.heap.size w w'

theorem drawNoteWrite (w : World) (A : Option Addr) (len cap : Nat) (h : Bytes w w.heap.size A len) (hl : len ≤ cap) (hm : cap ≤ maxLen) :
    Calls Tryd.prog 7 #[.slice A len cap] w (DrawnNote w) := by
  have hB0 := (Below.refl w.heap.size w).alloc (Nat.le_refl _) (.cells #[.int .i64 0, .int .i64 0, .int .i64 0, .int .i64 0, .string ⟨#[]⟩] 24)
  have hZ0 := Blk.new w 24 #[.int .i64 0, .int .i64 0, .int .i64 0, .int .i64 0, .string ⟨#[]⟩]
  have h0 := Bytes_later h hB0
  clear h
  go_enter Tryd.func7, Tryd.ntmps7
  go_wp2_with fail
  generalize w.alloc (.cells #[.int .i64 0, .int .i64 0, .int .i64 0, .int .i64 0, .string ⟨#[]⟩] 24) = W0 at hB0 hZ0 h0 ⊢
  refine (open_any _ _ _ _ h0 hl hm).mono ?_
  rintro e w1 ⟨len1, cap1, rfl, hR, hB1, hz⟩
  have HZ := Lib.hid hz
  have hZ1 := hZ0.below hB1 hZ0.lt
  have hB2 := hB0.trans (hB1.mono hB0.size)
  have hlt := hZ0.lt
  have hb0 := hB0.size
  clear hz hZ0 hB0 hB1
  go_wp2_with fail
  refine (note72 _ _ _ _ _ _ hR (by omega)).mono ?_
  rintro e W ⟨f, n, t, u, s, p', rfl, hs, _, _, _, hG⟩
  have hZ2 := blk_grown hZ1 hG (by omega)
  have hB3 := Lib.hid (hB2.trans (grown_below hG (by omega) hB2.size))
  obtain ⟨z0, z1, z2, z3, z4, _⟩ := ok.five hZ2
  have y0 := hZ2.frozen 0
  have y1 := hZ2.frozen 1
  have y2 := hZ2.frozen 2
  have y3 := hZ2.frozen 3
  have y4 := hZ2.frozen 4
  clear hZ1 hZ2 hG hB2 hR
  unfold note
  go_wp2
  refine bodyPost_ret (v := note f n t u s) (by simp [results, Tryd.results7, go_sem, note, *]) rfl ⟨f, n, t, u, s, rfl, hs, ?_⟩
  exact ((((hB3.out.setCell (p := ⟨w.heap.size, 0, none⟩) (Nat.le_refl _) _).setCell (p := ⟨w.heap.size, 1, none⟩) (Nat.le_refl _) _).setCell (p := ⟨w.heap.size, 2, none⟩) (Nat.le_refl _) _).setCell (p := ⟨w.heap.size, 3, none⟩) (Nat.le_refl _) _).setCell (p := ⟨w.heap.size, 4, none⟩) (Nat.le_refl _) _
end Go.Proofs.YtekoghcgkmldgaaDoor.dr
