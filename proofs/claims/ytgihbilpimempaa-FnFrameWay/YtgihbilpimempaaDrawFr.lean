/-
  Contracts of spec.DrawFrameOk, DrawFramePack: whatever the code, a frame with data of at most 25 bytes.
-/
import Derived.Test.YtgihbilpimempaaDrawFrame
namespace Go.Proofs.Ytgihbilpimempaa.dr
open Go.ChangeShapes Go.WideShapes Go.ChangeAt Go.RowKit
open Go.Proofs.Ytgihbilpimempaa.wd Go.Proofs.Ytgihbilpimempaa.pk Go.Proofs.Ytgihbilpimempaa.cp Go.Proofs.Ytgihbilpimempaa.ow Go.Proofs.Ytgihbilpimempaa.fr

def DrawnFrame (w : World) (e : Ending) (w' : World) : Prop := ∃ F : Fr, e = .returned (frv F) ∧ F.x.size ≤ 25 ∧ Below w.heap.size w w'

set_option maxRecDepth 100000 in
set_option maxHeartbeats 1000000 in
theorem drawFrameOk (w : World) (A : Option Addr) (len cap : Nat) (h : Bytes w w.heap.size A len) (hl : len ≤ cap) (hm : cap ≤ maxLen) :
    Calls Try.prog 12 #[.slice A len cap] w (DrawnFrame w) := by
  have hB0 := (Below.refl w.heap.size w).alloc (Nat.le_refl _) (.cells zF 27)
  have hZ0 := Blk.new w 27 zF
  have h0 := Bytes_later h hB0
  clear h
  go_enter Try.func12, Try.ntmps12
  go_wp2_with fail
  generalize w.alloc (.cells zF 27) = W0 at hB0 hZ0 h0 ⊢
  refine (open_any _ _ _ _ h0 hl hm).mono ?_
  rintro e w1 ⟨len1, cap1, rfl, hR, hB1, hz⟩
  have HZ := Lib.hid hz
  have hZ1 := hZ0.below hB1 hZ0.lt
  have hB2 := hB0.trans (hB1.mono hB0.size)
  have hlt := hZ0.lt
  have hb0 := hB0.size
  clear hz hZ0 hB0 hB1
  go_wp2_with fail
  refine (frame72 _ _ _ _ _ _ hR (by omega)).mono ?_
  rintro e W ⟨F, p', rfl, hs, _, _, _, hG⟩
  have hZ2 := blk_grown hZ1 hG (by omega)
  have hB3 := Lib.hid (hB2.trans (grown_below hG (by omega) hB2.size))
  obtain ⟨z0, z1, z2, z3, z4, z5, z6, z7, z8, z9, _⟩ := ten hZ2
  obtain ⟨g0, g1, g2, g3, g4, g5, g6, g7, g8, g9⟩ := ten_frozen hZ2
  clear hZ1 hZ2 hG hB2 hR
  obtain ⟨k, s, d, f, n, t, u, z, m, x⟩ := F
  unfold frv
  simp only at hs ⊢
  go_wp2
  refine bodyPost_ret (v := frv ⟨k, s, d, f, n, t, u, z, m, x⟩) (by simp [results, Try.results12, go_sem, frv, *]) rfl ⟨⟨k, s, d, f, n, t, u, z, m, x⟩, rfl, hs, ?_⟩
  exact put10 hB3.out (Nat.le_refl _) _ _ _ _ _ _ _ _ _ _
set_option maxRecDepth 100000 in
set_option maxHeartbeats 1000000 in
theorem drawFramePack (w : World) (A : Option Addr) (len cap : Nat) (h : Bytes w w.heap.size A len) (hl : len ≤ cap) (hm : cap ≤ maxLen) :
    Calls Try.prog 16 #[.slice A len cap] w (DrawnFrame w) := by
  have hB0 := (Below.refl w.heap.size w).alloc (Nat.le_refl _) (.cells zF 27)
  have hZ0 := Blk.new w 27 zF
  have h0 := Bytes_later h hB0
  clear h
  go_enter Try.func16, Try.ntmps16
  go_wp2_with fail
  generalize w.alloc (.cells zF 27) = W0 at hB0 hZ0 h0 ⊢
  refine (open_any _ _ _ _ h0 hl hm).mono ?_
  rintro e w1 ⟨len1, cap1, rfl, hR, hB1, hz⟩
  have HZ := Lib.hid hz
  have hZ1 := hZ0.below hB1 hZ0.lt
  have hB2 := hB0.trans (hB1.mono hB0.size)
  have hlt := hZ0.lt
  have hb0 := hB0.size
  clear hz hZ0 hB0 hB1
  go_wp2_with fail
  refine (frame72 _ _ _ _ _ _ hR (by omega)).mono ?_
  rintro e W ⟨F, p', rfl, hs, _, _, _, hG⟩
  have hZ2 := blk_grown hZ1 hG (by omega)
  have hB3 := Lib.hid (hB2.trans (grown_below hG (by omega) hB2.size))
  obtain ⟨z0, z1, z2, z3, z4, z5, z6, z7, z8, z9, _⟩ := ten hZ2
  obtain ⟨g0, g1, g2, g3, g4, g5, g6, g7, g8, g9⟩ := ten_frozen hZ2
  clear hZ1 hZ2 hG hB2 hR
  obtain ⟨k, s, d, f, n, t, u, z, m, x⟩ := F
  unfold frv
  simp only at hs ⊢
  go_wp2
  refine bodyPost_ret (v := frv ⟨k, s, d, f, n, t, u, z, m, x⟩) (by simp [results, Try.results16, go_sem, frv, *]) rfl ⟨⟨k, s, d, f, n, t, u, z, m, x⟩, rfl, hs, ?_⟩
  exact put10 hB3.out (Nat.le_refl _) _ _ _ _ _ _ _ _ _ _
end Go.Proofs.Ytgihbilpimempaa.dr
