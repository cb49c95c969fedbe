/-
  Contract of spec.DrawNoteRead: whatever the code, a text of at most 200 bytes.
-/
import Derived.Test.YtekoghcgkmldgaaDoorDrawBend
namespace Go.Proofs.YtekoghcgkmldgaaDoor.dr
open Go.ChangeShapes Go.WideShapes Go.ChangeAt Go.RowKit
open Go.Proofs.YtekoghcgkmldgaaDoor.wd Go.Proofs.YtekoghcgkmldgaaDoor.pk Go.Proofs.YtekoghcgkmldgaaDoor.cp Go.Proofs.YtekoghcgkmldgaaDoor.ow Go.Proofs.YtekoghcgkmldgaaDoor.ok Go.Proofs.YtekoghcgkmldgaaDoor.dc

theorem wr_size {f n t u : Int} {s : ByteArray} (h : okN f n t u s = true) : (dc.wr f n t u s).size ≤ 40 := by
  obtain ⟨⟨_, _⟩, ⟨_, _⟩, ⟨_, _⟩, ⟨_, _⟩, ⟨_, _⟩, _⟩ := okN_parts h
  have a1 := dl_len (n := f) (by omega)
  have a2 := dl_len (n := n) (by omega)
  have a3 := dl_len (n := t) (by omega)
  have a4 := dl_len (n := u) (by omega)
  have a5 := Lib.size_eq s
  unfold dc.wr
  rw [str_size]
  unfold wl
  simp only [List.length_append, List.length_cons]
  omega
theorem nw_size (f n t u : Int) (s : ByteArray) : (nw f n t u s).size ≤ 40 := by
  cases h : okN f n t u s with
  | true => rw [nw_t h]; exact wr_size h
  | false => rw [nw_f h, str_size]; simp

def DrawnRead (w : World) (e : Ending) (w' : World) : Prop := ∃ x : ByteArray, e = .returned (.string x) ∧ x.size ≤ 200 ∧ Below w.heap.size w w'

theorem drawNoteRead (w : World) (A : Option Addr) (len cap : Nat) (h : Bytes w w.heap.size A len) (hl : len ≤ cap) (hm : cap ≤ maxLen) :
    Calls Tryd.prog 13 #[.slice A len cap] w (DrawnRead w) := by
  go_enter Tryd.func13, Tryd.ntmps13
  go_wp2_with fail
  refine (open_any _ _ _ _ h hl hm).mono ?_
  rintro e w1 ⟨len1, cap1, rfl, hR, hB1, hz⟩
  have HZ := Lib.hid hz
  clear hz
  go_wp2_with fail
  refine (note72 _ _ _ _ _ _ hR (by omega)).mono ?_
  rintro e w2 ⟨f, n, t, u, s, p', rfl, hs, hp0, hp1, hR2, hG2⟩
  have hB2 := hB1.trans (grown_below hG2 (Nat.le_refl _) hB1.size)
  have hsm : s.size ≤ maxLen := by unfold maxLen; omega
  have hnz := nw_size f n t u s
  have hlt := hR2.1.lt
  clear hR hG2 hB1
  go_wp2_with fail
  refine (swrite_any f n t u s _ hsm).mono ?_
  rintro e w3 ⟨rfl, hB3⟩
  have hR3 := rd_later hR2 (hB3.mono (by omega))
  have hB4 := hB2.trans (hB3.mono hB2.size)
  generalize nw f n t u s = x at hnz ⊢
  clear hR2 hB2 hB3
  go_wp2_with fail
  refine (bend72 _ _ _ _ _ _ hR3 (by omega) x (by omega)).mono ?_
  rintro e w4 ⟨y, p2, rfl, hy, _, _, _, hG4⟩
  have HB5 := Lib.hid (hB4.trans (grown_below hG4 (Nat.le_refl _) hB4.size))
  clear hR3 hB4 hG4
  go_wp2
  go_ret
  exact ⟨y, rfl, by omega, HB5.out⟩
end Go.Proofs.YtekoghcgkmldgaaDoor.dr
