/-
  A frame that came in, in our words; contracts of the laws' helpers over frames: laws.szFrame, laws.toFrame.
-/
import Derived.Test.YtgihbilpimempaaFrCells
import Derived.Deep.Fields
import Derived.ChangeSame
import Derived.OpenShut
import Derived.Below
namespace Go.Proofs.Ytgihbilpimempaa.fr
open Go.ChangeShapes Go.WideShapes Go.ChangeAt Go.RowKit Go.Deep
open Go.Proofs.Ytgihbilpimempaa.nb Go.Proofs.Ytgihbilpimempaa.wd

theorem cells_frame : Try.prog.cellsOf 33 = 10 := by kernel_rfl

section
variable {H : Type} {enc : TypeId × Value → H} {w : World} {base b0 : Nat} {r : Reach} {spare : Nat → Bool} {held : Bool}
set_option maxRecDepth 100000 in
theorem frame_in {v : Value} {d : DataW H} {p : List MemPlace} (hv : Value.okWide Try.prog w r b0 33 v) (h : DataW.Trod enc Try.prog w base spare held 33 v d p) :
    ∃ F : Fr, v = frv F ∧ F.x.size ≤ maxLen := by
  obtain ⟨cs, rfl, hsz⟩ := okWide_struct Try.underlying33 hv
  obtain ⟨l⟩ := cs
  match l, hsz.trans cells_frame with
  | [c0, c1, c2, c3, c4, c5, c6, c7, c8, c9], _ =>
    obtain ⟨fuel, hf⟩ := h
    obtain ⟨xs, n, _, _, _, _, hg⟩ := DataW.trod_struct Try.underlying33 hf
    have h0 := hg 0 _ rfl
    have h1 := hg 1 _ rfl
    have h2 := hg 2 _ rfl
    have h3 := hg 3 _ rfl
    have h4 := hg 4 _ rfl
    have h5 := hg 5 _ rfl
    have h6 := hg 6 _ rfl
    have h7 := hg 7 _ rfl
    have h8 := hg 8 _ rfl
    have h9 := hg 9 _ rfl
    simp only [Value.cells] at h0 h1 h2 h3 h4 h5 h6 h7 h8 h9
    have j0 : DataW.trod enc Try.prog w base spare held n 3 [c0] = xs[0]? := h0
    have j1 : DataW.trod enc Try.prog w base spare held n 3 [c1] = xs[1]? := h1
    have j2 : DataW.trod enc Try.prog w base spare held n 3 [c2] = xs[2]? := h2
    have j3 : DataW.trod enc Try.prog w base spare held n 3 [c3] = xs[3]? := h3
    have j4 : DataW.trod enc Try.prog w base spare held n 3 [c4] = xs[4]? := h4
    have j5 : DataW.trod enc Try.prog w base spare held n 3 [c5] = xs[5]? := h5
    have j6 : DataW.trod enc Try.prog w base spare held n 3 [c6] = xs[6]? := h6
    have j7 : DataW.trod enc Try.prog w base spare held n 3 [c7] = xs[7]? := h7
    have j8 : DataW.trod enc Try.prog w base spare held n 3 [c8] = xs[8]? := h8
    have j9 : DataW.trod enc Try.prog w base spare held n 9 [c9] = xs[9]? := h9
    have hl10 : xs.length = 10 := by assumption
    rw [List.getElem?_eq_getElem (by omega)] at j0 j1 j2 j3 j4 j5 j6 j7 j8 j9
    obtain ⟨i0, e0, _, _⟩ := DataW.trod_int Try.underlying3 j0
    obtain ⟨i1, e1, _, _⟩ := DataW.trod_int Try.underlying3 j1
    obtain ⟨i2, e2, _, _⟩ := DataW.trod_int Try.underlying3 j2
    obtain ⟨i3, e3, _, _⟩ := DataW.trod_int Try.underlying3 j3
    obtain ⟨i4, e4, _, _⟩ := DataW.trod_int Try.underlying3 j4
    obtain ⟨i5, e5, _, _⟩ := DataW.trod_int Try.underlying3 j5
    obtain ⟨i6, e6, _, _⟩ := DataW.trod_int Try.underlying3 j6
    obtain ⟨i7, e7, _, _⟩ := DataW.trod_int Try.underlying3 j7
    obtain ⟨i8, e8, _, _⟩ := DataW.trod_int Try.underlying3 j8
    obtain ⟨s, e9, _, hs⟩ := DataW.trod_string Try.underlying9 j9
    simp at e0 e1 e2 e3 e4 e5 e6 e7 e8 e9
    subst e0; subst e1; subst e2; subst e3; subst e4; subst e5; subst e6; subst e7; subst e8; subst e9
    exact ⟨⟨i0, i1, i2, i3, i4, i5, i6, i7, i8, s⟩, rfl, hs⟩
end
def SizePost (w : World) (l : Int) (s : ByteArray) (e : Ending) (w' : World) : Prop := e = .returned (.int .i64 (if l < s.size then -1 else l - s.size)) ∧ Below w.heap.size w w'

theorem szF_any (F : Fr) (w : World) (hs : F.x.size ≤ maxLen) (l : Int) (h0 : 0 ≤ l) (h1 : l ≤ 1048576) :
    Calls Try.prog 19 #[frv F, .int .i64 l] w (SizePost w l F.x) := by
  obtain ⟨k, s, d, f, n, t, u, z, m, x⟩ := F
  unfold frv
  simp only at hs ⊢
  unfold maxLen at hs
  by_cases h : l < x.size
  · have R := Lib.hid (show (if l < (x.size : Int) then (-1 : Int) else l - x.size) = -1 from if_pos h)
    go_enter Try.func19, Try.ntmps19
    go_wp2
    go_ret
    exact ⟨ret_int R.out.symm, (Below.refl _ _).alloc (Nat.le_refl _) _⟩
  · have R := Lib.hid (show (if l < (x.size : Int) then (-1 : Int) else l - x.size) = l - x.size from if_neg h)
    have h' : ¬ l - (x.size : Int) < 0 := by omega
    go_enter Try.func19, Try.ntmps19
    go_wp2
    go_ret
    exact ⟨ret_int R.out.symm, (Below.refl _ _).alloc (Nat.le_refl _) _⟩

def FramePost (w : World) (F : Fr) (e : Ending) (w' : World) : Prop := e = .returned (frv F) ∧ Below w.heap.size w w'

set_option maxRecDepth 100000 in
set_option maxHeartbeats 1000000 in
theorem toF_any (F : Fr) (w : World) :
    Calls Try.prog 20 #[frv F] w (FramePost w F) := by
  obtain ⟨k, s, d, f, n, t, u, z, m, x⟩ := F
  unfold frv
  simp only
  go_enter Try.func20, Try.ntmps20
  go_wp2
  refine bodyPost_ret (v := frv ⟨k, s, d, f, n, t, u, z, m, x⟩) (by simp [results, Try.results20, go_sem, frv]) rfl ⟨rfl, ?_⟩
  exact (((Below.refl _ _).alloc (Nat.le_refl _) _).alloc (by simp) _).alloc (by simp; omega) _
end Go.Proofs.Ytgihbilpimempaa.fr
