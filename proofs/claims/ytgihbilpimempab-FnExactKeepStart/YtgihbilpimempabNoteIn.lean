/-
  A message that came in, in our words; contracts of the laws' helpers over messages: laws.szNote, laws.toNote.
-/
import Derived.Test.YtgihbilpimempabOkPlain
import Derived.Deep.Fields
import Derived.ChangeSame
import Derived.OpenShut
import Derived.Below
namespace Go.Proofs.Ytgihbilpimempab.ok
open Go.ChangeShapes Go.WideShapes Go.ChangeAt Go.RowKit Go.Deep
open Go.Proofs.Ytgihbilpimempab.nb

theorem cells_note : Try.prog.cellsOf 81 = 5 := by kernel_rfl

section
variable {H : Type} {enc : TypeId × Value → H} {w : World} {base b0 : Nat} {r : Reach} {spare : Nat → Bool} {held : Bool}
set_option maxRecDepth 100000 in
theorem note_in {v : Value} {d : DataW H} {p : List MemPlace} (hv : Value.okWide Try.prog w r b0 81 v) (h : DataW.Trod enc Try.prog w base spare held 81 v d p) :
    ∃ (f n t u : Int) (s : ByteArray), v = note f n t u s ∧ s.size ≤ maxLen := by
  obtain ⟨cs, rfl, hsz⟩ := okWide_struct Try.underlying81 hv
  obtain ⟨l⟩ := cs
  match l, hsz.trans cells_note with
  | [c0, c1, c2, c3, c4], _ =>
    obtain ⟨fuel, hf⟩ := h
    obtain ⟨xs, n, _, _, _, _, hg⟩ := DataW.trod_struct Try.underlying81 hf
    have h0 := hg 0 _ rfl
    have h1 := hg 1 _ rfl
    have h2 := hg 2 _ rfl
    have h3 := hg 3 _ rfl
    have h4 := hg 4 _ rfl
    simp only [Value.cells] at h0 h1 h2 h3 h4
    have j0 : DataW.trod enc Try.prog w base spare held n 3 [c0] = xs[0]? := h0
    have j1 : DataW.trod enc Try.prog w base spare held n 3 [c1] = xs[1]? := h1
    have j2 : DataW.trod enc Try.prog w base spare held n 3 [c2] = xs[2]? := h2
    have j3 : DataW.trod enc Try.prog w base spare held n 3 [c3] = xs[3]? := h3
    have j4 : DataW.trod enc Try.prog w base spare held n 9 [c4] = xs[4]? := h4
    have hl5 : xs.length = 5 := by assumption
    rw [List.getElem?_eq_getElem (by omega)] at j0 j1 j2 j3 j4
    obtain ⟨i0, e0, _, _⟩ := DataW.trod_int Try.underlying3 j0
    obtain ⟨i1, e1, _, _⟩ := DataW.trod_int Try.underlying3 j1
    obtain ⟨i2, e2, _, _⟩ := DataW.trod_int Try.underlying3 j2
    obtain ⟨i3, e3, _, _⟩ := DataW.trod_int Try.underlying3 j3
    obtain ⟨s, e4, _, hs⟩ := DataW.trod_string Try.underlying9 j4
    simp at e0 e1 e2 e3 e4
    subst e0; subst e1; subst e2; subst e3; subst e4
    exact ⟨i0, i1, i2, i3, s, rfl, hs⟩
end
def SizePost (w : World) (l : Int) (s : ByteArray) (e : Ending) (w' : World) : Prop := e = .returned (.int .i64 (if l < s.size then -1 else l - s.size)) ∧ Below w.heap.size w w'

theorem sz_any (f n t u : Int) (s : ByteArray) (w : World) (hs : s.size ≤ maxLen) (l : Int) (h0 : 0 ≤ l) (h1 : l ≤ 1048576) :
    Calls Try.prog 50 #[note f n t u s, .int .i64 l] w (SizePost w l s) := by
  unfold note
  unfold maxLen at hs
  by_cases h : l < s.size
  · have R := Lib.hid (show (if l < (s.size : Int) then (-1 : Int) else l - s.size) = -1 from if_pos h)
    go_enter Try.func50, Try.ntmps50
    go_wp2
    go_ret
    exact ⟨ret_int R.out.symm, (Below.refl _ _).alloc (Nat.le_refl _) _⟩
  · have R := Lib.hid (show (if l < (s.size : Int) then (-1 : Int) else l - s.size) = l - s.size from if_neg h)
    have h' : ¬ l - (s.size : Int) < 0 := by omega
    go_enter Try.func50, Try.ntmps50
    go_wp2
    go_ret
    exact ⟨ret_int R.out.symm, (Below.refl _ _).alloc (Nat.le_refl _) _⟩

def NotePost (w : World) (f n t u : Int) (s : ByteArray) (e : Ending) (w' : World) : Prop := e = .returned (note f n t u s) ∧ Below w.heap.size w w'

theorem to_any (f n t u : Int) (s : ByteArray) (w : World) :
    Calls Try.prog 53 #[note f n t u s] w (NotePost w f n t u s) := by
  unfold note
  go_enter Try.func53, Try.ntmps53
  go_wp2
  refine bodyPost_ret (v := note f n t u s) (by simp [results, Try.results53, go_sem, note]) rfl ⟨rfl, ?_⟩
  exact (((Below.refl _ _).alloc (Nat.le_refl _) _).alloc (by simp) _).alloc (by simp; omega) _
end Go.Proofs.Ytgihbilpimempab.ok
