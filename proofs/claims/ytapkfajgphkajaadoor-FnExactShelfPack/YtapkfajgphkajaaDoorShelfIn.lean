/-
  A shelf that came in, in our words; contracts of the laws' helpers over shelves: laws.szShelf, laws.toShelf, laws.eqShelf.
-/
import Derived.Test.YtapkfajgphkajaaDoorShelfTwo
import Derived.Deep.Fields
import Derived.ChangeSame
import Derived.OpenShut
import Derived.Below
import Derived.Lib.Hide
namespace Go.Proofs.YtapkfajgphkajaaDoor.sh
open Go.ChangeShapes Go.WideShapes Go.ChangeAt Go.RowKit Go.Deep
open Go.Proofs.YtapkfajgphkajaaDoor.nb Go.Proofs.YtapkfajgphkajaaDoor.wd

theorem cells_shelf : Tryd.prog.cellsOf 40 = 2 := by kernel_rfl

section
variable {H : Type} {enc : TypeId × Value → H} {w : World} {base b0 : Nat} {r : Reach} {spare : Nat → Bool} {held : Bool}
set_option maxRecDepth 100000 in
theorem shelf_in {v : Value} {d : DataW H} {p : List MemPlace} (hv : Value.okWide Tryd.prog w r b0 40 v) (h : DataW.Trod enc Tryd.prog w base spare held 40 v d p) :
    ∃ (s : ByteArray) (f : Int), v = shv s f ∧ s.size ≤ maxLen := by
  obtain ⟨cs, rfl, hsz⟩ := okWide_struct Tryd.underlying40 hv
  obtain ⟨l⟩ := cs
  match l, hsz.trans cells_shelf with
  | [c0, c1], _ =>
    obtain ⟨fuel, hf⟩ := h
    obtain ⟨xs, n, _, _, _, _, hg⟩ := DataW.trod_struct Tryd.underlying40 hf
    have h0 := hg 0 _ rfl
    have h1 := hg 1 _ rfl
    simp only [Value.cells] at h0 h1
    have j0 : DataW.trod enc Tryd.prog w base spare held n 9 [c0] = xs[0]? := h0
    have j1 : DataW.trod enc Tryd.prog w base spare held n 3 [c1] = xs[1]? := h1
    have hl2 : xs.length = 2 := by assumption
    rw [List.getElem?_eq_getElem (by omega)] at j0 j1
    obtain ⟨s, e0, _, hs⟩ := DataW.trod_string Tryd.underlying9 j0
    obtain ⟨i1, e1, _, _⟩ := DataW.trod_int Tryd.underlying3 j1
    simp at e0 e1
    subst e0; subst e1
    exact ⟨s, i1, rfl, hs⟩
end
def SizePost (w : World) (l : Int) (s : ByteArray) (e : Ending) (w' : World) : Prop := e = .returned (.int .i64 (if l < s.size then -1 else l - s.size)) ∧ Below w.heap.size w w'

theorem szSh_any (s : ByteArray) (f : Int) (w : World) (hs : s.size ≤ maxLen) (l : Int) (h0 : 0 ≤ l) (h1 : l ≤ 1048576) :
    Calls Tryd.prog 29 #[shv s f, .int .i64 l] w (SizePost w l s) := by
  unfold maxLen at hs
  by_cases h : l < s.size
  · have R := Lib.hid (show (if l < (s.size : Int) then (-1 : Int) else l - s.size) = -1 from if_pos h)
    go_enter Tryd.func29, Tryd.ntmps29
    go_wp2
    go_ret
    exact ⟨ret_int R.out.symm, (Below.refl _ _).alloc (Nat.le_refl _) _⟩
  · have R := Lib.hid (show (if l < (s.size : Int) then (-1 : Int) else l - s.size) = l - s.size from if_neg h)
    have h' : ¬ l - (s.size : Int) < 0 := by omega
    go_enter Tryd.func29, Tryd.ntmps29
    go_wp2
    go_ret
    exact ⟨ret_int R.out.symm, (Below.refl _ _).alloc (Nat.le_refl _) _⟩

theorem toSh_any (s : ByteArray) (f : Int) (w : World) : Calls Tryd.prog 30 #[shv s f] w (ShPost w s f) := by
  go_enter Tryd.func30, Tryd.ntmps30
  go_wp2
  refine bodyPost_ret (v := shv s f) (by simp [results, Tryd.results30, go_sem]) rfl ⟨rfl, ?_⟩
  exact (((Below.refl _ _).alloc (Nat.le_refl _) _).alloc (by simp) _).alloc (by simp; omega) _

theorem eqSh_same (s : ByteArray) (f : Int) (w : World) : Calls Tryd.prog 33 #[shv s f, shv s f] w (BoolPost w true) := by
  go_enter Tryd.func33, Tryd.ntmps33
  go_wp2
  go_ret
  exact ⟨rfl, ((Below.refl _ _).alloc (Nat.le_refl _) _).alloc (by simp) _⟩

/-- the argument's box -/
structure Box (w V : World) (s : ByteArray) (f : Int) : Prop where
  arg : Blk V w.heap.size 40 #[.string s, .int .i64 f]
  bel : Below w.heap.size w V
section
variable {w V V' : World} {s : ByteArray} {f : Int}
theorem Box.new (w : World) (s : ByteArray) (f : Int) : Box w (w.alloc (.cells #[.string s, .int .i64 f] 40)) s f := ⟨Blk.new w _ _, (Below.refl _ w).alloc (Nat.le_refl _) _⟩
theorem Box.later (h : Box w V s f) (hb : Below V.heap.size V V') : Box w V' s f := ⟨h.arg.below hb h.arg.lt, h.bel.trans (hb.mono h.bel.size)⟩
theorem Box.cells (h : Box w V s f) : V.cell? ⟨w.heap.size, 0, none⟩ = some (.string s) ∧ V.cell? ⟨w.heap.size, 1, none⟩ = some (.int .i64 f) := ⟨h.arg.cell 0, h.arg.cell 1⟩
end
end Go.Proofs.YtapkfajgphkajaaDoor.sh
