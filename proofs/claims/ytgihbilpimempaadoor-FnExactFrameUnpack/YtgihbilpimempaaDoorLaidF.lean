/-
  What a row's three listed variables give: the program's errors of frames.
-/
import Derived.Test.YtgihbilpimempaaDoorFrUn
import Derived.Test.YtgihbilpimempaaDoorRows
import Derived.Stop.LaidErr
import Derived.Stop.Joined
import Derived.LaidMore
import Derived.LaidHandle
import Derived.MakeChecks
import Derived.ProofKit
namespace Go.Proofs.YtgihbilpimempaaDoor.fr
open Go.ChangeShapes Go.WideShapes Go.ChangeAt Go.RowKit

theorem gS : Tryd.prog.globalNamed "loop.example/bargeman/impl.errFrameTooShort" = some 2 := by kernel_rfl
theorem gST : (Tryd.prog.globals[2]?).map (·.type) = some 47 := by kernel_rfl
theorem gL : Tryd.prog.globalNamed "loop.example/bargeman/impl.errFrameTooLong" = some 1 := by kernel_rfl
theorem gLT : (Tryd.prog.globals[1]?).map (·.type) = some 47 := by kernel_rfl
theorem gM : Tryd.prog.globalNamed "loop.example/bargeman/impl.errFrameSum" = some 0 := by kernel_rfl
theorem gMT : (Tryd.prog.globals[0]?).map (·.type) = some 47 := by kernel_rfl
theorem cE : Tryd.prog.cellsOf 109 = 1 := by kernel_rfl
theorem cS : Tryd.prog.cellsOf 9 = 1 := by kernel_rfl
theorem star : "*" ++ "errors.errorString" = "*errors.errorString" := by decide
theorem rowE (u : TypeId) (h : Tryd.prog.typeName? 3 u = some "*errors.errorString") : u = 92 :=
  typeName_ptr_named (nm := "errors.errorString") (by rw [star]; kernel_rfl) (by kernel_rfl) (by decide) u (by rw [star]; exact h)

section
variable {H : Type} {enc : TypeId × Value → H} {P : Program} {w : World} {sp : Nat → Bool}
/-- three variables named: three data -/
theorem vars3 {n0 n1 n2 : String} : ∀ {gs : List (DataW H)} {ps : List MemPlace}, DataW.TrodVars enc P w sp [n0, n1, n2] gs ps → ∃ a b c, gs = [a, b, c]
  | [a, b, c], _, _ => ⟨a, b, c, rfl⟩
  | [], _, h => h.elim
  | [_], _, h => by
    obtain ⟨_, _, _, _, _, _, _, _, _, _, h, _⟩ := h
    exact h.elim
  | [_, _], _, h => by
    obtain ⟨_, _, _, _, _, _, _, _, _, _, h, _⟩ := h
    obtain ⟨_, _, _, _, _, _, _, _, _, _, h, _⟩ := h
    exact h.elim
  | _ :: _ :: _ :: _ :: _, _, h => by
    obtain ⟨_, _, _, _, _, _, _, _, _, _, h, _⟩ := h
    obtain ⟨_, _, _, _, _, _, _, _, _, _, h, _⟩ := h
    obtain ⟨_, _, _, _, _, _, _, _, _, _, h, _⟩ := h
    exact h.elim
end

def listF : List (String × DataW Unit) := [("loop.example/bargeman/impl.errFrameTooShort", Rows.laid_loop_example_bargeman_impl_errFrameTooShort), ("loop.example/bargeman/impl.errFrameTooLong", Rows.laid_loop_example_bargeman_impl_errFrameTooLong), ("loop.example/bargeman/impl.errFrameSum", Rows.laid_loop_example_bargeman_impl_errFrameSum)]

theorem of_listF {W : World} (h : laidMetH Tryd.prog listF W) : FErr W.heap.size W := by
  rw [MakeChecks.laidMetH_plain _ _ _ (by kernel_rfl)] at h
  obtain ⟨a0, s0, hv0, _, _, _⟩ := laid_sentinel h gS gST Tryd.underlying47 rowE Tryd.underlying92 Tryd.underlying109 rfl rfl Tryd.underlying9 cE cS
  obtain ⟨a1, s1, hv1, _, _, _⟩ := laid_sentinel h.tail gL gLT Tryd.underlying47 rowE Tryd.underlying92 Tryd.underlying109 rfl rfl Tryd.underlying9 cE cS
  obtain ⟨a2, s2, hv2, _, _, _⟩ := laid_sentinel h.tail.tail gM gMT Tryd.underlying47 rowE Tryd.underlying92 Tryd.underlying109 rfl rfl Tryd.underlying9 cE cS
  have c2 := World.var?_cell gS hv0 0
  have c1 := World.var?_cell gL hv1 0
  have c0 := World.var?_cell gM hv2 0
  refine ⟨?_, fun k hk => ?_⟩
  · rcases Nat.lt_or_ge 2 W.heap.size with h' | h'
    · omega
    · rw [World.cell?, Array.getElem?_eq_none h'] at c2
      simp at c2
  · match k, hk with
    | 0, _ => exact ⟨_, _, by simpa using c0⟩
    | 1, _ => exact ⟨_, _, by simpa using c1⟩
    | 2, _ => exact ⟨_, _, by simpa using c2⟩

theorem metF (os : Os) (args : Array Value) : laidMetH Tryd.prog listF ((World.doorLaid Tryd.prog 400 os).forCall (fun _ _ => 0) ⟨#[], args, []⟩).memory :=
  laidMetH_of_parts3 (fuel := 8) (laidMet_of_run' 8 (by kernel_rfl) (by kernel_rfl)) (by kernel_rfl) (by kernel_rfl)
end Go.Proofs.YtgihbilpimempaaDoor.fr
