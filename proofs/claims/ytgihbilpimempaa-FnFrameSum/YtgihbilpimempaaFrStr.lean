/-
  'string(b)' of a slice that reads as bytes.
-/
import Derived.Test.YtgihbilpimempaaFrRow
namespace Go.Proofs.Ytgihbilpimempaa.fr
open Go.ChangeShapes Go.WideShapes Go.ChangeAt Go.RowKit
open Go.Proofs.Ytgihbilpimempaa.wd Go.Proofs.Ytgihbilpimempaa.cp

/-- a list of bytes as a text -/
def txt (l : List UInt8) : ByteArray := ⟨l.toArray⟩
theorem txt_inj {a b : List UInt8} (h : txt a = txt b) : a = b := by
  have := congrArg (fun x => x.data.toList) h
  simpa [txt] using this
theorem conv_none (w : World) (c : Nat) : (convert 22 9 (.slice none 0 c)).run Try.prog w = .ok (.string ⟨#[]⟩) w := by kernel_rfl
theorem conv_any {w : World} {A : Option Addr} {l : List UInt8} (h : RowB w A l) (c : Nat) : (convert 22 9 (.slice A l.length c)).run Try.prog w = .ok (.string (txt l)) w := by
  by_cases hl : 0 < l.length
  · obtain ⟨g, o, rfl, _, hc⟩ := h hl
    refine run_convert_bytes_back (P := Try.prog) w 22 9 5 ⟨g, o, none⟩ c l Try.underlying22 Try.underlying5 Try.underlying9 (fun j hj => ?_)
    have e : (⟨g, o, none⟩ : Addr).add j = ⟨g, o + j, none⟩ := by unfold Addr.add; split <;> simp_all
    rw [e, hc j hj]
    unfold vl
    rw [List.getD_eq_getElem?_getD, List.getElem?_eq_getElem hj]
    rfl
  · obtain rfl : l = [] := List.eq_nil_of_length_eq_zero (by omega)
    cases A with
    | none => exact conv_none w c
    | some a =>
      exact run_convert_bytes_back (P := Try.prog) w 22 9 5 a c [] Try.underlying22 Try.underlying5 Try.underlying9 (fun j hj => absurd hj (by simp))
end Go.Proofs.Ytgihbilpimempaa.fr
