/-
  What is empty, or too long, is no record: in plain words; a text of 61 bytes that were made.
-/
import Derived.Test.YtapkfajgphkajaaGreatDoorAddLaw
import Derived.Test.YtapkfajgphkajaaGreatDoorOwn
namespace Go.Proofs.YtapkfajgphkajaaGreatDoor.sh
open Go.ChangeShapes Go.WideShapes Go.ChangeAt Go.RowKit
open Go.Proofs.YtapkfajgphkajaaGreatDoor.wd Go.Proofs.YtapkfajgphkajaaGreatDoor.ow Go.Proofs.YtapkfajgphkajaaGreatDoor.sl

def zeros : ByteArray := ⟨(List.replicate 61 (0 : UInt8)).toArray⟩
def zcells : Array Value := Array.replicate 61 (.int .u8 0)
theorem zeros_make (V : World) : (Instr.makeSlice 22 (.int .i64 61) (.int .i64 61)).run Tryz.prog V = .ok (.slice (some ⟨V.heap.size, 0, none⟩) 61 61) (V.alloc (.cells zcells 5)) := by kernel_rfl
theorem zeros_size : zeros.size = 61 := rfl
theorem zeros_conv (V : World) (g : Nat) (h : Blk V g 5 zcells) : (convert 22 9 (.slice (some ⟨g, 0, none⟩) 61 61)).run Tryz.prog V = .ok (.string zeros) V := by
  refine run_convert_bytes_back (P := Tryz.prog) V 22 9 5 ⟨g, 0, none⟩ 61 (List.replicate 61 (0 : UInt8)) Tryz.underlying22 Tryz.underlying5 Tryz.underlying9 (fun j hj => ?_)
  have e : (⟨g, 0, none⟩ : Addr).add j = ⟨g, j, none⟩ := by unfold Addr.add; split <;> simp_all
  rw [e, h.cell]
  have hj' : j < 61 := by simpa using hj
  unfold zcells
  rw [Array.getElem?_replicate, if_pos hj', List.getElem_replicate]
  rfl
theorem no_rec {s x : ByteArray} {f : Int} (h : ¬ (1 ≤ x.size ∧ x.size ≤ 60)) : addB s f x = false ∧ (okSh s f = true → addS s f x = s ∧ addF s f = f) ∧ (okSh s f = false → addS s f x = ⟨#[]⟩ ∧ addF s f = 0) := by
  have hf : fits s x = false := fits_f (fun h' => h ⟨h'.1, h'.2.1⟩)
  refine ⟨by unfold addB; rw [hf, Bool.and_false], fun hk => ?_, fun hk => ?_⟩
  · exact ⟨(add_no hk hf).1, (add_no hk hf).2.1⟩
  · exact ⟨(add_bad hk).1, (add_bad (x := x) hk).2.1⟩
theorem none_law {s z : ByteArray} {f : Int} (hz : z = zeros) :
    (addB s f ⟨#[]⟩ = false ∧ addB s f z = false) ∧ (okSh s f = true → addS s f ⟨#[]⟩ = s ∧ addS s f z = s ∧ addF s f = f) ∧ (okSh s f = false → addS s f ⟨#[]⟩ = ⟨#[]⟩ ∧ addS s f z = ⟨#[]⟩ ∧ addF s f = 0 ∧ ¬ (s = ⟨#[]⟩ ∧ f = 0)) := by
  obtain ⟨a1, a2, a3⟩ := no_rec (s := s) (f := f) (x := ⟨#[]⟩) (by simp [ByteArray.size])
  obtain ⟨b1, b2, b3⟩ := no_rec (s := s) (f := f) (x := z) (by rw [hz, zeros_size]; omega)
  refine ⟨⟨a1, b1⟩, fun h => ⟨(a2 h).1, (b2 h).1, (a2 h).2⟩, fun h => ⟨(a3 h).1, (b3 h).1, (a3 h).2, fun ⟨h1, h2⟩ => ?_⟩⟩
  rw [h1, h2, ok_nil] at h
  cases h
end Go.Proofs.YtapkfajgphkajaaGreatDoor.sh
