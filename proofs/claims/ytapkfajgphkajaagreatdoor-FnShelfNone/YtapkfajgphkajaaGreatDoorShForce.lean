/-
  Contracts of both ShelfForce, where that of ShelfOk is known.
-/
import Derived.Test.YtapkfajgphkajaaGreatDoorShelfTwo
import Derived.Lib.Hide
namespace Go.Proofs.YtapkfajgphkajaaGreatDoor.sh
open Go.ChangeShapes Go.WideShapes Go.ChangeAt Go.RowKit
open Go.Proofs.YtapkfajgphkajaaGreatDoor.wd

theorem sforce_of (Ev : World → Prop) (hEv : ∀ V V' : World, Ev V → Below V.heap.size V V' → Ev V') (s : ByteArray) (f : Int) (HOK : ∀ V, Ev V → Calls Tryz.prog 10 #[shv s f] V (BoolPost V (okSh s f))) (w : World) (hw : Ev w) :
    Calls Tryz.prog 34 #[shv s f] w (ShPost w (forceS s f) (forceF s f)) := by
  have hT := Two.new w s f
  have H := Lib.hid HOK
  clear HOK
  go_enter Tryz.func34, Tryz.ntmps34
  go_wp2_with fail
  generalize (w.alloc (.cells #[.string s, .int .i64 f] 24)).alloc (.cells #[.string ⟨#[]⟩, .int .i64 0] 24) = V at hT ⊢
  have hE := hEv _ _ hw hT.bel
  refine (H.out _ hE).mono ?_
  rintro e V1 ⟨rfl, hB⟩
  have hT1 := hT.later hB
  obtain ⟨a0, a1, r0, r1, f0, f1⟩ := hT1.cells
  have HT := Lib.hid hT1
  clear hT hT1 hB
  by_cases hok : okSh s f = true
  · have HF : Hid (forceS s f = s ∧ forceF s f = (s.size : Nat)) := ⟨by simp [forceS, hok], by simp [forceF, hok]⟩
    rw [hok]
    go_wp2
    obtain ⟨c0, c1, hB⟩ := HT.out.put s (s.size : Nat)
    exact bodyPost_ret (v := shv s (s.size : Nat)) (by simp [results, Tryz.results34, go_sem, c0, c1]) rfl ⟨by rw [HF.out.1, HF.out.2], hB⟩
  · have hok' : okSh s f = false := by simpa using hok
    have HF : Hid (forceS s f = ⟨#[]⟩ ∧ forceF s f = 0) := ⟨by simp [forceS, hok'], by simp [forceF, hok']⟩
    rw [hok']
    go_wp2
    obtain ⟨c0, c1, hB⟩ := HT.out.put ⟨#[]⟩ 0
    exact bodyPost_ret (v := shv ⟨#[]⟩ 0) (by simp [results, Tryz.results34, go_sem, c0, c1]) rfl ⟨by rw [HF.out.1, HF.out.2], hB⟩
theorem iforce_of (Ev : World → Prop) (hEv : ∀ V V' : World, Ev V → Below V.heap.size V V' → Ev V') (s : ByteArray) (f : Int) (HOK : ∀ V, Ev V → Calls Tryz.prog 12 #[shv s f] V (BoolPost V (okSh s f))) (w : World) (hw : Ev w) :
    Calls Tryz.prog 20 #[shv s f] w (ShPost w (forceS s f) (forceF s f)) := by
  have hT := Two.new w s f
  have H := Lib.hid HOK
  clear HOK
  go_enter Tryz.func20, Tryz.ntmps20
  go_wp2_with fail
  generalize (w.alloc (.cells #[.string s, .int .i64 f] 24)).alloc (.cells #[.string ⟨#[]⟩, .int .i64 0] 24) = V at hT ⊢
  have hE := hEv _ _ hw hT.bel
  refine (H.out _ hE).mono ?_
  rintro e V1 ⟨rfl, hB⟩
  have hT1 := hT.later hB
  obtain ⟨a0, a1, r0, r1, f0, f1⟩ := hT1.cells
  have HT := Lib.hid hT1
  clear hT hT1 hB
  by_cases hok : okSh s f = true
  · have HF : Hid (forceS s f = s ∧ forceF s f = (s.size : Nat)) := ⟨by simp [forceS, hok], by simp [forceF, hok]⟩
    rw [hok]
    go_wp2
    obtain ⟨c0, c1, hB⟩ := HT.out.put s (s.size : Nat)
    exact bodyPost_ret (v := shv s (s.size : Nat)) (by simp [results, Tryz.results20, go_sem, c0, c1]) rfl ⟨by rw [HF.out.1, HF.out.2], hB⟩
  · have hok' : okSh s f = false := by simpa using hok
    have HF : Hid (forceS s f = ⟨#[]⟩ ∧ forceF s f = 0) := ⟨by simp [forceS, hok'], by simp [forceF, hok']⟩
    rw [hok']
    go_wp2
    obtain ⟨c0, c1, hB⟩ := HT.out.put ⟨#[]⟩ 0
    exact bodyPost_ret (v := shv ⟨#[]⟩ 0) (by simp [results, Tryz.results20, go_sem, c0, c1]) rfl ⟨by rw [HF.out.1, HF.out.2], hB⟩
end Go.Proofs.YtapkfajgphkajaaGreatDoor.sh
