/-
  Contract of impl.ShelfPack.
-/
import Derived.Test.YtapkfajgphkajaaGreatDoorPackPlain
import Derived.Test.YtapkfajgphkajaaGreatDoorStrLists
import Derived.Test.YtapkfajgphkajaaGreatDoorIShAdd
namespace Go.Proofs.YtapkfajgphkajaaGreatDoor.sh
open Go.ChangeShapes Go.WideShapes Go.ChangeAt Go.RowKit
open Go.Proofs.YtapkfajgphkajaaGreatDoor.nb Go.Proofs.YtapkfajgphkajaaGreatDoor.ok Go.Proofs.YtapkfajgphkajaaGreatDoor.wd Go.Proofs.YtapkfajgphkajaaGreatDoor.dc
open Go.Proofs.YtapkfajgphkajaaGreatDoor.sl (SeesS)

theorem fits_take {xs : List ByteArray} {k : Nat} (h : k < xs.length) (hf : fits (cat (xs.take k)) xs[k] = true) : inB (xs[k].size : Int) 1 60 = true ∧ (cat (xs.take (k + 1))).size ≤ 2400 := by
  obtain ⟨h1, h2, h3⟩ := fits_iff.1 hf
  exact ⟨inB_nat.2 ⟨h1, h2⟩, by rw [cat_take h, size_app]; exact h3⟩
theorem fits_not {xs : List ByteArray} {k : Nat} (h : k < xs.length) (hf : fits (cat (xs.take k)) xs[k] = false) : packOk xs = false := by
  by_cases hx : 1 ≤ xs[k].size ∧ xs[k].size ≤ 60
  · have : ¬ (cat (xs.take k)).size + (stS xs[k]).size ≤ 2400 := fun h3 => by
      have := fits_iff.2 ⟨hx.1, hx.2, h3⟩
      rw [hf] at this
      cases this
    apply pack_big
    have := cat_mono xs (k + 1)
    rw [cat_take h, size_app] at this
    omega
  · exact all_bad h (in_false hx)

set_option maxRecDepth 100000 in
set_option maxHeartbeats 2000000 in
theorem ipack_any (s : ByteArray) (f : Int) (v : Value) (xs : List ByteArray) (w : World) (hE : Env w) (hv : SeesS w v xs) (hl : xs.length ≤ 1048576) :
    Calls Tryz.prog 17 #[shv s f, v] w (ShbPost w (packS s f xs) (packF s f xs) (packB s f xs)) := by
  obtain ⟨A, c, rfl, hc⟩ := hv
  have hT := Two.new w s f
  have H := Lib.hid (fun V hV => iok_any s f V hV)
  go_enter Tryz.func17, Tryz.ntmps17
  go_wp2_with fail
  generalize (w.alloc (.cells #[.string s, .int .i64 f] 24)).alloc (.cells #[.string ⟨#[]⟩, .int .i64 0] 24) = V at hT ⊢
  refine (H.out _ (hE.later hT.bel)).mono ?_
  rintro e V1 ⟨rfl, hB⟩
  have hT1 := hT.later hB
  obtain ⟨a0, a1, r0, r1, f0, f1⟩ := hT1.cells
  have HT := Lib.hid hT1
  clear hT hT1 hB H
  by_cases hok : okSh s f = true
  · have HO := Lib.hid hok
    rw [hok]
    clear hok a0 a1 r0 r1 f0 f1
    go_wp2
    go_loopw [6, 17] (fun lgv i wr => ∃ k : Nat, k ≤ xs.length ∧ i = .int .i64 k ∧ lgv = .string (cat (xs.take k)) ∧ Hid (allR (xs.take k) = true) ∧ (cat (xs.take k)).size ≤ 2400 ∧ Hid (Two w wr s f)) (fun _ i _ => (xs.length + 1 : Nat) - (intOf i).toNat)
    case atStart => exact ⟨0, by omega, rfl, rfl, rfl, by simp [cat, ByteArray.size], HT.out⟩
    case round =>
      obtain ⟨k, hk, rfl, rfl, HA, hsz, HT2⟩ := hrel
      by_cases hkl : k < xs.length
      · obtain ⟨g, rfl, hg, hcell⟩ := hc (by omega)
        have e1 := (HT2.out.bel.cell (p := ⟨g, k, none⟩) hg).trans (hcell k xs[k] (List.getElem?_eq_getElem hkl))
        have HX := Lib.hid (with_any (cat (xs.take k)) xs[k] hsz wr (hE.later HT2.out.bel).tab)
        unfold WithPost at HX
        by_cases hf : fits (cat (xs.take k)) xs[k] = true
        · obtain ⟨h1, h2⟩ := fits_take hkl hf
          have HA2 := Lib.hid (all_take hkl HA.out h1)
          have HCT := Lib.hid (cat_take hkl)
          rw [with_yes hf, hf] at HX
          rw [← HCT.out] at HX
          obtain ⟨z, hz⟩ : ∃ z, z = cat (xs.take (k + 1)) := ⟨_, rfl⟩
          rw [← hz] at HX h2
          have HZ := Lib.hid hz
          clear hcell hc h1 hf HCT hz
          generalize xs[k] = x at *
          generalize cat (xs.take k) = lgk at hsz HX
          go_wp2_with fail
          refine HX.out.mono ?_
          rintro e W2 ⟨rfl, hB2⟩
          have HT3 := Lib.hid (HT2.out.later hB2)
          clear hB2
          go_wp2
          go_roundw
          case rel => exact ⟨k + 1, by omega, by go_num, by rw [HZ.out], HA2.out, by rw [← HZ.out]; exact h2, HT3.out⟩
          case measure => simp [intOf]; omega
        · have hf' : fits (cat (xs.take k)) xs[k] = false := by simpa using hf
          have HF := Lib.hid (pack_no (xs := xs) HO.out (fits_not hkl hf'))
          rw [hf'] at HX
          generalize withS (cat (xs.take k)) xs[k] = z at HX
          clear hf hf' hcell hc
          generalize xs[k] = x at *
          generalize cat (xs.take k) = lgk at *
          go_wp2_with fail
          refine HX.out.mono ?_
          rintro e W2 ⟨rfl, hB2⟩
          have HT3 := Lib.hid (HT2.out.later hB2)
          obtain ⟨a0, a1, r0, r1, f0, f1⟩ := HT3.out.cells
          clear hB2
          go_wp2
          obtain ⟨c0, c1, hB⟩ := HT3.out.put s f
          exact bodyPost_ret (v := .tuple #[shv s f, .bool false]) (by simp [results, Tryz.results17, go_sem, c0, c1]) rfl ⟨by rw [HF.out.1, HF.out.2.1, HF.out.2.2], hB⟩
      · have hke : xs.take k = xs := List.take_of_length_le (by omega)
        rw [hke] at HA hsz ⊢
        obtain ⟨a0, a1, r0, r1, f0, f1⟩ := HT2.out.cells
        have HF := Lib.hid (pack_yes (xs := xs) HO.out (pack_ok HA.out hsz))
        clear hc hke
        generalize cat xs = z at *
        go_wp2
        obtain ⟨c0, c1, hB⟩ := HT2.out.put z (z.size : Nat)
        exact bodyPost_ret (v := .tuple #[shv z (z.size : Nat), .bool true]) (by simp [results, Tryz.results17, go_sem, c0, c1]) rfl ⟨by rw [HF.out.1, HF.out.2.1, HF.out.2.2], hB⟩
  · have hok' : okSh s f = false := by simpa using hok
    have HF := Lib.hid (pack_bad (xs := xs) hok')
    rw [hok']
    go_wp2
    obtain ⟨c0, c1, hB⟩ := HT.out.put ⟨#[]⟩ 0
    exact bodyPost_ret (v := .tuple #[shv ⟨#[]⟩ 0, .bool false]) (by simp [results, Tryz.results17, go_sem, c0, c1]) rfl ⟨by rw [HF.out.1, HF.out.2.1, HF.out.2.2], hB⟩
end Go.Proofs.YtapkfajgphkajaaGreatDoor.sh
