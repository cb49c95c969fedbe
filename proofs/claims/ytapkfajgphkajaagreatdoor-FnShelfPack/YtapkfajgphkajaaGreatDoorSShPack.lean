/-
  Contract of spec.ShelfPack.
-/
import Derived.Test.YtapkfajgphkajaaGreatDoorPackPlain
import Derived.Test.YtapkfajgphkajaaGreatDoorStrLists
namespace Go.Proofs.YtapkfajgphkajaaGreatDoor.sh
open Go.ChangeShapes Go.WideShapes Go.ChangeAt Go.RowKit
open Go.Proofs.YtapkfajgphkajaaGreatDoor.nb Go.Proofs.YtapkfajgphkajaaGreatDoor.ok Go.Proofs.YtapkfajgphkajaaGreatDoor.wd Go.Proofs.YtapkfajgphkajaaGreatDoor.dc
open Go.Proofs.YtapkfajgphkajaaGreatDoor.sl (SeesS)

set_option maxRecDepth 100000 in
set_option maxHeartbeats 2000000 in
theorem spack_any (s : ByteArray) (f : Int) (v : Value) (xs : List ByteArray) (w : World) (hs : s.size ≤ 8388608) (hv : SeesS w v xs) (hl : xs.length ≤ 1048576) :
    Calls Tryz.prog 16 #[shv s f, v] w (ShbPost w (packS s f xs) (packF s f xs) (packB s f xs)) := by
  obtain ⟨A, c, rfl, hc⟩ := hv
  have hT := Two.new w s f
  have H := Lib.hid (fun V => sok_any s f V hs)
  go_enter Tryz.func16, Tryz.ntmps16
  go_wp2_with fail
  generalize (w.alloc (.cells #[.string s, .int .i64 f] 24)).alloc (.cells #[.string ⟨#[]⟩, .int .i64 0] 24) = V at hT ⊢
  refine (H.out _).mono ?_
  rintro e V1 ⟨rfl, hB⟩
  have hT1 := hT.later hB
  obtain ⟨a0, a1, r0, r1, f0, f1⟩ := hT1.cells
  have HT := Lib.hid hT1
  clear hT hT1 hB H
  by_cases hok : okSh s f = true
  · have HO := Lib.hid hok
    rw [hok]
    clear hok a0 a1 r0 r1 f0 f1
    go_wp2
    go_loopw [6, 7] (fun lgv i wr => ∃ k : Nat, k ≤ xs.length ∧ i = .int .i64 k ∧ lgv = .string (cat (xs.take k)) ∧ Hid (allR (xs.take k) = true) ∧ Hid (Two w wr s f)) (fun _ i _ => (xs.length + 1 : Nat) - (intOf i).toNat)
    case atStart => exact ⟨0, by omega, rfl, rfl, rfl, HT.out⟩
    case round =>
      obtain ⟨k, hk, rfl, rfl, HA, HT2⟩ := hrel
      have hsz := cat_size hk HA.out
      by_cases hkl : k < xs.length
      · obtain ⟨g, rfl, hg, hcell⟩ := hc (by omega)
        have e1 := (HT2.out.bel.cell (p := ⟨g, k, none⟩) hg).trans (hcell k xs[k] (List.getElem?_eq_getElem hkl))
        have HI := Lib.hid (fun W => recOk_any xs[k] W)
        have HCT := Lib.hid (cat_take hkl)
        by_cases hx : 1 ≤ xs[k].size ∧ xs[k].size ≤ 60
        · have HA2 := Lib.hid (all_take hkl HA.out (inB_nat.2 hx))
          rw [inB_nat.2 hx] at HI
          have hst := stS_size hx
          have HX := Lib.hid (fun W => srec_any xs[k] (by omega) W)
          generalize xs[k] = x at *
          generalize stS x = y at HX HCT hst
          generalize cat (xs.take k) = lgk at HCT hsz
          obtain ⟨z, ez, qz, rz⟩ := adds lgk y (by omega)
          have HZ := Lib.hid ez
          clear ez qz hcell hc
          go_wp2_with fail
          refine (HI.out _).mono ?_
          rintro e W1 ⟨rfl, rfl⟩
          go_wp2_with fail
          refine (HX.out _).mono ?_
          rintro e W2 ⟨rfl, hB2⟩
          have HT3 := Lib.hid (HT2.out.later hB2)
          clear hB2
          go_wp2
          go_roundw
          case rel => exact ⟨k + 1, by omega, by go_num, by rw [HCT.out, HZ.out], HA2.out, HT3.out⟩
          case measure => simp [intOf]; omega
        · have HF := Lib.hid (pack_no (xs := xs) HO.out (all_bad hkl (in_false hx)))
          rw [in_false hx] at HI
          generalize xs[k] = x at *
          obtain ⟨a0, a1, r0, r1, f0, f1⟩ := HT2.out.cells
          clear hcell hc
          go_wp2_with fail
          refine (HI.out _).mono ?_
          rintro e W1 ⟨rfl, rfl⟩
          go_wp2
          obtain ⟨c0, c1, hB⟩ := HT2.out.put s f
          exact bodyPost_ret (v := .tuple #[shv s f, .bool false]) (by simp [results, Tryz.results16, go_sem, c0, c1]) rfl ⟨by rw [HF.out.1, HF.out.2.1, HF.out.2.2], hB⟩
      · have hke : xs.take k = xs := List.take_of_length_le (by omega)
        rw [hke] at HA hsz ⊢
        obtain ⟨a0, a1, r0, r1, f0, f1⟩ := HT2.out.cells
        clear hc hke
        by_cases hbig : 2400 < (cat xs).size
        · have HF := Lib.hid (pack_no (xs := xs) HO.out (pack_big hbig))
          generalize cat xs = z at *
          have hb' : (2400 : Int) < (z.size : Nat) := by omega
          go_wp2
          obtain ⟨c0, c1, hB⟩ := HT2.out.put s f
          exact bodyPost_ret (v := .tuple #[shv s f, .bool false]) (by simp [results, Tryz.results16, go_sem, c0, c1]) rfl ⟨by rw [HF.out.1, HF.out.2.1, HF.out.2.2], hB⟩
        · have HF := Lib.hid (pack_yes (xs := xs) HO.out (pack_ok HA.out (by omega)))
          generalize cat xs = z at *
          have hb' : ¬ (2400 : Int) < (z.size : Nat) := by omega
          go_wp2
          obtain ⟨c0, c1, hB⟩ := HT2.out.put z (z.size : Nat)
          exact bodyPost_ret (v := .tuple #[shv z (z.size : Nat), .bool true]) (by simp [results, Tryz.results16, go_sem, c0, c1]) rfl ⟨by rw [HF.out.1, HF.out.2.1, HF.out.2.2], hB⟩
  · have hok' : okSh s f = false := by simpa using hok
    have HF := Lib.hid (pack_bad (xs := xs) hok')
    rw [hok']
    go_wp2
    obtain ⟨c0, c1, hB⟩ := HT.out.put ⟨#[]⟩ 0
    exact bodyPost_ret (v := .tuple #[shv ⟨#[]⟩ 0, .bool false]) (by simp [results, Tryz.results16, go_sem, c0, c1]) rfl ⟨by rw [HF.out.1, HF.out.2.1, HF.out.2.2], hB⟩
end Go.Proofs.YtapkfajgphkajaaGreatDoor.sh
