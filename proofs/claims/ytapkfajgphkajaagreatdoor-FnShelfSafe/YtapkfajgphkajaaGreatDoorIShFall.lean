/-
  Contract of impl.ShelfFall.
-/
import Derived.Test.YtapkfajgphkajaaGreatDoorIShOk
import Derived.Test.YtapkfajgphkajaaGreatDoorSShAdd
namespace Go.Proofs.YtapkfajgphkajaaGreatDoor.sh
open Go.ChangeShapes Go.WideShapes Go.ChangeAt Go.RowKit
open Go.Proofs.YtapkfajgphkajaaGreatDoor.nb Go.Proofs.YtapkfajgphkajaaGreatDoor.ok Go.Proofs.YtapkfajgphkajaaGreatDoor.wd Go.Proofs.YtapkfajgphkajaaGreatDoor.dc

theorem ifall_ok {s : ByteArray} {f k : Int} {n : Nat} (h : okSh s f = true) (hn : left s f k = n) : fallS s f k = s.extract 0 (en (s.data.toList.take n)) ∧ fallF s f k = (en (s.data.toList.take n) : Nat) := by
  subst hn
  simp [fallS, fallF, fallN, h]
theorem ifall_bad {s : ByteArray} {f k : Int} (h : okSh s f = false) : fallS s f k = ⟨#[]⟩ ∧ fallF s f k = 0 := by simp [fallS, fallF, h]

set_option maxRecDepth 100000 in
set_option maxHeartbeats 2000000 in
theorem ifall_any (s : ByteArray) (f k : Int) (w : World) (h : Env w) :
    Calls Tryz.prog 19 #[shv s f, .int .i64 k] w (ShPost w (fallS s f k) (fallF s f k)) := by
  have hT := Two.new w s f
  have H := Lib.hid (fun V hV => iok_any s f V hV)
  go_enter Tryz.func19, Tryz.ntmps19
  go_wp2_with fail
  generalize (w.alloc (.cells #[.string s, .int .i64 f] 24)).alloc (.cells #[.string ⟨#[]⟩, .int .i64 0] 24) = V at hT ⊢
  refine (H.out _ (h.later hT.bel)).mono ?_
  rintro e V1 ⟨rfl, hB⟩
  have hT1 := hT.later hB
  obtain ⟨a0, a1, r0, r1, f0, f1⟩ := hT1.cells
  have HT := Lib.hid hT1
  clear hT hT1 hB H
  by_cases hok : okSh s f = true
  · have hsz := ok_small hok
    obtain ⟨m, rfl⟩ := Int.eq_ofNat_of_zero_le (okSh_iff.1 hok).2.1
    have hm : m ≤ s.size := by have := (okSh_iff.1 hok).2.2.1; rw [← Lib.size_eq] at this; omega
    have HO := Lib.hid hok
    rw [hok]
    clear hok
    have HR := Lib.hid (fun (n : Nat) (hn : n ≤ s.size) V (hV : Env V) => iread_any (s.extract 0 n) (by rw [ByteArray.size_extract]; omega) V hV.tab hV.errs hV.errT)
    simp only [ext_take] at HR
    have HE := Lib.hid (fun n : Nat => show en (s.data.toList.take n) ≤ s.size by have := en_le (s.data.toList.take n); rw [List.length_take, ← Lib.size_eq] at this; omega)
    obtain ⟨n, hnn⟩ : ∃ n : Nat, n = m + min k.toNat (s.size - m) := ⟨_, rfl⟩
    have HF := Lib.hid (ifall_ok (k := k) HO.out (n := n) (by unfold left; omega))
    have hns : n ≤ s.size := by omega
    have hex : (m : Int) + min (max k 0) ((s.size : Int) - m) = (n : Int) := by omega
    have hn0 : (0 : Int) ≤ (n : Int) := by omega
    have hn1 : (n : Int) ≤ (s.size : Int) := by omega
    clear hnn
    go_wp2_with fail
    refine (HR.out n hns _ (h.later HT.out.bel)).mono ?_
    rintro e V2 ⟨v, rfl, hO⟩
    have hT2 := HT.out.later hO.2
    obtain ⟨a0, a1, r0, r1, f0, f1⟩ := hT2.cells
    have HT2 := Lib.hid hT2
    have hme := HE.out n
    generalize en (s.data.toList.take n) = q at hme HF
    have hq0 : (0 : Int) ≤ (q : Int) := by omega
    have hq1 : (q : Int) ≤ (s.size : Int) := by omega
    clear hT2 hO
    go_wp2
    obtain ⟨c0, c1, hB⟩ := HT2.out.put (s.extract 0 q) q
    exact bodyPost_ret (v := shv (s.extract 0 q) q) (by simp [results, Tryz.results19, go_sem, c0, c1]) rfl ⟨by rw [HF.out.1, HF.out.2], hB⟩
  · have hok' : okSh s f = false := by simpa using hok
    have HF := Lib.hid (ifall_bad (k := k) hok')
    rw [hok']
    go_wp2
    obtain ⟨c0, c1, hB⟩ := HT.out.put ⟨#[]⟩ 0
    exact bodyPost_ret (v := shv ⟨#[]⟩ 0) (by simp [results, Tryz.results19, go_sem, c0, c1]) rfl ⟨by rw [HF.out.1, HF.out.2], hB⟩
end Go.Proofs.YtapkfajgphkajaaGreatDoor.sh
