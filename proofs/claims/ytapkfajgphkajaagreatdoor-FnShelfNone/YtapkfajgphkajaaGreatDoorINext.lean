/-
  Contract of (*impl.logCursor).next.
-/
import Derived.Test.YtapkfajgphkajaaGreatDoorILim
import Derived.Test.YtapkfajgphkajaaGreatDoorColon
import Derived.Test.YtapkfajgphkajaaGreatDoorSOne
import Derived.Test.YtapkfajgphkajaaGreatDoorSShRead
import Derived.Deep.RegionHeld3
namespace Go.Proofs.YtapkfajgphkajaaGreatDoor.sh
open Go.ChangeShapes Go.WideShapes Go.ChangeAt Go.RowKit
open Go.Proofs.YtapkfajgphkajaaGreatDoor.nb Go.Proofs.YtapkfajgphkajaaGreatDoor.ok Go.Proofs.YtapkfajgphkajaaGreatDoor.wd Go.Proofs.YtapkfajgphkajaaGreatDoor.dc

def errV (k : Nat) : Value := .iface 51 (.agg #[.int .i64 k])
def NextPost (w : World) (C : Nat) (l : List UInt8) (k : Nat) (e : Ending) (w' : World) : Prop :=
  (one (l.drop k) = none ∧ e = .returned (.tuple #[.string ⟨#[]⟩, errV k]) ∧ Below w.heap.size w w') ∨
  ∃ x m, one (l.drop k) = some (x, m) ∧ e = .returned (.tuple #[.string (str x), .nilIface]) ∧ ∃ W, Below w.heap.size w W ∧ w' = W.setCell ⟨C, 1, none⟩ (.int .i64 ((k + m : Nat) : Int))

theorem one_hd {l : List UInt8} (h : sz (hd l).1 = 0) : one l = none := by unfold one; rw [if_neg]; rintro ⟨h1, _⟩; exact h1 h
theorem hd_size (l : List UInt8) : (hd l).1.length ≤ l.length ∧ (hd l).2.length ≤ l.length := by
  unfold hd
  refine ⟨(List.takeWhile_sublist _).length_le, ?_⟩
  exact Nat.le_trans (List.length_drop_le _ _) (List.dropWhile_sublist _).length_le
where List.length_drop_le (n : Nat) (l : List UInt8) : (l.drop n).length ≤ l.length := by rw [List.length_drop]; omega

set_option maxRecDepth 100000 in
set_option maxHeartbeats 4000000 in
theorem inext_any (C : Nat) (s : ByteArray) (k : Nat) (w : World) (hC : Blk w C 80 #[.string s, .int .i64 k]) (hk : k ≤ s.size) (hs : s.size ≤ 8388608) (hT : Tab w) (hE : Errs w) :
    Calls Tryz.prog 46 #[.pointer (some ⟨C, 0, none⟩)] w (NextPost w C s.data.toList k) := by
  have c0 := hC.cell 0
  have c1 := hC.cell 1
  simp only [List.getElem?_toArray, List.getElem?_cons_zero, List.getElem?_cons_succ] at c0 c1
  have HCut := Lib.hid (fun W => cut58_any (s.extract k s.size) (by rw [ByteArray.size_extract]; omega) W)
  unfold Cut58Post at HCut
  rw [ext_drop] at HCut
  have hlen : (s.data.toList.drop k).length ≤ 8388608 := by rw [List.length_drop, ← Lib.size_eq]; omega
  generalize htl : s.data.toList.drop k = t at HCut hlen
  have hsz := hd_size t
  have HO := Lib.hid (show one t = if sz (hd t).1 ≠ 0 ∧ (hd t).2[sz (hd t).1]? = some 59 then some ((hd t).2.take (sz (hd t).1), (hd t).1.length + sz (hd t).1 + 2) else none from rfl)
  have b0 : (0 : Int) ≤ (k : Int) := by omega
  have b1 : (k : Int) ≤ (s.size : Int) := by omega
  have HTl := Lib.hid htl
  clear htl
  generalize (hd t).1 = d at HCut HO hsz
  generalize (hd t).2 = r at HCut HO hsz
  have hd1 : (str d).size ≤ 8388608 := by rw [str_size]; omega
  have hr1 : (str r).size ≤ 8388608 := by rw [str_size]; omega
  go_enter Tryz.func46, Tryz.ntmps46
  go_wp2_with fail
  go_region_held3 (fun V => V.cell? ⟨C, 0, none⟩ = some (.string s) ∧ V.cell? ⟨C, 1, none⟩ = some (.int .i64 k)) (first | exact ⟨c0, c1⟩ | exact ⟨k0, k1⟩) ((go_at_call 55; refine (HCut.out _).mono ?_; rintro e w1 ⟨b, rfl, hB1⟩; have k0 := (hB1.cell (p := ⟨C, 0, none⟩) hC.lt).trans c0; have k1 := (hB1.cell (p := ⟨C, 1, none⟩) hC.lt).trans c1))
  have HB1 : Hid (Below w.heap.size w w1) := ⟨hB1.os, hB1.tape, hB1.output, hB1.size, hB1.block⟩
  clear hB1 HCut c0 c1 b0 b1
  go_wp2_with fail
  refine (atoi_any (str d) hd1 _ (hE.later HB1.out)).mono ?_
  rw [data_str]
  rintro e w2 ⟨x, rfl, hB2⟩
  have HB2 := Lib.hid (HB1.out.trans (hB2.mono HB1.out.size))
  clear hB2 HB1
  obtain ⟨z0, z1⟩ := atoiV_range d
  by_cases hq : Lib.itoa (atoiV d) = d
  · have HI := Lib.hid (itoa_all (atoiV d) z0 z1 w2 (hT.later HB2.out))
    rw [hq] at HI
    have HQ := Lib.hid hq
    clear hq
    generalize hz : atoiV d = z at z0 z1 HI
    have HZ := Lib.hid hz
    clear hz
    go_wp2_with fail
    refine HI.out.mono ?_
    rintro e w3 ⟨rfl, hB3⟩
    have HB3 := Lib.hid (HB2.out.trans (hB3.mono HB2.out.size))
    clear hB3 HB2 HI
    go_wp2_with fail
    refine (limRec_any _ _).mono ?_
    rintro e w4 ⟨rfl, hB4⟩
    have HB4 := Lib.hid (HB3.out.trans (hB4.mono HB3.out.size))
    clear hB4 HB3
    have HT := Lib.hid hT
    clear hT hE
    by_cases hin : inB z 1 60 = true
    · have HOut := Lib.hid (fun W => outside_any z 1 60 W)
      rw [hin] at HOut
      go_wp2_with fail
      refine (HOut.out _).mono ?_
      rintro e w5 ⟨rfl, hB5⟩
      have HB5 := Lib.hid (HB4.out.trans (hB5.mono HB4.out.size))
      clear hB5 HB4 HOut
      have hC5 := hC.below HB5.out hC.lt
      have c0 := hC5.cell 0
      have c1 := hC5.cell 1
      simp only [List.getElem?_toArray, List.getElem?_cons_zero, List.getElem?_cons_succ] at c0 c1
      have f1 := hC5.frozen 1
      have hlt := hC5.lt
      clear hC5 hC
      obtain ⟨hn1, hn2⟩ := inB_iff.1 hin
      obtain ⟨n, rfl⟩ := Int.eq_ofNat_of_zero_le (show (0 : Int) ≤ z by omega)
      have HS := Lib.hid (sz_of_atoi HQ.out HZ.out (by omega) (by omega))
      rw [HS.out] at HO
      clear hin HS HQ HZ z0 z1 HT
      generalize hy : str r = y at hr1
      have HY := Lib.hid (show y.data.toList = r by rw [← hy, data_str])
      have hyl : y.size = r.length := by rw [← hy, str_size]
      clear hy
      by_cases hfit : y.size ≤ n
      · have HN := Lib.hid (show one t = none by
          rw [HO.out, if_neg]
          rintro ⟨_, h⟩
          have := (List.getElem?_eq_some_iff.1 h).1
          omega)
        clear HO
        have hfit' : (y.size : Int) ≤ n := by omega
        go_wp2
        go_quiet (fail)
        go_wp2
        go_ret2
        exact .inl ⟨by rw [HTl.out]; exact HN.out, rfl, bdrewN HB5.out _⟩
      · have hnf : n < y.size := by omega
        have hnf' : (n : Int) < y.size := by omega
        have hat := get_at y n hnf
        rw [HY.out] at hat
        by_cases hc : y[n] = 59
        · have HN := Lib.hid (show one t = some (r.take n, d.length + n + 2) by
            rw [HO.out, if_pos ⟨by omega, hat.trans (by rw [hc])⟩])
          have HX := Lib.hid (show y.extract 0 n = str (r.take n) by rw [Lib.extract_eq, HY.out]; simp [str])
          have hcv : ((y[n].toNat : Int) == 59) = true := byte_eq (d := 59) hc
          have hsd := str_size d
          clear HO hat hc
          have b0 : (0 : Int) ≤ (n : Int) := by omega
          have b1 : (n : Int) ≤ (y.size : Int) := by omega
          go_wp2
          · exfalso
            have h := (show r.length ≤ n ∨ ((y[n].toNat : Int) != 59) = true by assumption)
            rcases h with h | h
            · omega
            · rw [bne, hcv] at h
              cases h
          · go_ret2
            refine .inr ⟨r.take n, d.length + n + 2, by rw [HTl.out]; exact HN.out, by rw [← HX.out]; rfl, w5, HB5.out, ?_⟩
            congr 2
            omega
        · have HN := Lib.hid (show one t = none by
            rw [HO.out, if_neg]
            rintro ⟨_, h⟩
            rw [hat] at h
            exact hc (Option.some.inj h))
          have hcv : ((y[n].toNat : Int) == 59) = false := byte_ne (d := 59) hc
          clear HO hat hc
          go_wp2
          · go_quiet (fail)
            go_wp2
            go_ret2
            exact .inl ⟨by rw [HTl.out]; exact HN.out, rfl, bdrewN HB5.out _⟩
          · exfalso
            have h := (show ¬r.length ≤ n ∧ ((y[n].toNat : Int) != 59) = false by assumption).2
            rw [bne, hcv] at h
            cases h
    · have hinf : inB z 1 60 = false := by simpa using hin
      have HOut := Lib.hid (fun W => outside_any z 1 60 W)
      rw [hinf] at HOut
      have HN := Lib.hid (show one t = none by
        rw [HO.out, if_neg]
        rintro ⟨h, _⟩
        obtain ⟨_, _, h1, h2⟩ := sz_atoi h
        rw [HZ.out] at h1 h2
        exact hin (inB_t h1 h2))
      clear HO hin hinf HQ HZ
      go_wp2_with fail
      refine (HOut.out _).mono ?_
      rintro e w5 ⟨rfl, hB5⟩
      have HB5 := Lib.hid (HB4.out.trans (hB5.mono HB4.out.size))
      clear hB5 HB4 HOut
      have hC5 := hC.below HB5.out hC.lt
      have c1 := hC5.cell 1
      simp only [List.getElem?_toArray, List.getElem?_cons_zero, List.getElem?_cons_succ] at c1
      clear hC5 hC
      go_wp2
      go_quiet (fail)
      go_wp2
      go_ret2
      exact .inl ⟨by rw [HTl.out]; exact HN.out, rfl, bdrewN HB5.out _⟩
  · have HN := Lib.hid (show one t = none by
      rw [HO.out, if_neg]
      rintro ⟨h, _⟩
      exact hq (sz_atoi h).2.1)
    have HI := Lib.hid (itoa_all (atoiV d) z0 z1 w2 (hT.later HB2.out))
    have hne : (((str d).toList == (str (Lib.itoa (atoiV d))).toList)) = false := toList_ne (fun e => hq (str_inj e).symm)
    generalize atoiV d = z at HI hne
    generalize str (Lib.itoa z) = q at HI hne
    clear HO hq z0 z1
    go_wp2_with fail
    refine HI.out.mono ?_
    rintro e w3 ⟨rfl, hB3⟩
    have HB3 := Lib.hid (HB2.out.trans (hB3.mono HB2.out.size))
    clear hB3 HB2 HI
    have hC5 := hC.below HB3.out hC.lt
    have c1 := hC5.cell 1
    simp only [List.getElem?_toArray, List.getElem?_cons_zero, List.getElem?_cons_succ] at c1
    clear hC5 hC
    go_wp2
    go_quiet (fail)
    go_wp2
    go_ret2
    exact .inl ⟨by rw [HTl.out]; exact HN.out, rfl, bdrewN HB3.out _⟩
end Go.Proofs.YtapkfajgphkajaaGreatDoor.sh
