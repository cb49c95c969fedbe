/-
  Contract of spec.l11One: the record at the front of a text.
-/
import Derived.Test.YtapkfajgphkajaaGreatDoorDec3x
import Derived.Test.YtapkfajgphkajaaGreatDoorShelfPlain2
import Derived.Deep.QuietTactic
import Derived.BigQuiet
namespace Go.Proofs.YtapkfajgphkajaaGreatDoor.sh
open Go.ChangeShapes Go.WideShapes Go.ChangeAt Go.RowKit
open Go.Proofs.YtapkfajgphkajaaGreatDoor.nb Go.Proofs.YtapkfajgphkajaaGreatDoor.ok Go.Proofs.YtapkfajgphkajaaGreatDoor.wd Go.Proofs.YtapkfajgphkajaaGreatDoor.dc

def OnePost (w : World) (l : List UInt8) (e : Ending) (w' : World) : Prop := e = .returned (.tuple #[.string (oneS l), .int .i64 (oneN l : Nat)]) ∧ Below w.heap.size w w'

theorem get_at (s : ByteArray) (k : Nat) (h : k < s.size) : s.data.toList[k]? = some s[k] := by rw [List.getElem?_eq_getElem (by rw [← Lib.size_eq]; exact h)]; rfl
theorem byte_ne {c d : UInt8} (h : c ≠ d) : ((c.toNat : Int) == (d.toNat : Int)) = false := by
  rw [beq_eq_false_iff_ne]
  intro e
  apply h
  apply UInt8.toNat_inj.1
  omega
theorem byte_eq {c d : UInt8} (h : c = d) : ((c.toNat : Int) == (d.toNat : Int)) = true := by rw [h]; exact beq_self_eq_true _

theorem none_post {w w' : World} {l : List UInt8} (h : one l = none) (hB : Below w.heap.size w w') : OnePost w l (.returned (.tuple #[.string ⟨#[]⟩, .int .i64 0])) w' :=
  ⟨by rw [oneS_none h, oneN_none h]; rfl, hB⟩

set_option maxRecDepth 100000 in
set_option maxHeartbeats 1000000 in
theorem sone_any (s : ByteArray) (hs : s.size ≤ 8388608) (w : World) :
    Calls Tryz.prog 41 #[.string s] w (OnePost w s.data.toList) := by
  go_enter Tryz.func41, Tryz.ntmps41
  go_wp2
  go_loop [4] (fun i => ∃ k : Nat, k ≤ s.size ∧ k ≤ 3 ∧ i = .int .i64 k ∧ Hid (∀ j, j < k → s.data.toList[j]? ≠ some 58)) (fun i => 3 - (intOf i).toNat)
  case atStart => exact ⟨0, by omega, by omega, rfl, fun j hj => absurd hj (by omega)⟩
  case round =>
    obtain ⟨k, hk, hk3, rfl, HA⟩ := hrel
    by_cases hlt : k < s.size
    · by_cases hl3 : k < 3
      · have hat := get_at s k hlt
        by_cases hc : s[k] = 58
        · have HO := Lib.hid (one_at (hat.trans (by rw [hc])) HA.out)
          have hcv : ((s[k].toNat : Int) == 58) = true := byte_eq (d := 58) hc
          have HD := Lib.hid (fun W => dec3x_any (s.extract 0 k) (by rw [ByteArray.size_extract]; omega) W)
          rw [ext_take] at HD
          generalize s.data.toList.take k = d at HD HO
          clear hat hc HA
          go_wp2_with fail
          refine (HD.out _).mono ?_
          rintro e w2 ⟨v, rfl, hv, hB⟩
          by_cases hr : 1 ≤ v ∧ v ≤ 60
          · obtain ⟨n, rfl⟩ := Int.eq_ofNat_of_zero_le (show (0 : Int) ≤ v by omega)
            have hn1 : 1 ≤ n := by omega
            have hn2 : n ≤ 60 := by omega
            have hdn : d = dl (n : Int) := by
              rcases hv with ⟨h, _⟩ | ⟨_, _, h⟩
              · omega
              · exact h
            have HS := Lib.hid HO.out
            rw [hdn, sz_dl hn1 hn2] at HS
            clear HD HO hv hdn hr
            by_cases hfit : s.size < k + 2 + n
            · have HN := Lib.hid (show one s.data.toList = none by
                rw [HS.out, if_neg]
                rintro ⟨_, h⟩
                have := (List.getElem?_eq_some_iff.1 h).1
                rw [← Lib.size_eq] at this
                omega)
              clear HS
              go_wp2
              go_ret2
              exact none_post HN.out hB
            · have hlt2 : k + 1 + n < s.size := by omega
              have hat2 := get_at s (k + 1 + n) hlt2
              by_cases hc2 : s[k + 1 + n] = 59
              · have HN := Lib.hid (show one s.data.toList = some ((s.data.toList.drop (k + 1)).take n, k + n + 2) by
                  rw [HS.out, if_pos ⟨by omega, hat2.trans (by rw [hc2])⟩])
                have HX := Lib.hid (show s.extract (k + 1) (k + 1 + n) = str ((s.data.toList.drop (k + 1)).take n) by
                  rw [Lib.extract_eq, show k + 1 + n - (k + 1) = n by omega]; rfl)
                have hcv2 : ((s[k + 1 + n].toNat : Int) == 59) = true := byte_eq (d := 59) hc2
                clear HS hat2 hc2
                have b0 : (0 : Int) ≤ (k : Int) + 1 := by omega
                have b1 : (k : Int) + 1 ≤ (k : Int) + 1 + n := by omega
                have b2 : (k : Int) + 1 + n ≤ s.size := by omega
                have b3 : ((k : Int) + 1).toNat = k + 1 := by omega
                have b4 : ((k : Int) + 1 + n).toNat = k + 1 + n := by omega
                go_wp2
                · exfalso
                  rename_i h
                  revert h
                  rw [bne, hcv2]
                  simp
                  omega
                · go_ret2
                  exact ⟨by rw [oneS_some HN.out, oneN_some HN.out, ← HX.out]; simp; omega, hB⟩
              · have HN := Lib.hid (show one s.data.toList = none by
                  rw [HS.out, if_neg]
                  rintro ⟨_, h⟩
                  rw [hat2] at h
                  exact hc2 (Option.some.inj h))
                have hcv2 : ((s[k + 1 + n].toNat : Int) == 59) = false := byte_ne (d := 59) hc2
                clear HS hat2 hc2
                go_wp2
                · go_ret2
                  exact none_post HN.out hB
                · exfalso
                  have h := (show ((1 ≤ (n : Int) ∧ (n : Int) ≤ 60) ∧ (k : Int) + 2 + n ≤ s.size) ∧ ((s[k + 1 + n].toNat : Int) != 59) = false by assumption).2
                  rw [bne, hcv2] at h
                  cases h
          · have HN := Lib.hid (show one s.data.toList = none by
              rw [HO.out, if_neg]
              rintro ⟨h, _⟩
              obtain ⟨h1, h2, h3⟩ := sz_pos h
              rcases hv with ⟨_, h'⟩ | ⟨h0', h9', h'⟩
              · exact h' _ (by omega) (by omega) h3
              · rw [h3] at h'
                obtain ⟨m, rfl⟩ := Int.eq_ofNat_of_zero_le h0'
                have := dl_inj h'
                omega)
            clear HD HO hv
            by_cases hv1 : v < 1
            · go_wp2
              go_ret2
              exact none_post HN.out hB
            · have hv60 : 60 < v := by omega
              go_wp2
              go_ret2
              exact none_post HN.out hB
        · have R : Hid (∀ j, j < k + 1 → s.data.toList[j]? ≠ some 58) := fun j hj => by
            by_cases e : j = k
            · subst e; rw [hat]; intro h; exact hc (Option.some.inj h)
            · exact HA.out j (by omega)
          have hcv : ((s[k].toNat : Int) == 58) = false := byte_ne (d := 58) hc
          clear hat hc HA
          go_wp2
          go_round
          case rel => exact ⟨k + 1, by omega, by omega, by go_num, R⟩
          case measure => simp [intOf]; omega
      · have HN := Lib.hid (one_no3 (l := s.data.toList) (fun j hj => HA.out j (by omega)))
        clear HA
        go_wp2
        go_ret2
        exact none_post HN.out (Below.refl _ _)
    · have HN := Lib.hid (one_no3 (l := s.data.toList) (fun j hj e => by
        by_cases h : j < k
        · exact HA.out j h e
        · have := (List.getElem?_eq_some_iff.1 e).1
          rw [← Lib.size_eq] at this
          omega))
      clear HA
      go_wp2
      go_ret2
      exact none_post HN.out (Below.refl _ _)
end Go.Proofs.YtapkfajgphkajaaGreatDoor.sh
