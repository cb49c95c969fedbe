/-
  The contract of the specification's MixText: what impl.MixText answers.
-/
import Derived.Test.YtokajeomojlinaaTextC
namespace Go.Proofs.Ytokajeomojlinaa.ls
open Go.ChangeShapes Go.WideShapes Go.ChangeAt Go.RowKit
open Go.Proofs.Ytokajeomojlinaa.wd Go.Proofs.Ytokajeomojlinaa.cp Go.Proofs.Ytokajeomojlinaa.mp Go.Proofs.Ytokajeomojlinaa.mb Go.Proofs.Ytokajeomojlinaa.pp Go.Proofs.Ytokajeomojlinaa.ow Go.Proofs.Ytokajeomojlinaa.mk Go.Proofs.Ytokajeomojlinaa.pe Go.Proofs.Ytokajeomojlinaa.mi Go.Proofs.Ytokajeomojlinaa.ms Go.Proofs.Ytokajeomojlinaa.ci Go.Proofs.Ytokajeomojlinaa.cs

set_option maxRecDepth 100000 in
set_option maxHeartbeats 2000000 in
theorem stext_any (w : World) (size : Int) (v : Value) (l : List Mx) (h : SeesM w v l) (hl : l.length ≤ 1048576) :
    Calls Try.prog 32 #[.int .i64 size, v] w (TxtPost w (txt size l)) := by
  by_cases hin : 1 ≤ size ∧ size ≤ 24
  case neg =>
    have HE := Lib.hid (txt_out (size := size) (by omega) l)
    have hf := inB_f (n := size) (a := 1) (b := 24) (by omega)
    rw [HE.out]
    go_enter Try.func32, Try.ntmps32
    go_wp2_with ((go_at_call 61; refine (in_any _ _ _ _).mono ?_; rintro e w' ⟨rfl, rfl⟩))
    go_ret2
    exact ⟨rfl, Below.refl _ _⟩
  obtain ⟨z, rfl⟩ := Int.eq_ofNat_of_zero_le (show 0 ≤ size by omega)
  have hz0 : 1 ≤ z := by omega
  have hz1 : z ≤ 24 := by omega
  have ht := inB_t (n := (z : Int)) (a := 1) (b := 24) (by omega) (by omega)
  have HN := Lib.hid (fun h => txt_no (z := z) l h)
  have HY := Lib.hid (fun h => txt_yes hz0 hz1 l h)
  clear hin
  have hn0 : 1 ≤ (z + 3) / 4 := by omega
  have hn1 : (z + 3) / 4 ≤ 6 := by omega
  have hn2 : z ≤ 4 * ((z + 3) / 4) := by omega
  have HPk := Lib.hid (peelL_in hn0 hn1 l)
  have HBl := Lib.hid (fun W => blocks_any z (by omega) W)
  generalize (z + 3) / 4 = n at hn0 hn1 hn2 HN HY HPk HBl
  generalize fin (pcs (n : Int) l) = s at HN HY HPk
  go_enter Try.func32, Try.ntmps32
  go_wp2_with (first | (go_at_call 61; refine (in_any _ _ _ _).mono ?_; rintro e w' ⟨rfl, rfl⟩) | (go_at_call 44; refine (HBl.out _).mono ?_; rintro e w' ⟨rfl, rfl⟩))
  refine (speel_any w n v l h hl).mono ?_
  rintro e w1 ⟨v1, rfl, hO1⟩
  rw [HPk.out] at hO1
  have HB := Lib.hid hO1.2
  obtain ⟨A1, c1, rfl, hc1⟩ := strs_form hO1
  rw [strs_len] at hc1 ⊢
  obtain ⟨g1, rfl, _, hg1, hcell⟩ := hc1 (by omega)
  have HC := Lib.hid hcell
  clear hO1 hc1 hcell ht HBl
  go_wp2
  go_loop [7, 8] (fun t i => ∃ k : Nat, k ≤ n ∧ i = .int .i64 k ∧ t = .string (catD s.D k) ∧ Hid (∀ j, j < k → s.K j = true)) (fun _ i => (n + 1 : Nat) - (intOf i).toNat)
  case atStart => exact ⟨0, by omega, rfl, rfl, show ∀ j, j < 0 → _ from fun j hj => absurd hj (by omega)⟩
  case round =>
    obtain ⟨k, hk, rfl, rfl, HK⟩ := hrel
    by_cases hkn : k < n
    · have e1 : w1.cell? ⟨g1, k, none⟩ = some (.string (tx s k)) := HC.out k _ (by simp [strs, hkn])
      cases hsk : s.K k with
      | true =>
        rw [show tx s k = (s.D k).str by unfold tx; rw [hsk]; rfl] at e1
        have hne := str_nonempty (s.D k)
        have HO := Lib.hid (catD_on s.D k)
        have hcs := catD_size s.D k
        have hqs := Q.str_size (s.D k)
        have HKn : Hid (∀ j, j < k + 1 → s.K j = true) := fun j hj => by
          by_cases e : j = k
          · subst e; exact hsk
          · exact HK.out j (by omega)
        clear hsk
        generalize (s.D k).str = x at e1 hne HO hqs
        generalize catD s.D k = al at HO hcs
        have hz1 : (al.size : Int) ≤ 8388608 := by omega
        have hz2 : (x.size : Int) ≤ 8388608 := by omega
        clear hcs hqs
        go_wp2
        go_round
        case rel => exact ⟨k + 1, by omega, by go_num, by rw [HO.out], HKn.out⟩
        case measure => simp [intOf]; omega
      | false =>
        rw [show tx s k = ⟨#[]⟩ by unfold tx; rw [hsk]; rfl] at e1
        have HE := Lib.hid (HN.out (fun hh => by
          have := of_decide_eq_true hh.1 k hkn
          rw [hsk] at this; cases this))
        clear hsk
        go_wp2
        go_ret2
        exact ⟨by rw [HE.out]; rfl, HB.out⟩
    · obtain rfl : k = n := by omega
      have hak : allK s k = true := decide_eq_true HK.out
      have hcs := catD_size s.D k
      have hle : z ≤ (catD s.D k).size := by omega
      generalize catD s.D k = al at hcs hle HN HY
      have has : al.size ≤ 24 := by omega
      have HAl := Lib.hid hak
      clear hcs hak
      go_wp2
      go_loop [9] (fun i => ∃ j : Nat, z ≤ j ∧ j ≤ al.size ∧ i = .int .i64 j ∧ Hid (∀ x, x < j → z ≤ x → by_ al x = 0)) (fun i => (al.size + 1 : Nat) - (intOf i).toNat)
      case atStart => exact ⟨z, by omega, by omega, rfl, show ∀ x, x < z → z ≤ x → _ from fun x h0 h1 => absurd h0 (by omega)⟩
      case round =>
        obtain ⟨j, hj0, hj1, rfl, HZ⟩ := hrel
        by_cases hjn : j < al.size
        · by_cases hz : by_ al j = 0
          · have hd : (((al[j]).toNat : Int) != 0) = false := by rw [← by_in hjn, hz]; rfl
            have HM : Hid (∀ x, x < j + 1 → z ≤ x → by_ al x = 0) := fun x hx h1 => by
              by_cases e : x = j
              · subst e; exact hz
              · exact HZ.out x (by omega) h1
            clear hz
            go_wp2
            go_round
            case rel => exact ⟨j + 1, by omega, by omega, by go_num, HM.out⟩
            case measure => simp [intOf]; omega
          · have hd : (((al[j]).toNat : Int) != 0) = true := by
              rw [bne_iff_ne]
              intro e
              apply hz
              rw [by_in hjn]
              have : al[j].toNat = 0 := by omega
              exact UInt8.toNat_inj.mp this
            have HE := Lib.hid (HN.out (fun hh => hz (of_decide_eq_true hh.2 j hjn hj0)))
            clear hz
            go_wp2
            go_ret2
            exact ⟨by rw [HE.out]; rfl, HB.out⟩
        · obtain rfl : j = al.size := by omega
          have HE := Lib.hid (HY.out ⟨HAl.out, decide_eq_true HZ.out⟩)
          go_wp2
          go_ret2
          exact ⟨by rw [HE.out]; rfl, HB.out⟩

theorem txt_cases (size : Int) (l : List Mx) : txt size l = (⟨#[]⟩, false) ∨ ∃ x : ByteArray, txt size l = (x, true) ∧ (x.size : Int) = size := by
  by_cases hr : 1 ≤ size ∧ size ≤ 24
  · obtain ⟨z, rfl⟩ := Int.eq_ofNat_of_zero_le (show 0 ≤ size by omega)
    by_cases hc : allK (fin (pcs (((z + 3) / 4 : Nat) : Int) l)) ((z + 3) / 4) = true ∧ zr (catD (fin (pcs (((z + 3) / 4 : Nat) : Int) l)).D ((z + 3) / 4)) z = true
    · right
      refine ⟨_, txt_yes (by omega) (by omega) l hc, ?_⟩
      have := catD_size (fin (pcs (((z + 3) / 4 : Nat) : Int) l)).D ((z + 3) / 4)
      rw [ByteArray.size_extract, this]
      omega
    · exact .inl (txt_no l hc)
  · exact .inl (txt_out (by omega) l)
end Go.Proofs.Ytokajeomojlinaa.ls
