/-
  Contracts of both MixTexts.
-/
import Derived.Test.YtokajeomojlinaaPeelSpec2
import Derived.Test.YtokajeomojlinaaCatPlain
namespace Go.Proofs.Ytokajeomojlinaa.ls
open Go.ChangeShapes Go.WideShapes Go.ChangeAt Go.RowKit
open Go.Proofs.Ytokajeomojlinaa.wd Go.Proofs.Ytokajeomojlinaa.cp Go.Proofs.Ytokajeomojlinaa.mp Go.Proofs.Ytokajeomojlinaa.mb Go.Proofs.Ytokajeomojlinaa.pp Go.Proofs.Ytokajeomojlinaa.ow Go.Proofs.Ytokajeomojlinaa.mk Go.Proofs.Ytokajeomojlinaa.pe Go.Proofs.Ytokajeomojlinaa.mi Go.Proofs.Ytokajeomojlinaa.ms Go.Proofs.Ytokajeomojlinaa.ci Go.Proofs.Ytokajeomojlinaa.cs

/-- the data of the first n blocks, one behind the other -/
def catD (D : Nat → Q) (n : Nat) : ByteArray := ⟨((List.range n).flatMap fun i => (D i).list).toArray⟩
theorem catD_on (D : Nat → Q) (n : Nat) : catD D n ++ (D n).str = catD D (n + 1) := by
  unfold catD Q.str
  rw [ByteArray.mk_append_mk, List.range_succ, List.flatMap_append]
  simp
theorem catD_size (D : Nat → Q) (n : Nat) : (catD D n).size = 4 * n := by
  show ((List.range n).flatMap fun i => (D i).list).toArray.size = _
  rw [List.size_toArray, flat_len (fun i => Q.list_len (D i)), List.length_range]
  omega
/-- is a text of zero bytes alone from a place on? -/
def zr (a : ByteArray) (k : Nat) : Bool := decide (∀ i, i < a.size → k ≤ i → by_ a i = 0)
def allK (s : St) (n : Nat) : Bool := decide (∀ i, i < n → s.K i = true)
/-- what MixText answers -/
noncomputable def txt (size : Int) (l : List Mx) : ByteArray × Bool :=
  if 1 ≤ size ∧ size ≤ 24 then
    if allK (fin (pcs (((size.toNat + 3) / 4 : Nat) : Int) l)) ((size.toNat + 3) / 4) = true ∧ zr (catD (fin (pcs (((size.toNat + 3) / 4 : Nat) : Int) l)).D ((size.toNat + 3) / 4)) size.toNat = true
    then ((catD (fin (pcs (((size.toNat + 3) / 4 : Nat) : Int) l)).D ((size.toNat + 3) / 4)).extract 0 size.toNat, true) else (⟨#[]⟩, false)
  else (⟨#[]⟩, false)
theorem txt_out {size : Int} (h : size < 1 ∨ 24 < size) (l : List Mx) : txt size l = (⟨#[]⟩, false) := if_neg (by omega)
theorem txt_no {z : Nat} (l : List Mx) (h : ¬ (allK (fin (pcs (((z + 3) / 4 : Nat) : Int) l)) ((z + 3) / 4) = true ∧ zr (catD (fin (pcs (((z + 3) / 4 : Nat) : Int) l)).D ((z + 3) / 4)) z = true)) : txt z l = (⟨#[]⟩, false) := by
  unfold txt
  rw [Int.toNat_natCast]
  by_cases hr : 1 ≤ (z : Int) ∧ (z : Int) ≤ 24
  · rw [if_pos hr, if_neg h]
  · rw [if_neg hr]
theorem txt_yes {z : Nat} (h0 : 1 ≤ z) (h1 : z ≤ 24) (l : List Mx) (h : allK (fin (pcs (((z + 3) / 4 : Nat) : Int) l)) ((z + 3) / 4) = true ∧ zr (catD (fin (pcs (((z + 3) / 4 : Nat) : Int) l)).D ((z + 3) / 4)) z = true) :
    txt z l = ((catD (fin (pcs (((z + 3) / 4 : Nat) : Int) l)).D ((z + 3) / 4)).extract 0 z, true) := by
  unfold txt
  rw [Int.toNat_natCast, if_pos (by omega), if_pos h]

theorem isZero_any (x : ByteArray) (hx : x.size ≤ 100) (w : World) : Calls Try.prog 64 #[.string x] w fun e w' => e = .returned (.bool (zr x 0)) ∧ w = w' := by
  go_enter Try.func64, Try.ntmps64
  go_wp2
  go_loop [6] (fun i => ∃ k : Nat, k ≤ x.size ∧ i = .int .i64 k ∧ Hid (∀ j, j < k → by_ x j = 0)) (fun i => (x.size + 1 : Nat) - (intOf i).toNat)
  case atStart => exact ⟨0, by omega, rfl, show ∀ j, j < 0 → _ from fun j hj => absurd hj (by omega)⟩
  case round =>
    obtain ⟨k, hk, rfl, HZ⟩ := hrel
    by_cases hkx : k < x.size
    · by_cases hz : by_ x k = 0
      · have hd : (((x[k]).toNat : Int) != 0) = false := by rw [← by_in hkx, hz]; rfl
        have HN : Hid (∀ j, j < k + 1 → by_ x j = 0) := fun j hj => by
          by_cases e : j = k
          · subst e; exact hz
          · exact HZ.out j (by omega)
        clear hz
        go_wp2
        go_round
        case rel => exact ⟨k + 1, by omega, by go_num, HN.out⟩
        case measure => simp [intOf]; omega
      · have hd : (((x[k]).toNat : Int) != 0) = true := by
          rw [bne_iff_ne]
          intro e
          apply hz
          rw [by_in hkx]
          have : x[k].toNat = 0 := by omega
          exact UInt8.toNat_inj.mp this
        have HF := Lib.hid (show zr x 0 = false from decide_eq_false (fun h => hz (h k hkx (by omega))))
        clear hz
        go_wp2
        go_ret
        exact ⟨by rw [HF.out]; rfl, rfl⟩
    · have HF := Lib.hid (show zr x 0 = true from decide_eq_true (fun i hi _ => HZ.out i (by omega)))
      go_wp2
      go_ret
      exact ⟨by rw [HF.out]; rfl, rfl⟩

theorem zr_ext {a : ByteArray} {k : Nat} (h : k ≤ a.size) : zr (a.extract k a.size) 0 = zr a k := by
  unfold zr
  rw [decide_eq_decide]
  have hs : (a.extract k a.size).size = a.size - k := by simp
  rw [hs]
  constructor
  · intro g i h2 h1
    have := g (i - k) (by omega) (by omega)
    rw [by_extract, show k + (i - k) = i by omega] at this
    exact this
  · intro g i h2 _
    rw [by_extract]
    exact g (k + i) (by omega) (by omega)

def TxtPost (w : World) (r : ByteArray × Bool) (e : Ending) (w' : World) : Prop := e = .returned (.tuple #[.string r.1, .bool r.2]) ∧ Below w.heap.size w w'

set_option maxRecDepth 100000 in
set_option maxHeartbeats 2000000 in
theorem itext_any (w : World) (size : Int) (v : Value) (l : List Mx) (h : SeesM w v l) (hl : l.length ≤ 1048576) :
    Calls Try.prog 30 #[.int .i64 size, v] w (TxtPost w (txt size l)) := by
  by_cases hlo : size < 1
  · have HE := Lib.hid (txt_out (.inl hlo) l)
    rw [HE.out]
    go_enter Try.func30, Try.ntmps30
    go_wp2
    go_ret2
    exact ⟨rfl, Below.refl _ _⟩
  by_cases hhi : 24 < size
  · have HE := Lib.hid (txt_out (.inr hhi) l)
    rw [HE.out]
    go_enter Try.func30, Try.ntmps30
    go_wp2
    go_ret2
    exact ⟨rfl, Below.refl _ _⟩
  obtain ⟨z, rfl⟩ := Int.eq_ofNat_of_zero_le (show 0 ≤ size by omega)
  have hz0 : 1 ≤ z := by omega
  have hz1 : z ≤ 24 := by omega
  have HN := Lib.hid (fun h => txt_no (z := z) l h)
  have HY := Lib.hid (fun h => txt_yes hz0 hz1 l h)
  clear hlo hhi
  have hn0 : 1 ≤ (z + 3) / 4 := by omega
  have hn1 : (z + 3) / 4 ≤ 6 := by omega
  have hn2 : z ≤ 4 * ((z + 3) / 4) := by omega
  have HPk := Lib.hid (peelL_in hn0 hn1 l)
  have hq : ((z : Int) + 4 - 1) / 4 = (((z + 3) / 4 : Nat) : Int) := by omega
  generalize (z + 3) / 4 = n at hn0 hn1 hn2 HN HY HPk hq
  generalize fin (pcs (n : Int) l) = s at HN HY HPk
  go_enter Try.func30, Try.ntmps30
  go_wp2_with fail
  try rw [hq]
  refine (ipeel_any w n v l h hl).mono ?_
  rintro e w1 ⟨v1, rfl, hO1⟩
  rw [HPk.out] at hO1
  have HB := Lib.hid hO1.2
  obtain ⟨A1, c1, rfl, hc1⟩ := strs_form hO1
  rw [strs_len] at hc1 ⊢
  obtain ⟨g1, rfl, _, hg1, hcell⟩ := hc1 (by omega)
  have HC := Lib.hid hcell
  clear hO1 hc1 hcell hq
  go_wp2
  go_loop [6, 22] (fun t i => ∃ k : Nat, k ≤ n ∧ i = .int .i64 k ∧ t = .string (catD s.D k) ∧ Hid (∀ j, j < k → s.K j = true)) (fun _ i => (n + 1 : Nat) - (intOf i).toNat)
  case atStart => exact ⟨0, by omega, rfl, rfl, show ∀ j, j < 0 → _ from fun j hj => absurd hj (by omega)⟩
  case round =>
    obtain ⟨k, hk, rfl, rfl, HK⟩ := hrel
    by_cases hkn : k < n
    · have e1 : w1.cell? ⟨g1, k, none⟩ = some (.string (tx s k)) := HC.out k _ (by simp [strs, hkn])
      cases hsk : s.K k with
      | true =>
        rw [show tx s k = (s.D k).str by unfold tx; rw [hsk]; rfl] at e1
        have hne := str_nonempty (s.D k)
        have HO := Lib.hid (catD_on s.D k)
        have hcs := catD_size s.D k
        have hqs := Q.str_size (s.D k)
        have HKn : Hid (∀ j, j < k + 1 → s.K j = true) := fun j hj => by
          by_cases e : j = k
          · subst e; exact hsk
          · exact HK.out j (by omega)
        clear hsk
        generalize (s.D k).str = x at e1 hne HO hqs
        generalize catD s.D k = al at HO hcs
        have hz1 : (al.size : Int) ≤ 8388608 := by omega
        have hz2 : (x.size : Int) ≤ 8388608 := by omega
        clear hcs hqs
        go_wp2
        go_round
        case rel => exact ⟨k + 1, by omega, by go_num, by rw [HO.out], HKn.out⟩
        case measure => simp [intOf]; omega
      | false =>
        rw [show tx s k = ⟨#[]⟩ by unfold tx; rw [hsk]; rfl] at e1
        have HE := Lib.hid (HN.out (fun hh => by
          have := of_decide_eq_true hh.1 k hkn
          rw [hsk] at this; cases this))
        clear hsk
        go_wp2
        go_ret2
        exact ⟨by rw [HE.out]; rfl, HB.out⟩
    · obtain rfl : k = n := by omega
      have hak : allK s k = true := decide_eq_true HK.out
      have hcs := catD_size s.D k
      have hle : z ≤ (catD s.D k).size := by omega
      have HZE := Lib.hid (zr_ext hle)
      generalize catD s.D k = al at hcs hle HZE HN HY
      have has : al.size ≤ 24 := by omega
      have hxs : (al.extract z al.size).size ≤ 100 := by simp; omega
      have HAl := Lib.hid hak
      clear hcs hak
      cases hzr : zr al z with
      | true =>
        have HE := Lib.hid (HY.out ⟨HAl.out, hzr⟩)
        have hh : ∀ W : World, Calls Try.prog 64 #[.string (al.extract z al.size)] W fun e w' => e = .returned (.bool true) ∧ W = w' := fun W => (isZero_any _ hxs W).mono (fun _ _ ⟨a, b⟩ => ⟨by rw [a, HZE.out, hzr], b⟩)
        clear hzr
        go_wp2_with ((go_at_call 64; refine (hh _).mono ?_; rintro e w' ⟨rfl, rfl⟩))
        go_ret2
        exact ⟨by rw [HE.out]; rfl, HB.out⟩
      | false =>
        have HE := Lib.hid (HN.out (fun hh => by rw [hzr] at hh; cases hh.2))
        have hh : ∀ W : World, Calls Try.prog 64 #[.string (al.extract z al.size)] W fun e w' => e = .returned (.bool false) ∧ W = w' := fun W => (isZero_any _ hxs W).mono (fun _ _ ⟨a, b⟩ => ⟨by rw [a, HZE.out, hzr], b⟩)
        clear hzr
        go_wp2_with ((go_at_call 64; refine (hh _).mono ?_; rintro e w' ⟨rfl, rfl⟩))
        go_ret2
        exact ⟨by rw [HE.out]; rfl, HB.out⟩
end Go.Proofs.Ytokajeomojlinaa.ls
