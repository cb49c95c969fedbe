/-
  Plain: what the laws of frames say of the bytes of a frame. Nothing here speaks of a program.
-/
import Derived.Test.YtgihbilpimempaaDoorFrPlain
namespace Go.Proofs.YtgihbilpimempaaDoor.fr
open Go.Proofs.YtgihbilpimempaaDoor.nb Go.Proofs.YtgihbilpimempaaDoor.nx Go.Proofs.YtgihbilpimempaaDoor.cp

set_option maxRecDepth 100000 in
theorem no_divs : ((List.range 1001).all fun w => (List.range 4).all fun q => w == 0 || q == 0 || (65521 * q) % w != 0 || decide (255 < 65521 * q / w)) = true := by decide +kernel
theorem no_div {w q d : Nat} (hw : w ≤ 1000) (hw0 : w ≠ 0) (hq : q ≤ 3) (hq0 : q ≠ 0) (hd : d ≤ 255) (h : w * d = 65521 * q) : False := by
  have h1 := List.all_eq_true.1 no_divs w (List.mem_range.2 (by omega))
  have h2 := List.all_eq_true.1 h1 q (List.mem_range.2 (by omega))
  have e1 : (65521 * q) % w = 0 := by rw [← h, Nat.mul_mod_right]
  have e2 : 65521 * q / w = d := by rw [← h, Nat.mul_div_cancel_left _ (by omega)]
  rw [e1, e2] at h2
  simp [hw0, hq0] at h2
  omega
theorem step_ne {w s v v' : Int} (hw0 : 1 ≤ w) (hw : w ≤ 1000) (hv0 : 0 ≤ v) (hv : v ≤ 255) (hv0' : 0 ≤ v') (hv' : v' ≤ 255) (hne : v ≠ v') : (s + w * v) % 65521 ≠ (s + w * v') % 65521 := by
  intro h
  obtain ⟨W, rfl⟩ := Int.eq_ofNat_of_zero_le (show 0 ≤ w by omega)
  have hmain : ∀ a b : Int, 0 ≤ a → 0 ≤ b → a ≤ 255 → b ≤ 255 → b < a → (s + W * a) % 65521 = (s + W * b) % 65521 → False := by
    intro a b ha hb ha' hb' hlt hh
    obtain ⟨d, hd⟩ := Int.eq_ofNat_of_zero_le (show 0 ≤ a - b by omega)
    have e : (W : Int) * a = W * b + W * d := by rw [← hd, Int.mul_sub]; omega
    rw [e] at hh
    have hb0 : (0 : Int) ≤ W * d := Int.mul_nonneg (by omega) (by omega)
    have hb1 : (W : Int) * d ≤ 1000 * 255 := Int.mul_le_mul (by omega) (by omega) (by omega) (by omega)
    have hpos : 0 < (W : Int) * d := Int.mul_pos (by omega) (by omega)
    obtain ⟨q, hq⟩ : ∃ q : Int, (W : Int) * d = 65521 * q := ⟨(s + (W * b + W * d)) / 65521 - (s + W * b) / 65521, by omega⟩
    obtain ⟨Q, rfl⟩ := Int.eq_ofNat_of_zero_le (show 0 ≤ q by omega)
    exact no_div (w := W) (q := Q) (d := d) (by omega) (by omega) (by omega) (by omega) (by omega) (by omega)
  rcases Int.lt_or_gt_of_ne hne with hl | hl
  · exact hmain v' v hv0' hv0 hv' hv hl h.symm
  · exact hmain v v' hv0 hv0' hv hv' hl h
theorem keep_ne {x y c : Int} (hx0 : 0 ≤ x) (hx : x ≤ 65520) (hy0 : 0 ≤ y) (hy : y ≤ 65520) (hne : x ≠ y) : (x + c) % 65521 ≠ (y + c) % 65521 := by omega

/-- another byte at a place, another sum -/
theorem sm_ne {l l' : List UInt8} {a : Nat} (ha : a < 1000) (hne : vl l a ≠ vl l' a) (hs : ∀ i, i ≠ a → vl l i = vl l' i) : ∀ k, a < k → sm l k ≠ sm l' k
  | 0, h => absurd h (by omega)
  | k + 1, h => by
    show (sm l k + ((k : Int) % 1000 + 1) * vl l k) % 65521 ≠ (sm l' k + ((k : Int) % 1000 + 1) * vl l' k) % 65521
    by_cases hk : k = a
    · subst hk
      rw [sm_same k (fun i hi => hs i (by omega))]
      exact step_ne (by omega) (by omega) (vl_lo _ _) (vl_hi _ _) (vl_lo _ _) (vl_hi _ _) hne
    · rw [hs k hk]
      exact keep_ne (sm_lo _ _) (sm_hi _ _) (sm_lo _ _) (sm_hi _ _) (sm_ne ha hne hs k (by omega))

theorem vl_set_same {l : List UInt8} {a : Nat} (h : a < l.length) (b : UInt8) : vl (l.set a b) a = (b.toNat : Int) := by
  unfold vl
  rw [List.getD_eq_getElem?_getD, List.getElem?_set_self h]
  rfl
theorem vl_set_other {l : List UInt8} {a i : Nat} (h : i ≠ a) (b : UInt8) : vl (l.set a b) i = vl l i := by
  unfold vl
  rw [List.getD_eq_getElem?_getD, List.getElem?_set_ne (fun e => h e.symm), List.getD_eq_getElem?_getD]
theorem smL_ne {l : List UInt8} (hl : l.length ≤ 1000) {a : Nat} (ha : a < l.length) {b : UInt8} (hb : (b.toNat : Int) ≠ vl l a) : smL (l.set a b) ≠ smL l := by
  unfold smL
  rw [List.length_set]
  exact fun h => sm_ne (l := l) (l' := l.set a b) (a := a) (by omega) (by rw [vl_set_same ha]; exact fun e => hb e.symm) (fun i hi => (vl_set_other hi b).symm) l.length ha h.symm

/-- a frame of which one byte is another one is none -/
theorem spoilt {l : List UInt8} (h : isF l = true) {a : Nat} (ha : a < l.length) {b : UInt8} (hb : (b.toNat : Int) ≠ vl l a) : isF (l.set a b) = false := by
  cases hi : isF (l.set a b) with
  | false => rfl
  | true =>
    exfalso
    have hl := isF_len h
    have hl' := isF_len hi
    have hlen : 10 ≤ l.length ∧ l.length ≤ 17 := by rcases lenOf_cases l with ⟨_, e⟩ | ⟨_, e⟩ <;> omega
    rw [isF_acc] at h hi
    unfold acc at h hi
    simp only [Bool.and_eq_true, decide_eq_true_eq, List.length_set] at h hi
    have h1 := h.1.2
    have h2 := hi.1.2
    have hsame : ∀ i, i ≠ a → vl l i = vl (l.set a b) i := fun i hi => (vl_set_other hi b).symm
    have hdiff : vl l a ≠ vl (l.set a b) a := by rw [vl_set_same ha]; exact fun e => hb e.symm
    by_cases hc : a < l.length - 2
    · refine sm_ne (l := l) (l' := l.set a b) (a := a) (by omega) hdiff hsame (l.length - 2) hc ?_
      rw [← h1, ← h2, hsame _ (by omega), hsame _ (by omega)]
    · have hs := sm_same (l := l) (l' := l.set a b) (l.length - 2) (fun i hi => hsame i (by omega))
      rw [← h1, ← h2] at hs
      have b0 := vl_lo l (l.length - 1)
      have b1 := vl_hi l (l.length - 1)
      have b2 := vl_lo (l.set a b) (l.length - 1)
      have b3 := vl_hi (l.set a b) (l.length - 1)
      have : a = l.length - 2 ∨ a = l.length - 1 := by omega
      rcases this with rfl | rfl
      · exact hdiff (by omega)
      · exact hdiff (by omega)

theorem lenOf_same {l l' : List UInt8} (h : vl l' 0 = vl l 0) : lenOf l' = lenOf l := by unfold lenOf; rw [h]
/-- no beginning of a frame is one -/
theorem short {l : List UInt8} (h : isF l = true) {i : Nat} (hi : i < l.length) : isF (l.take i) = false := by
  cases hc : isF (l.take i) with
  | false => rfl
  | true =>
    exfalso
    have h1 := isF_len h
    have h2 := isF_len hc
    rw [List.length_take, Nat.min_eq_left (by omega)] at h2
    have h0 : 0 < i := by rcases lenOf_cases (l.take i) with ⟨_, e⟩ | ⟨_, e⟩ <;> omega
    rw [lenOf_same (l := l) (l' := l.take i) (by unfold vl; rw [List.getD_eq_getElem?_getD, List.getElem?_take_of_lt h0, List.getD_eq_getElem?_getD])] at h2
    omega
/-- nor is a frame with a byte more -/
theorem long {l : List UInt8} (h : isF l = true) (b : UInt8) : isF (l ++ [b]) = false := by
  cases hc : isF (l ++ [b]) with
  | false => rfl
  | true =>
    exfalso
    have h1 := isF_len h
    have h2 := isF_len hc
    have h0 : 0 < l.length := by rcases lenOf_cases l with ⟨_, e⟩ | ⟨_, e⟩ <;> omega
    rw [lenOf_same (l := l) (l' := l ++ [b]) (by unfold vl; rw [List.getD_eq_getElem?_getD, List.getElem?_append_left h0, List.getD_eq_getElem?_getD])] at h2
    simp at h2
    omega
theorem unp_no {l : List UInt8} (h : isF l = false) : unp l = fr0 := by unfold unp; rw [h]; rfl
theorem unp_yes {l : List UInt8} (h : isF l = true) : unp l = psr l := by unfold unp; rw [h]; rfl
end Go.Proofs.YtgihbilpimempaaDoor.fr
