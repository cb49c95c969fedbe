/-
  The contract of the program's MixPeel.
-/
import Derived.Test.YtokajeomojlinaaUsable
import Derived.Test.YtokajeomojlinaaPeelP
namespace Go.Proofs.Ytokajeomojlinaa.ls
open Go.ChangeShapes Go.WideShapes Go.ChangeAt Go.RowKit
open Go.Proofs.Ytokajeomojlinaa.wd Go.Proofs.Ytokajeomojlinaa.cp Go.Proofs.Ytokajeomojlinaa.mp Go.Proofs.Ytokajeomojlinaa.mb Go.Proofs.Ytokajeomojlinaa.pp Go.Proofs.Ytokajeomojlinaa.ow Go.Proofs.Ytokajeomojlinaa.mk Go.Proofs.Ytokajeomojlinaa.pe Go.Proofs.Ytokajeomojlinaa.mi Go.Proofs.Ytokajeomojlinaa.ci Go.Proofs.Ytokajeomojlinaa.cs

/-- a block's text; empty as long as it is unknown -/
def tx (s : St) (i : Nat) : ByteArray := if s.K i then (s.D i).str else ⟨#[]⟩
def strs (n : Nat) (s : St) : List ByteArray := (List.range n).map (tx s)
theorem strs_len (n : Nat) (s : St) : (strs n s).length = n := by simp [strs]
/-- what MixPeel answers -/
noncomputable def peelL (b : Int) (l : List Mx) : List ByteArray := if 1 ≤ b ∧ b ≤ 6 then strs b.toNat (fin (pcs b l)) else []
theorem peelL_out {b : Int} (h : b < 1 ∨ 6 < b) (l : List Mx) : peelL b l = [] := if_neg (by omega)
theorem peelL_in {b : Nat} (h0 : 1 ≤ b) (h1 : b ≤ 6) (l : List Mx) : peelL b l = strs b (fin (pcs b l)) := by
  unfold peelL
  rw [if_pos (by omega), Int.toNat_natCast]
/-- the answer's cells, the first k filled in -/
def tcs (n : Nat) (s : St) (k : Nat) : Array Value := ((List.range n).map fun i => Value.string (if i < k then tx s i else ⟨#[]⟩)).toArray
theorem tcs_size (n : Nat) (s : St) (k : Nat) : (tcs n s k).size = n := by simp [tcs]
theorem tcs_at {n : Nat} (s : St) (k : Nat) {i : Nat} (h : i < n) : (tcs n s k)[i]? = some (.string (if i < k then tx s i else ⟨#[]⟩)) := by simp [tcs, h]
theorem tcs_ext {n : Nat} {s : St} {k k' : Nat} (h : ∀ i, i < n → (if i < k then tx s i else (⟨#[]⟩ : ByteArray)) = if i < k' then tx s i else ⟨#[]⟩) : tcs n s k = tcs n s k' := by
  unfold tcs
  congr 1
  apply List.map_congr_left
  intro i hi
  rw [h i (List.mem_range.mp hi)]
theorem tcs_set {n : Nat} (s : St) (k : Nat) : (tcs n s k).setIfInBounds k (.string (tx s k)) = tcs n s (k + 1) := by
  apply Array.ext
  · simp [tcs]
  · intro i h1 h2
    have hi : i < n := by simpa [tcs] using h2
    rw [Array.getElem_setIfInBounds (by simpa [tcs] using hi)]
    simp only [tcs, List.getElem_toArray, List.getElem_map, List.getElem_range]
    by_cases e : k = i
    · subst e; simp
    · rw [if_neg e]
      by_cases hk : i < k
      · rw [if_pos hk, if_pos (by omega)]
      · rw [if_neg hk, if_neg (by omega)]
theorem tcs_no {n : Nat} {s : St} {k : Nat} (hK : s.K k = false) : tcs n s k = tcs n s (k + 1) := tcs_ext fun i _ => by
  by_cases hk : i < k
  · rw [if_pos hk, if_pos (by omega)]
  · rw [if_neg hk]
    by_cases e : i = k
    · subst e
      rw [if_pos (by omega)]
      unfold tx; rw [hK]; rfl
    · rw [if_neg (by omega)]
theorem tcs_all (n : Nat) (s : St) : (tcs n s n).toList = (strs n s).map Value.string := by
  simp only [tcs, strs, List.map_map]
  apply List.map_congr_left
  intro i hi
  rw [if_pos (List.mem_range.mp hi)]
  rfl

theorem own_tcs {w0 w : World} {g n : Nat} {s : St} (hb : w0.heap.size ≤ g) (h : Blk w g 9 (tcs n s n)) (hn : n ≤ 6) (hB : Below w0.heap.size w0 w) : Own 9 w0 w (.slice (some ⟨g, 0, none⟩) n n) ((strs n s).map Value.string) := by
  have hl : ((strs n s).map Value.string).length = n := by simp [strs_len]
  refine ⟨?_, hB⟩
  rw [hl]
  refine ⟨by rw [hl]; omega, .inr ⟨g, n, tcs n s n, rfl, hb, h, Nat.le_refl _, by unfold maxLen; omega, by rw [tcs_size]; omega, ?_⟩⟩
  rw [Nat.mul_one, tcs_all, List.take_of_length_le (by rw [hl]; exact Nat.le_refl _)]

set_option maxRecDepth 100000 in
set_option maxHeartbeats 4000000 in
theorem ipeel_any (w : World) (b : Int) (v : Value) (l : List Mx) (h : SeesM w v l) (hl : l.length ≤ 1048576) :
    Calls Try.prog 27 #[.int .i64 b, v] w (OwnPost 9 w ((peelL b l).map Value.string)) := by
  by_cases hlo : b < 1
  · have HE := Lib.hid (peelL_out (.inl hlo) l)
    go_enter Try.func27, Try.ntmps27
    go_wp2
    go_ret
    exact ⟨_, rfl, by rw [HE.out]; exact Own.nil w⟩
  by_cases hhi : 6 < b
  · have HE := Lib.hid (peelL_out (.inr hhi) l)
    go_enter Try.func27, Try.ntmps27
    go_wp2
    go_ret
    exact ⟨_, rfl, by rw [HE.out]; exact Own.nil w⟩
  obtain ⟨n, rfl⟩ := Int.eq_ofNat_of_zero_le (show 0 ≤ b by omega)
  have hn0 : 1 ≤ n := by omega
  have hn1 : n ≤ 6 := by omega
  have HE := Lib.hid (peelL_in hn0 hn1 l)
  have hmk : ∀ (s : St) (wx : World), (Instr.makeSlice 24 (.int .i64 n) (.int .i64 n)).run Try.prog wx = .ok (.slice (some ⟨wx.heap.size, 0, none⟩) n n) (wx.alloc (.cells (tcs n s 0) 9)) := by
    rcases six hn0 hn1 with rfl | rfl | rfl | rfl | rfl | rfl <;> intro s wx <;> kernel_rfl
  have HMK := Lib.hid hmk
  clear hmk hlo hhi
  have hpl := pcs_len (n : Int) l
  go_enter Try.func27, Try.ntmps27
  go_wp2_with fail
  refine (usable_any w n (by omega) (by omega) v l h hl).mono ?_
  rintro e w1 ⟨v1, rfl, hO1⟩
  obtain ⟨hS1, hv1⟩ := sees_pieces hO1
  go_wp2_with fail
  refine (peel_any w1 (pcs n l) v1 hS1 hv1 (by omega)).mono ?_
  rintro e w2 ⟨s, qd, qu, rfl, hF, hB2⟩
  have HF := Lib.hid (fin_eq hF)
  have hBB : Below w.heap.size w w2 := hO1.2.trans (hB2.mono hO1.2.size)
  obtain ⟨A1, c1, rfl, _⟩ := hS1
  clear hF hv1 hO1 hB2
  generalize (pcs (n : Int) l).length = m1 at hpl
  go_wp2_with (refine wpList_store_blk rfl 83 (.tmp 5) (.tmp 17) rfl w2.heap.size (pl (.slice A1 m1 c1) s.K s.D qd qu) rfl rfl 83 (pl (.slice none 0 0) ini.K ini.D (fun _ => false) (fun _ => (0, 0))) ?b1 sizePl rfl (pl_one _ _ _ _ _ _ _) ?_)
  case b1 =>
    rw [pl_zero]
    exact Blk.new w2 _ _
  intro w3 hP3 hO3
  have hB3 : Below w.heap.size w w3 := (hBB.alloc hBB.size _).trans (hO3.1.mono hBB.size)
  have hz2 := hBB.size
  have hz3 := hP3.lt
  have hmk := HMK.out s w3
  have hR : Blk (w3.alloc (.cells (tcs n s 0) 9)) w3.heap.size 9 (tcs n s 0) ∧ Blk (w3.alloc (.cells (tcs n s 0) 9)) w2.heap.size 83 (pl (.slice A1 m1 c1) s.K s.D qd qu) ∧ Below w.heap.size w (w3.alloc (.cells (tcs n s 0) 9)) :=
    ⟨Blk.new w3 _ _, hP3.alloc _, hB3.alloc hB3.size _⟩
  have HR := Lib.hid hR
  clear hR hP3 hO3 hB3 hBB
  go_wp2
  go_loopw [22] (fun i wr => ∃ k : Nat, k ≤ n ∧ i = .int .i64 k ∧ Blk wr w3.heap.size 9 (tcs n s k) ∧ Blk wr w2.heap.size 83 (pl (.slice A1 m1 c1) s.K s.D qd qu) ∧ Below w.heap.size w wr) (fun i _ => (n + 1 : Nat) - (intOf i).toNat)
  case atStart => exact ⟨0, by omega, rfl, HR.out⟩
  case round =>
    obtain ⟨k, hk, rfl, hT, hP, hB⟩ := hrel
    clear HR hmk
    by_cases hkn : k < n
    · have hk6 : k < 6 := by omega
      have hki : (k : Int) < 6 := by omega
      have c1' := hP.cell 1
      rw [pl_1] at c1'
      cases hK : s.K k with
      | true =>
        have hh : ∀ W : World, Calls Try.prog 60 #[.int .u8 (msk s.K : Int), .int .i64 k] W fun e w'' => e = .returned (.bool true) ∧ W = w'' := fun W => (has_any s.K hk6 W).mono (fun _ _ ⟨a, b⟩ => ⟨by rw [a, hK], b⟩)
        have hrg := pl_range _ _ _ _ _ hP hk6
        have HX := Lib.hid (show (s.D k).str = tx s k by unfold tx; rw [hK]; rfl)
        have HP := Lib.hid hP
        have HT := Lib.hid hT
        have HB := Lib.hid hB
        clear hK hP hT hB
        go_wp2_with (first | (go_at_call 60; refine (hh _).mono ?_; rintro e w' ⟨rfl, rfl⟩) | (refine wpList_load_mid rfl 58 (.tmp 33) rfl w2.heap.size (2 + k * 4) rfl (s.D k).cells.toList _ hrg Try.underlying58 rfl sizeBlock ?_))
        refine (text_any _ _).mono ?_
        rintro e w4 ⟨rfl, hB4⟩
        rw [HX.out]
        have hT4 := HT.out.below hB4 HT.out.lt
        have t1 := hT4.cell k
        rw [tcs_at s k hkn] at t1
        have f1 := hT4.frozen k
        have R : Hid (Blk (w4.setCell ⟨w3.heap.size, k, none⟩ (.string (tx s k))) w3.heap.size 9 (tcs n s (k + 1)) ∧ Blk (w4.setCell ⟨w3.heap.size, k, none⟩ (.string (tx s k))) w2.heap.size 83 (pl (.slice A1 m1 c1) s.K s.D qd qu) ∧ Below w.heap.size w (w4.setCell ⟨w3.heap.size, k, none⟩ (.string (tx s k)))) := by
          refine ⟨?_, (HP.out.below hB4 HP.out.lt).far (p := ⟨w3.heap.size, k, none⟩) (by simp; omega) _, (HB.out.trans (hB4.mono HB.out.size)).setCell (p := ⟨w3.heap.size, k, none⟩) (by simp; omega) _⟩
          have := hT4.put k (.string (tx s k))
          rwa [tcs_set s k] at this
        clear hT4 hB4 hrg hh c1' HP HT HB
        go_wp2
        go_roundw
        case rel => exact ⟨k + 1, by omega, by go_num, R.out⟩
        case measure => simp [intOf]; omega
      | false =>
        have hh : ∀ W : World, Calls Try.prog 60 #[.int .u8 (msk s.K : Int), .int .i64 k] W fun e w'' => e = .returned (.bool false) ∧ W = w'' := fun W => (has_any s.K hk6 W).mono (fun _ _ ⟨a, b⟩ => ⟨by rw [a, hK], b⟩)
        have HT := Lib.hid (show Blk wr w3.heap.size 9 (tcs n s (k + 1)) by rw [← tcs_no hK]; exact hT)
        have HP := Lib.hid hP
        have HB := Lib.hid hB
        clear hK hP hT hB
        go_wp2_with ((go_at_call 60; refine (hh _).mono ?_; rintro e w' ⟨rfl, rfl⟩))
        go_roundw
        case rel => exact ⟨k + 1, by omega, by go_num, HT.out, HP.out, HB.out⟩
        case measure => simp [intOf]; omega
    · obtain rfl : k = n := by omega
      have HO := Lib.hid (own_tcs (by omega) hT hn1 hB)
      clear hT hP hB
      go_wp2
      go_ret
      exact ⟨_, rfl, by rw [HE.out, HF.out]; exact HO.out⟩
end Go.Proofs.Ytokajeomojlinaa.ls
