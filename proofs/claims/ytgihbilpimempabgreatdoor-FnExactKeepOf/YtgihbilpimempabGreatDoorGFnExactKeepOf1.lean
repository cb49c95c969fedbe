/-
  Merged texts: StrIn, StrIn2, MarkS, IStart, IOf.
-/
import Derived.Test.YtgihbilpimempabGreatDoorGFnExactKeepDo6
import Derived.Test.YtgihbilpimempabGreatDoorGFnExactKeepDo1
import Derived.Test.YtgihbilpimempabGreatDoorGFnExactKeepDo7
import Derived.Test.YtgihbilpimempabGreatDoorGFnExactKeepDo25
import Derived.Test.YtgihbilpimempabGreatDoorGFnExactKeepDo46
import Derived.Test.YtgihbilpimempabGreatDoorGFnExactKeepDo45
import Derived.SliceStrings
import Derived.Lib.Hide
import Derived.OwnWalk
/-
  A list of texts that came in, in our words; contracts of the laws' helpers over such lists: laws.szStringS, laws.toStringS.
-/
namespace Go.Proofs.YtgihbilpimempabGreatDoor.si
open Go.ChangeShapes Go.WideShapes Go.ChangeAt Go.RowKit
open Go.Proofs.YtgihbilpimempabGreatDoor.wd Go.Proofs.YtgihbilpimempabGreatDoor.cp Go.Proofs.YtgihbilpimempabGreatDoor.ow Go.Proofs.YtgihbilpimempabGreatDoor.sl

/-- a row of texts that can be read -/
def InS (w : World) (A : Option Addr) (l : List ByteArray) : Prop :=
  0 < l.length → ∃ g o, A = some ⟨g, o, none⟩ ∧ g < w.heap.size ∧ ∀ i x, l[i]? = some x → w.cell? ⟨g, o + i, none⟩ = some (.string x)
theorem InS.later {w w' : World} {A : Option Addr} {l : List ByteArray} (h : InS w A l) (hB : Below w.heap.size w w') : InS w' A l := fun hn => by
  obtain ⟨g, o, rfl, hg, hc⟩ := h hn
  exact ⟨g, o, rfl, Nat.lt_of_lt_of_le hg hB.size, fun i x hx => (hB.cell (p := ⟨g, o + i, none⟩) hg).trans (hc i x hx)⟩

theorem cells_str : Tryz.prog.cellsOf 9 = 1 := by kernel_rfl
section
variable {H : Type} {enc : TypeId × Value → H} {w : World} {base : Nat} {spare : Nat → Bool} {held : Bool}
theorem ins_in {A : Option Addr} {len cap : Nat} {d : DataW H} {p : List MemPlace} (h : DataW.Trod enc Tryz.prog w base spare held 23 (.slice A len cap) d p) :
    ∃ l : List ByteArray, InS w A l ∧ l.length = len ∧ (∀ x ∈ l, x.size ≤ maxLen) ∧ len ≤ maxLen := by
  obtain ⟨fuel, hf⟩ := h
  rcases open_strings Tryz.underlying23 Tryz.underlying9 cells_str hf with ⟨hcs, _⟩ | ⟨a, len', cap', ss, hcs, _, hl, hm, hlen, _, hcell, hsz⟩
  · simp [Value.cells] at hcs
    obtain ⟨rfl, rfl, rfl⟩ := hcs
    exact ⟨[], fun h => absurd h (by simp), rfl, fun x hx => by simp at hx, by unfold maxLen; omega⟩
  · simp [Value.cells] at hcs
    obtain ⟨rfl, rfl, rfl⟩ := hcs
    have hle : len ≤ ss.length := by rw [hlen]; split <;> omega
    refine ⟨ss.take len, fun hn => ?_, by rw [List.length_take]; omega, fun x hx => hsz x (List.mem_of_mem_take hx), by omega⟩
    rw [List.length_take] at hn
    obtain ⟨g, o, spot⟩ := a
    have h0 := hcell 0 (by omega)
    have hspot : spot = none := by simpa [Addr.add] using World.cell?_spot h0
    subst hspot
    have e : ∀ j, (⟨g, o, none⟩ : Addr).add j = ⟨g, o + j, none⟩ := fun j => by unfold Addr.add; split <;> simp_all
    refine ⟨g, o, rfl, ?_, fun i x hx => ?_⟩
    · rcases Nat.lt_or_ge g w.heap.size with hlt | hge
      · exact hlt
      · rw [e] at h0
        simp [World.cell?, Array.getElem?_eq_none hge] at h0
    · have hi : i < len := by
        have := (List.getElem?_eq_some_iff.1 hx).1
        rw [List.length_take] at this
        omega
      rw [List.getElem?_take_of_lt hi] at hx
      have := hcell i (by omega)
      rw [e] at this
      rw [this, List.getD_eq_getElem?_getD, hx]
      rfl
end

/-- what is left of a bound behind a list's length and its texts' -/
def sum (l : List ByteArray) : Nat := (l.map fun x => x.size).sum
theorem sum_take {l : List ByteArray} {k : Nat} (h : k < l.length) : sum (l.take (k + 1)) = sum (l.take k) + l[k].size := by
  unfold sum
  rw [List.take_succ_eq_append_getElem h, List.map_append, List.sum_append]
  simp
theorem sum_le (l : List ByteArray) (k : Nat) : sum (l.take k) ≤ sum l := by
  have e : sum l = sum (l.take k) + sum (l.drop k) := by
    unfold sum
    rw [← List.sum_append, ← List.map_append, List.take_append_drop]
  omega
/-- it fits, or -1 -/
def SzPost (w : World) (b : Int) (l : List ByteArray) (e : Ending) (w' : World) : Prop := ((l.length + sum l : Nat) : Int) ≤ b ∧ e = .returned (.int .i64 (b - (l.length + sum l : Nat))) ∧ w = w' ∨ b < ((l.length + sum l : Nat) : Int) ∧ e = .returned (.int .i64 (-1)) ∧ w = w'

set_option maxRecDepth 100000 in
set_option maxHeartbeats 1000000 in
theorem sz_any (A : Option Addr) (c : Nat) (l : List ByteArray) (w : World) (h : InS w A l) (hm : l.length ≤ maxLen) (hz : ∀ x ∈ l, x.size ≤ maxLen) (b : Int) (b0 : 0 ≤ b) (b1 : b ≤ 1048576) :
    Calls Tryz.prog 19 #[.slice A l.length c, .int .i64 b] w (SzPost w b l) := by
  unfold maxLen at hm
  by_cases hb : b - (l.length : Int) < 0
  · have R : Hid (b < ((l.length + sum l : Nat) : Int)) := by show _ < _; omega
    go_enter Tryz.func19, Tryz.ntmps19
    go_wp2
    go_ret
    exact .inr ⟨R.out, rfl, rfl⟩
  · go_enter Tryz.func19, Tryz.ntmps19
    go_wp2
    go_loop [1, 5] (fun a i => ∃ k : Nat, k ≤ l.length ∧ i = .int .i64 k ∧ a = .int .i64 (b - l.length - (sum (l.take k) : Nat)) ∧ ((l.length + sum (l.take k) : Nat) : Int) ≤ b) (fun _ i => (l.length + 1 : Nat) - (intOf i).toNat)
    case atStart => exact ⟨0, by omega, rfl, by simp [sum], by simp [sum]; omega⟩
    case round =>
      obtain ⟨k, hk, rfl, rfl, hle⟩ := hrel
      by_cases hkl : k < l.length
      · obtain ⟨g, o, rfl, hg, hc⟩ := h (by omega)
        have e1 := hc k l[k] (List.getElem?_eq_getElem hkl)
        have HT := Lib.hid (sum_take hkl)
        have hxz := hz l[k] (List.getElem_mem hkl)
        unfold maxLen at hxz
        have HL := Lib.hid (sum_le l (k + 1))
        generalize l[k] = x at *
        generalize sum (l.take k) = t at *
        have hk0 : (0 : Int) ≤ (k : Int) := by omega
        have hk1 : (k : Int) < (l.length : Int) := by omega
        by_cases hneg : b - (l.length : Int) - (t : Nat) - (x.size : Nat) < 0
        · have R : Hid (b < ((l.length + sum l : Nat) : Int)) := by
            show _ < _
            have := HL.out
            rw [HT.out] at this
            omega
          clear hc h hz HT HL
          go_wp2
          go_ret
          exact .inr ⟨R.out, rfl, rfl⟩
        · have R : Hid (((l.length + sum (l.take (k + 1)) : Nat) : Int) ≤ b) := by
            show _ ≤ _
            rw [HT.out]
            omega
          have R2 : Hid (b - (l.length : Int) - (t : Nat) - (x.size : Nat) = b - l.length - (sum (l.take (k + 1)) : Nat)) := by
            show _ = _
            rw [HT.out]
            omega
          clear hc h hz HT HL
          go_wp2
          go_round
          case rel => exact ⟨k + 1, by omega, by go_num, by rw [← R2.out], R.out⟩
          case measure => simp [intOf]; omega
      · have hke : l.take k = l := List.take_of_length_le (by omega)
        rw [hke] at hle ⊢
        have R : Hid (b - (l.length : Int) - (sum l : Nat) = b - ((l.length + sum l : Nat) : Int)) := by show _ = _; omega
        have HL := Lib.hid hle
        clear hle hke
        go_wp2
        go_ret
        exact .inl ⟨HL.out, by rw [← R.out]; rfl, rfl⟩
end Go.Proofs.YtgihbilpimempabGreatDoor.si

/-
  Contract of laws.toStringS: a copy of a list of texts, the call's own.
-/
namespace Go.Proofs.YtgihbilpimempabGreatDoor.si
open Go.ChangeShapes Go.WideShapes Go.ChangeAt Go.RowKit
open Go.Proofs.YtgihbilpimempabGreatDoor.wd Go.Proofs.YtgihbilpimempabGreatDoor.cp Go.Proofs.YtgihbilpimempabGreatDoor.ow Go.Proofs.YtgihbilpimempabGreatDoor.sl

/-- the first k texts lie in block g, which has room for n -/
def Fill (g n : Nat) (l : List ByteArray) (k : Nat) (w : World) : Prop :=
  ∃ cur, Blk w g 9 cur ∧ cur.size = n ∧ ∀ i x, i < k → l[i]? = some x → cur[i]? = some (.string x)
theorem Fill.put {g n : Nat} {l : List ByteArray} {k : Nat} {w : World} (h : Fill g n l k w) (hk : k < n) {x : ByteArray} (hx : l[k]? = some x) : Fill g n l (k + 1) (w.setCell ⟨g, k, none⟩ (.string x)) := by
  obtain ⟨cur, h1, h2, h3⟩ := h
  refine ⟨_, h1.put _ _, by simpa using h2, fun i y hi hy => ?_⟩
  rw [Array.getElem?_setIfInBounds]
  by_cases e : i = k
  · subst e
    rw [hx] at hy
    injection hy with hy
    subst hy
    simp
    omega
  · rw [if_neg (fun h => e h.symm)]; exact h3 i y (by omega) hy
theorem Fill.cells {g n : Nat} {l : List ByteArray} {k : Nat} {w : World} (h : Fill g n l k w) (hk : k < n) : (∃ x, w.cell? ⟨g, k, none⟩ = some x) ∧ w.frozen? ⟨g, k, none⟩ = false := by
  obtain ⟨cur, h1, h2, h3⟩ := h
  exact ⟨⟨cur[k]'(by omega), by rw [h1.cell]; exact Array.getElem?_eq_getElem (by omega)⟩, h1.frozen _⟩
theorem Fill.own {g : Nat} {l : List ByteArray} {w0 w : World} (h : Fill g l.length l l.length w) (hg : w0.heap.size ≤ g) (hB : Below w0.heap.size w0 w) (hl : l.length ≤ maxLen) : Own 9 w0 w (.slice (some ⟨g, 0, none⟩) l.length l.length) (l.map Value.string) := by
  obtain ⟨cur, h1, h2, h3⟩ := h
  have hf : cur.toList = l.map Value.string := by
    apply List.ext_getElem?
    intro i
    by_cases hi : i < l.length
    · rw [List.getElem?_map, List.getElem?_eq_getElem hi, Option.map_some, Array.getElem?_toList]
      exact h3 i _ hi (List.getElem?_eq_getElem hi)
    · rw [List.getElem?_eq_none (by simp; omega), List.getElem?_eq_none (by simp; omega)]
  refine ⟨⟨by simp, .inr ⟨g, l.length, cur, by simp, hg, h1, by simp, hl, by omega, ?_⟩⟩, hB⟩
  rw [hf, List.take_of_length_le (by simp)]

def CopyPost (w : World) (l : List ByteArray) (e : Ending) (w' : World) : Prop := ∃ v, e = .returned v ∧ Own 9 w w' v (l.map Value.string)

set_option maxRecDepth 100000 in
set_option maxHeartbeats 1600000 in
theorem copy_any (w : World) (A : Option Addr) (c : Nat) (l : List ByteArray) (h : InS w A l) (hl : l.length ≤ 1048576) : Calls Tryz.prog 20 #[.slice A l.length c] w (CopyPost w l) := by
  obtain ⟨i0, hi, hz0, hz1, hz2⟩ := info_parts infoStr
  have HS := Lib.hid h
  clear h
  go_enter Tryz.func20, Tryz.ntmps20
  go_wp2_with (at_make; refine wpList_make_full _ rfl _ _ 23 rfl w.heap.size 9 i0 _ 1 Tryz.underlying23 hi hz0 hz1 _ _ _ _ l.length rfl rfl rfl rfl (by rw [hz2]; omega) (by unfold maxLen; omega) (Nat.le_refl _) ?_)
  intro w1 hown hgrow
  have hF : Fill w.heap.size l.length l 0 w1 ∧ Below w.heap.size w w1 := by
    refine ⟨?_, hgrow.os, hgrow.tape, hgrow.output, hgrow.size, fun k hk => hgrow.block k hk (by simp)⟩
    rcases hown.2 with ⟨e, _⟩ | ⟨g, cap, cur, e, _, hh, _, _, hs, _⟩
    · cases e
    · injection e with e1 e2 e3
      injection e1 with e1
      injection e1 with e1
      subst e1
      exact ⟨cur, hh, by omega, fun i m hi => absurd hi (by omega)⟩
  have HF := Lib.hid hF
  clear hF hown hgrow
  go_wp2
  go_loopw [4] (fun i wr => ∃ k : Nat, k ≤ l.length ∧ i = .int .i64 k ∧ Fill w.heap.size l.length l k wr ∧ Below w.heap.size w wr) (fun i _ => (l.length + 1 : Nat) - (intOf i).toNat)
  case atStart => exact ⟨0, by omega, rfl, HF.out⟩
  case round =>
    obtain ⟨k, hk, rfl, hF, hB⟩ := hrel
    clear HF
    by_cases hkl : k < l.length
    · have hx : l[k]? = some l[k] := List.getElem?_eq_getElem hkl
      obtain ⟨g, o, rfl, hg, hcell⟩ := HS.out.later hB (by omega)
      have t0 := hcell k _ hx
      generalize l[k] = x at hx t0
      have hk1 : (k : Int) < (l.length : Int) := by omega
      obtain ⟨⟨x0, c0⟩, f0⟩ := hF.cells hkl
      have R := Lib.hid (hF.put hkl hx)
      have HB3 : Hid (Below w.heap.size w (wr.setCell ⟨w.heap.size, k, none⟩ (.string x))) := hB.setCell (p := ⟨w.heap.size, k, none⟩) (Nat.le_refl _) _
      clear hF hB hx hcell
      go_wp2
      go_roundw
      case rel => exact ⟨k + 1, by omega, by go_num, R.out, HB3.out⟩
      case measure => simp [intOf]; omega
    · obtain rfl : k = l.length := by omega
      have R := Lib.hid (hF.own (Nat.le_refl _) hB (by unfold maxLen; omega))
      clear hF hB
      go_wp2
      go_ret
      exact ⟨_, rfl, R.out⟩
end Go.Proofs.YtgihbilpimempabGreatDoor.si

/-
  Contract of laws.markStringS at lists as long as the laws let through; the length of one text.
-/
namespace Go.Proofs.YtgihbilpimempabGreatDoor.sl
open Go.ChangeShapes Go.WideShapes Go.ChangeAt Go.RowKit
open Go.Proofs.YtgihbilpimempabGreatDoor.wd Go.Proofs.YtgihbilpimempabGreatDoor.cp Go.Proofs.YtgihbilpimempabGreatDoor.ow

set_option maxRecDepth 100000 in
set_option maxHeartbeats 400000 in
theorem mark_big {w0 w : World} {v : Value} {xs : List Value} (h : Own 9 w0 w v xs) (k : Nat) (hn : xs.length ≤ 1048576) (k0 : 1 ≤ k) (k1 : k ≤ 1000) :
    Calls Tryz.prog 22 #[v, .int .i64 k] w (MarkPost w v k xs.length) := by
  generalize hN : xs.length = n at hn ⊢
  rcases h.1.2 with ⟨rfl, h0⟩ | ⟨g, cap, cur, rfl, hb, hh, hnc, hm, hs, ht⟩
  · obtain rfl : n = 0 := by omega
    clear h h0
    go_enter Tryz.func22, Tryz.ntmps22
    go_wp2
    go_loop [1, 5] (fun a i => i = .int .i64 0 ∧ a = .int .i64 k) (fun _ _ => 0)
    case atStart => exact ⟨rfl, rfl⟩
    case round =>
      obtain ⟨rfl, rfl⟩ := hrel
      go_wp2
      go_ret
      exact ⟨by simp, ⟨none, 0, rfl, fun h => absurd h (by simp [mts])⟩, Touched.refl _ _⟩
  · rw [hN] at hnc ⊢
    have hR : MRel w g n cap k 0 w := ⟨⟨cur, hh, by omega, fun j hj => absurd hj (by omega)⟩, Touched.refl _ _⟩
    clear h ht hh hs hb hN
    have hm' : cap ≤ 9223372036854775807 := hm
    clear hm
    go_enter Tryz.func22, Tryz.ntmps22
    go_wp2
    go_loopw [1, 5] (fun a i wr => ∃ j : Nat, j ≤ n ∧ i = .int .i64 j ∧ a = .int .i64 ((k + j : Nat) : Int) ∧ MRel w g n cap k j wr) (fun _ i _ => (n + 1 : Nat) - (intOf i).toNat)
    case atStart => exact ⟨0, by omega, rfl, by go_num, hR⟩
    case round =>
      obtain ⟨j, hj, rfl, rfl, hM⟩ := hrel
      clear hR
      by_cases hjn : j < n
      · have HM := Lib.hid hM
        go_wp2_with fail
        refine (mark_text (k + j) (by omega) (by omega) _).mono ?_
        rintro e w2 ⟨rfl, hB2⟩
        have R := Lib.hid (mrel_on HM.out (by omega) hB2)
        obtain ⟨⟨cur', hB, hs, hc⟩, hT⟩ := HM.out
        have hB' := hB.below hB2 hB.lt
        have fj := hB'.frozen j
        obtain ⟨x, hx⟩ : ∃ x, w2.cell? ⟨g, j, none⟩ = some x := ⟨cur'[j]'(by omega), by rw [hB'.cell j]; exact Array.getElem?_eq_getElem (by omega)⟩
        clear hB hs hc hT hM HM hB' hB2
        go_wp2
        go_roundw
        case rel => exact ⟨j + 1, by omega, by go_num, by go_num, R.out⟩
        case measure => simp [intOf]; omega
      · obtain rfl : j = n := by omega
        obtain ⟨⟨cur', hB, hs, hc⟩, t⟩ := hM
        have P : Hid (SeesS wr (.slice (some ⟨g, 0, none⟩) j cap) (mts k j)) :=
          ⟨_, cap, by rw [mts_len], fun _ => ⟨g, rfl, hB.lt, fun i x hx => by
            have hi : i < j := by have := (List.getElem?_eq_some_iff.1 hx).1; rwa [mts_len] at this
            rw [mts_at hi] at hx
            rw [hB.cell i, hc i hi]
            injection hx with hx
            rw [hx]⟩⟩
        have T := Lib.hid t
        clear hB hs hc t
        go_wp2
        go_ret
        exact ⟨rfl, P.out, T.out⟩

theorem size_sum {l : List ByteArray} {x : ByteArray} (h : x ∈ l) : x.size ≤ (l.map fun x => x.size).sum := by
  induction l with
  | nil => cases h
  | cons y l ih =>
    rw [List.map_cons, List.sum_cons]
    rcases List.mem_cons.1 h with rfl | h
    · omega
    · have := ih h; omega
end Go.Proofs.YtgihbilpimempabGreatDoor.sl

/-
  Contract of impl.KeepStart.
-/
namespace Go.Proofs.YtgihbilpimempabGreatDoor.kp
open Go.ChangeShapes Go.WideShapes Go.ChangeAt Go.RowKit
open Go.Proofs.YtgihbilpimempabGreatDoor.wd Go.Proofs.YtgihbilpimempabGreatDoor.ow Go.Proofs.YtgihbilpimempabGreatDoor.rl Go.Proofs.YtgihbilpimempabGreatDoor.ok Go.Proofs.YtgihbilpimempabGreatDoor.nb Go.Proofs.YtgihbilpimempabGreatDoor.li

set_option maxRecDepth 100000 in
theorem istart_any (id : Int) (w : World) : Calls Tryz.prog 11 #[.int .i64 id] w (KeepPost w (startK id)) := by
  have H1 := Lib.hid (fun V => outside_any id 0 3 V)
  have k0 := Blk.new w 29 #[.int .i64 0, .int .i64 0, .int .i64 0, .slice none 0 0, .slice none 0 0, .slice none 0 0]
  have B0 := (Below.refl w.heap.size w).alloc (Nat.le_refl _) (.cells #[.int .i64 0, .int .i64 0, .int .i64 0, .slice none 0 0, .slice none 0 0, .slice none 0 0] 29)
  cases hb : inB id 0 3 with
  | false =>
    have HE := Lib.hid (show startK id = zeroK by unfold startK; rw [hb]; rfl)
    rw [hb] at H1
    go_enter Tryz.func11, Tryz.ntmps11
    go_wp2_with fail
    generalize w.alloc (.cells #[.int .i64 0, .int .i64 0, .int .i64 0, .slice none 0 0, .slice none 0 0, .slice none 0 0] 29) = V at k0 B0 ⊢
    refine (limited_any _ _).mono ?_
    rintro e w1 ⟨rfl, b1⟩
    have k1 := k0.below b1 k0.lt
    have B1 := B0.trans (b1.mono B0.size)
    clear k0 B0 b1
    go_wp2_with fail
    refine (H1.out _).mono ?_
    rintro e w2 ⟨rfl, b2⟩
    have k2 := k1.below b2 k1.lt
    have B2 := B1.trans (b2.mono B1.size)
    obtain ⟨r0, r1, r2, r3, r4, r5, f0, f1, f2, f3, f4, f5⟩ := res_cells k2
    have HC := Lib.hid (put6_blk (a' := .int .i64 0) (b' := .int .i64 0) (c' := .int .i64 0) (d' := .slice none 0 0) (e' := .slice none 0 0) (f' := .slice none 0 0) k2)
    have HD := Lib.hid (put6_below (B := w.heap.size) (R := w.heap.size) (Nat.le_refl _) B2 (.int .i64 0) (.int .i64 0) (.int .i64 0) (.slice none 0 0) (.slice none 0 0) (.slice none 0 0))
    clear k1 B1 b2 k2 B2
    go_wp2
    have x0 := HC.out.cell 0
    have x1 := HC.out.cell 1
    have x2 := HC.out.cell 2
    have x3 := HC.out.cell 3
    have x4 := HC.out.cell 4
    have x5 := HC.out.cell 5
    refine bodyPost_ret (v := kpV 0 0 0 (.slice none 0 0) (.slice none 0 0) (.slice none 0 0)) (by simp [results, Tryz.results11, go_sem, x0, x1, x2, x3, x4, x5]) rfl ⟨_, _, _, by rw [HE.out] <;> rfl, ?_⟩
    rw [HE.out]
    exact nil_own HD.out rfl rfl rfl
  | true =>
    have HE := Lib.hid (show startK id = ⟨id, 0, 1, [], [], []⟩ by unfold startK; rw [hb]; rfl)
    rw [hb] at H1
    go_enter Tryz.func11, Tryz.ntmps11
    go_wp2_with fail
    generalize w.alloc (.cells #[.int .i64 0, .int .i64 0, .int .i64 0, .slice none 0 0, .slice none 0 0, .slice none 0 0] 29) = V at k0 B0 ⊢
    refine (limited_any _ _).mono ?_
    rintro e w1 ⟨rfl, b1⟩
    have k1 := k0.below b1 k0.lt
    have B1 := B0.trans (b1.mono B0.size)
    clear k0 B0 b1
    go_wp2_with fail
    refine (H1.out _).mono ?_
    rintro e w2 ⟨rfl, b2⟩
    have k2 := k1.below b2 k1.lt
    have B2 := B1.trans (b2.mono B1.size)
    obtain ⟨r0, r1, r2, r3, r4, r5, f0, f1, f2, f3, f4, f5⟩ := res_cells k2
    have HC := Lib.hid (put6_blk (a' := .int .i64 id) (b' := .int .i64 0) (c' := .int .i64 1) (d' := .slice none 0 0) (e' := .slice none 0 0) (f' := .slice none 0 0) k2)
    have HD := Lib.hid (put6_below (B := w.heap.size) (R := w.heap.size) (Nat.le_refl _) B2 (.int .i64 id) (.int .i64 0) (.int .i64 1) (.slice none 0 0) (.slice none 0 0) (.slice none 0 0))
    clear k1 B1 b2 k2 B2
    go_wp2
    have x0 := HC.out.cell 0
    have x1 := HC.out.cell 1
    have x2 := HC.out.cell 2
    have x3 := HC.out.cell 3
    have x4 := HC.out.cell 4
    have x5 := HC.out.cell 5
    refine bodyPost_ret (v := kpV id 0 1 (.slice none 0 0) (.slice none 0 0) (.slice none 0 0)) (by simp [results, Tryz.results11, go_sem, x0, x1, x2, x3, x4, x5]) rfl ⟨_, _, _, by rw [HE.out] <;> rfl, ?_⟩
    rw [HE.out]
    exact nil_own HD.out rfl rfl rfl
end Go.Proofs.YtgihbilpimempabGreatDoor.kp

/-
  Contract of impl.KeepOf.
-/
namespace Go.Proofs.YtgihbilpimempabGreatDoor.kp
open Go.ChangeShapes Go.WideShapes Go.ChangeAt Go.RowKit
open Go.Proofs.YtgihbilpimempabGreatDoor.wd Go.Proofs.YtgihbilpimempabGreatDoor.ow Go.Proofs.YtgihbilpimempabGreatDoor.rl Go.Proofs.YtgihbilpimempabGreatDoor.ok Go.Proofs.YtgihbilpimempabGreatDoor.nb Go.Proofs.YtgihbilpimempabGreatDoor.nx Go.Proofs.YtgihbilpimempabGreatDoor.dc

/-- what KeepOf gives back -/
def OfPost (w : World) (id : Int) (ls : List (List UInt8)) (e : Ending) (w' : World) : Prop :=
  ∃ (k' : Kp) (b : Bool) (vh vm vi : Value), e = .returned (.tuple #[kpV k'.id k'.time k'.next vh vm vi, .bool b]) ∧ OfK id ls k' b ∧ Sz 14 k' ∧ OwnK w w' k' vh vm vi
theorem startK_ok (id : Int) : okK (startK id) = inB id 0 3 := by
  unfold startK
  cases hb : inB id 0 3 with
  | true => rw [if_pos rfl]; unfold okK; simp [hb]; decide
  | false => rw [if_neg (by simp)]; decide
theorem startK_sz (id : Int) : Sz 14 (startK id) := by
  obtain ⟨h1, h2, h3⟩ := start_few id
  refine ⟨by omega, by omega, by omega, fun x hx => ?_, fun x hx => ?_⟩
  · rw [List.eq_nil_of_length_eq_zero h1] at hx; cases hx
  · rw [List.eq_nil_of_length_eq_zero h3] at hx; cases hx
theorem zero_sz : Sz 14 zeroK := ⟨Nat.zero_le _, Nat.zero_le _, Nat.zero_le _, (fun _ h => by cases h), (fun _ h => by cases h)⟩
/-- the texts of a list of strings -/
def txs (l : List ByteArray) : List (List UInt8) := l.map fun x => x.data.toList
theorem txs_at {l : List ByteArray} {i : Nat} {x : ByteArray} (h : l[i]? = some x) : (txs l)[i]? = some x.data.toList := by unfold txs; rw [List.getElem?_map, h]; rfl
theorem sees_one {w : World} {v : Value} {l : List ByteArray} (h : sl.SeesS w v l) {i : Nat} {x : ByteArray} (hx : l[i]? = some x) : ∃ g c, v = .slice (some ⟨g, 0, none⟩) l.length c ∧ w.cell? ⟨g, i, none⟩ = some (.string x) := by
  obtain ⟨A, c, rfl, hc⟩ := h
  obtain ⟨g, rfl, _, hcell⟩ := hc (by have := (List.getElem?_eq_some_iff.1 hx).1; omega)
  exact ⟨g, c, rfl, hcell i x hx⟩

set_option maxRecDepth 100000 in
set_option maxHeartbeats 4000000 in
theorem ikeepOf_any (w : World) (id : Int) (v : Value) (l : List ByteArray) (h : sl.SeesS w v l) (hl : l.length ≤ 1048576) (hz : ∀ x ∈ l, x.size ≤ 1048576) (hTab : Tab w) (hErr : Errs w) :
    Calls Tryz.prog 8 #[.int .i64 id, v] w (OfPost w id (txs l)) := by
  have hR := Blk.new w 29 #[.int .i64 0, .int .i64 0, .int .i64 0, .slice none 0 0, .slice none 0 0, .slice none 0 0]
  have hB0 := (Below.refl w.heap.size w).alloc (Nat.le_refl _) (.cells #[.int .i64 0, .int .i64 0, .int .i64 0, .slice none 0 0, .slice none 0 0, .slice none 0 0] 29)
  have HI := Lib.hid (fun V => istart_any id V)
  unfold KeepPost at HI
  have HOk := Lib.hid (startK_ok id)
  have HSz := Lib.hid (startK_sz id)
  have HS := Lib.hid h
  obtain ⟨A, c0, rfl, _⟩ := h
  have HOf := Lib.hid (fun k' b (h : OfK id (txs l) k' b) => h)
  have HF := Lib.hid (fun (hi : okK (startK id) = false) => show OfK id (txs l) zeroK false from .inr ⟨rfl, rfl, .inl (by rw [← startK_ok]; exact hi)⟩)
  have HT := Lib.hid (fun k' (hi : okK (startK id) = true) (hr : Runs (startK id) (txs l) k') => show OfK id (txs l) k' true from .inl ⟨by rw [← startK_ok]; exact hi, rfl, hr⟩)
  have HN := Lib.hid (fun (hi : okK (startK id) = true) (hr : Stops (startK id) (txs l)) => show OfK id (txs l) zeroK false from .inr ⟨rfl, rfl, .inr ⟨by rw [← startK_ok]; exact hi, hr⟩⟩)
  generalize startK id = k0 at HI HOk HSz HF HT HN
  clear HOf
  go_enter Tryz.func8, Tryz.ntmps8
  go_upto_region 1 with (fail)
  have hVs : (w.alloc (.cells #[.int .i64 0, .int .i64 0, .int .i64 0, .slice none 0 0, .slice none 0 0, .slice none 0 0] 29)).heap.size = w.heap.size + 1 := by simp
  generalize w.alloc (.cells #[.int .i64 0, .int .i64 0, .int .i64 0, .slice none 0 0, .slice none 0 0, .slice none 0 0] 29) = V at hR hB0 hVs ⊢
  go_wp2_with fail
  refine (HI.out V).mono ?_
  rintro e w1 ⟨a1, b1, c1, rfl, o1⟩
  obtain ⟨A1, s1, rfl⟩ := OwnR.form o1.held
  obtain ⟨M1, t1, rfl⟩ := OwnR.form o1.marks
  obtain ⟨I1, u1, rfl⟩ := OwnR.form o1.inbox
  have hM := o1.toMK
  have B1 := (Below.refl w1.heap.size w1).alloc (Nat.le_refl _) (.cells #[.int .i64 k0.id, .int .i64 k0.time, .int .i64 k0.next, (.slice A1 k0.held.length s1), (.slice M1 k0.marks.length t1), (.slice I1 k0.inbox.length u1)] 29)
  have HV := Lib.hid (o1.bel.trans (B1.mono o1.bel.size))
  have HM := Lib.hid hM
  clear o1 hM B1
  go_upto_region 2 with (fail)
  generalize w1.alloc (.cells #[.int .i64 k0.id, .int .i64 k0.time, .int .i64 k0.next, (.slice A1 k0.held.length s1), (.slice M1 k0.marks.length t1), (.slice I1 k0.inbox.length u1)] 29) = V1 at HV HM ⊢
  generalize w1.heap.size = g at HM ⊢
  have HO := Lib.hid (ikeepOk_any V1 k0 _ _ _ HM.out.sees (HSz.out.few (by omega)) HSz.out.texts)
  unfold BoolK at HO
  obtain ⟨p0, p1, p2, p3, p4, p5⟩ := KBox.cells HM.out.box
  have HR := Lib.hid hR
  have HB0 := Lib.hid hB0
  have HVs := Lib.hid hVs
  clear hR hB0 hVs HI HOk
  cases hok : okK k0 with
  | false =>
    have HP := Lib.hid (HF.out hok)
    rw [hok] at HO
    clear hok HF HT HN
    go_wp2_with fail
    refine HO.out.mono ?_
    rintro e w2 ⟨rfl, hB2⟩
    have z := HR.out.below (HV.out.trans (hB2.mono HV.out.size)) HR.out.lt
    have HB2 := Lib.hid (HB0.out.trans ((HV.out.trans (hB2.mono HV.out.size)).mono HB0.out.size))
    obtain ⟨r0, r1, r2, r3, r4, r5, f0, f1, f2, f3, f4, f5⟩ := res_cells z
    have HC := Lib.hid (put6_blk (V := w2) (a' := .int .i64 0) (b' := .int .i64 0) (c' := .int .i64 0) (d' := .slice none 0 0) (e' := .slice none 0 0) (f' := .slice none 0 0) z)
    have HD := Lib.hid (put6_below (V := w2) (B := w.heap.size) (R := w.heap.size) (Nat.le_refl _) HB2.out (.int .i64 0) (.int .i64 0) (.int .i64 0) (.slice none 0 0) (.slice none 0 0) (.slice none 0 0))
    clear z hB2 p0 p1 p2 p3 p4 p5 HM HV HO
    go_wp2
    have x0 := HC.out.cell 0
    have x1 := HC.out.cell 1
    have x2 := HC.out.cell 2
    have x3 := HC.out.cell 3
    have x4 := HC.out.cell 4
    have x5 := HC.out.cell 5
    refine bodyPost_ret (v := .tuple #[kpV 0 0 0 (.slice none 0 0) (.slice none 0 0) (.slice none 0 0), .bool false]) (by simp [results, Tryz.results8, go_sem, x0, x1, x2, x3, x4, x5]) rfl ⟨zeroK, false, _, _, _, rfl, HP.out, zero_sz, nil_own HD.out rfl rfl rfl⟩
  | true =>
    have HOK := Lib.hid hok
    rw [hok] at HO
    clear hok HF
    go_wp2_with fail
    refine HO.out.mono ?_
    rintro e w2 ⟨rfl, hB2⟩
    have HM2 := Lib.hid (HM.out.later hB2)
    have HV2 := Lib.hid (HV.out.trans (hB2.mono HV.out.size))
    clear hB2 p0 p1 p2 p3 p4 p5 HM HV HO
    go_wp2
    go_loopw [17] (fun i wr => ∃ (j : Nat) (k : Kp) (a b c : Value), j ≤ l.length ∧ i = .int .i64 j ∧ Hid (MK V.heap.size wr g k a b c) ∧ Hid (Runs k0 ((txs l).take j) k) ∧ Hid (Below V.heap.size V wr)) (fun i _ => (l.length + 1 : Nat) - (intOf i).toNat)
    case atStart => exact ⟨0, k0, _, _, _, by omega, rfl, HM2.out, rfl, HV2.out⟩
    case round =>
      obtain ⟨j, k, a, b, c, hj, rfl, hM, hRn, hBr⟩ := hrel
      have HBw := Lib.hid (HB0.out.trans (hBr.out.mono HB0.out.size))
      have hkk := runs_ok HOK.out hRn.out
      by_cases hlt : j < l.length
      · have hx : l[j]? = some l[j] := List.getElem?_eq_getElem hlt
        have hsx := hz l[j] (List.getElem_mem hlt)
        generalize l[j] = x at hx hsx
        obtain ⟨gs, cs, e, hcell⟩ := sees_one (HS.out.later HBw.out) hx
        injection e with e1 e2 e3
        subst e1; subst e3
        have hk1 : (j : Int) < (l.length : Int) := by omega
        have HA := Lib.hid (apply_any V.heap.size wr g k a b c x.data.toList (by rw [← Lib.size_eq]; omega) hM.out hkk (hTab.later HBw.out) (hErr.later HBw.out))
        rw [str_data] at HA
        unfold ApP at HA
        have HX := Lib.hid (txs_at hx)
        clear hx hsx hkk
        go_wp2_with fail
        refine HA.out.mono ?_
        rintro e w3 (⟨k', a', b', c', rfl, hd, hM3, hB3⟩ | ⟨rfl, hd, hB3⟩)
        · have HM3 := Lib.hid hM3
          have HR3 := Lib.hid (runs_snoc hRn.out hd)
          rw [← take_snoc HX.out] at HR3
          have HB3 := Lib.hid (hBr.out.trans hB3)
          clear hM3 hd hB3 hcell HA hM hRn hBr HBw
          go_wp2
          go_roundw
          case rel => exact ⟨j + 1, k', a', b', c', by omega, by go_num, HM3, HR3, HB3⟩
          case measure => simp [intOf]; omega
        · have HP := Lib.hid (HN.out HOK.out ⟨j, _, k, HX.out, hRn.out, hd⟩)
          have hB4 := hBr.out.trans hB3
          have z := HR.out.below hB4 HR.out.lt
          have HB2 := Lib.hid (HB0.out.trans (hB4.mono HB0.out.size))
          obtain ⟨r0, r1, r2, r3, r4, r5, f0, f1, f2, f3, f4, f5⟩ := res_cells z
          have HC := Lib.hid (put6_blk (V := w3) (a' := .int .i64 0) (b' := .int .i64 0) (c' := .int .i64 0) (d' := .slice none 0 0) (e' := .slice none 0 0) (f' := .slice none 0 0) z)
          have HD := Lib.hid (put6_below (V := w3) (B := w.heap.size) (R := w.heap.size) (Nat.le_refl _) HB2.out (.int .i64 0) (.int .i64 0) (.int .i64 0) (.slice none 0 0) (.slice none 0 0) (.slice none 0 0))
          clear z hB4 hB3 hd hcell HA hM hRn hBr HBw
          go_wp2
          have x0 := HC.out.cell 0
          have x1 := HC.out.cell 1
          have x2 := HC.out.cell 2
          have x3 := HC.out.cell 3
          have x4 := HC.out.cell 4
          have x5 := HC.out.cell 5
          refine bodyPost_ret (v := .tuple #[kpV 0 0 0 (.slice none 0 0) (.slice none 0 0) (.slice none 0 0), .bool false]) (by simp [results, Tryz.results8, go_sem, x0, x1, x2, x3, x4, x5]) rfl ⟨zeroK, false, _, _, _, rfl, HP.out, zero_sz, nil_own HD.out rfl rfl rfl⟩
      · obtain rfl : j = l.length := by omega
        have hRn' := hRn.out
        rw [List.take_of_length_le (by unfold txs; rw [List.length_map]; exact Nat.le_refl _)] at hRn'
        have HP := Lib.hid (HT.out k HOK.out hRn')
        have HZZ := Lib.hid ((sz_ok hkk).up (show 12 ≤ 14 by omega))
        have hk1 : ¬ (l.length : Int) < (l.length : Int) := by omega
        have z := HR.out.below hBr.out HR.out.lt
        obtain ⟨r0, r1, r2, r3, r4, r5, f0, f1, f2, f3, f4, f5⟩ := res_cells z
        obtain ⟨A4, c4, rfl⟩ := OwnAt.form hM.out.own.held
        obtain ⟨B4, d4, rfl⟩ := OwnAt.form hM.out.own.marks
        obtain ⟨C4, e4, rfl⟩ := OwnAt.form hM.out.own.inbox
        obtain ⟨p0, p1, p2, p3, p4, p5⟩ := KBox.cells hM.out.box
        have HC := Lib.hid (put6_blk (V := wr) (a' := .int .i64 k.id) (b' := .int .i64 k.time) (c' := .int .i64 k.next) (d' := .slice A4 k.held.length c4) (e' := .slice B4 k.marks.length d4) (f' := .slice C4 k.inbox.length e4) z)
        have HD := Lib.hid (put6_below (V := wr) (B := w.heap.size) (R := w.heap.size) (Nat.le_refl _) HBw.out (.int .i64 k.id) (.int .i64 k.time) (.int .i64 k.next) (.slice A4 k.held.length c4) (.slice B4 k.marks.length d4) (.slice C4 k.inbox.length e4))
        have HG := Lib.hid (OwnK.put6 (R := w.heap.size) (hM.out.ownK hBr.out) (by have := HVs.out; omega) (by have := HVs.out; omega) HD.out)
        clear z hM hRn hBr HBw hRn' hkk
        go_wp2
        have x0 := HC.out.cell 0
        have x1 := HC.out.cell 1
        have x2 := HC.out.cell 2
        have x3 := HC.out.cell 3
        have x4 := HC.out.cell 4
        have x5 := HC.out.cell 5
        refine bodyPost_ret (v := .tuple #[kpV k.id k.time k.next (.slice A4 k.held.length c4) (.slice B4 k.marks.length d4) (.slice C4 k.inbox.length e4), .bool true]) (by simp [results, Tryz.results8, go_sem, x0, x1, x2, x3, x4, x5]) rfl ⟨k, true, _, _, _, rfl, HP.out, HZZ.out, HG.out⟩
end Go.Proofs.YtgihbilpimempabGreatDoor.kp

