/-
  Contract of spec.FrameUnpack.
-/
import Derived.Test.YtgihbilpimempaaDoorSPack
import Derived.Test.YtgihbilpimempaaDoorFrStr
import Derived.Test.YtgihbilpimempaaDoorRegSkip
import Derived.Deep.Cut
namespace Go.Proofs.YtgihbilpimempaaDoor.fr
open Go.ChangeShapes Go.WideShapes Go.ChangeAt Go.RowKit
open Go.Proofs.YtgihbilpimempaaDoor.nb Go.Proofs.YtgihbilpimempaaDoor.wd Go.Proofs.YtgihbilpimempaaDoor.cp Go.Proofs.YtgihbilpimempaaDoor.ow

abbrev zF0 : Array Value := #[.int .i64 0, .int .i64 0, .int .i64 0, .int .i64 0, .int .i64 0, .int .i64 0, .int .i64 0, .int .i64 0, .int .i64 0, .string ⟨#[]⟩]
def SUnPost (w : World) (l : List UInt8) (e : Ending) (w' : World) : Prop := e = .returned (.tuple #[frv (unp l), .bool (isF l)]) ∧ Below w.heap.size w w'
theorem txt_ne {a b : List UInt8} (h : a ≠ b) : ((txt a).toList == (txt b).toList) = false := by
  rw [beq_eq_false_iff_ne]
  intro e
  rw [ByteArray.toList_eq, ByteArray.toList_eq] at e
  exact h (by simpa [txt] using e)
theorem row_four {w : World} {g o : Nat} {l : List UInt8} (h : l.length = 17) (hr : RowB w (some ⟨g, o, none⟩) l) (c : Nat) : (convert 22 9 (.slice (some ⟨g, o + 11, none⟩) 4 c)).run Tryd.prog w = .ok (.string (four l 11)) w := by
  obtain ⟨g', o', e, hg, hc⟩ := hr (by omega)
  injection e with e
  injection e with e1 e2 _
  subst e1; subst e2
  have hl4 : ((l.drop 11).take 4).length = 4 := by rw [List.length_take, List.length_drop]; omega
  have hR : RowB w (some ⟨g, o + 11, none⟩) ((l.drop 11).take 4) := fun _ => ⟨g, o + 11, rfl, hg, fun j hj => by
    rw [hl4] at hj
    rw [Nat.add_assoc, hc (11 + j) (by omega)]
    unfold vl
    rw [List.getD_eq_getElem?_getD, List.getD_eq_getElem?_getD, List.getElem?_take_of_lt hj, List.getElem?_drop]⟩
  have := conv_any hR c
  rw [hl4] at this
  rw [this]
  obtain ⟨a, b, c, d, e, f, g, i, j, k, m, n, o, p, q, r, s, rfl⟩ := list17 h
  rfl
theorem isF_no {l : List UInt8} (h10 : l.length ≠ 10) (h17 : l.length ≠ 17) : isF l = false := decide_eq_false fun h => by omega

set_option maxRecDepth 100000 in
set_option maxHeartbeats 4000000 in
theorem sunp_any (w : World) (A : Option Addr) (c : Nat) (l : List UInt8) (hr : RowB w A l) (hl : l.length ≤ 1048576) (hlc : l.length ≤ c) (hc : c ≤ maxLen) :
    Calls Tryd.prog 15 #[.slice A l.length c] w (SUnPost w l) := by
  have hZ := Blk.new w 24 zF0
  have hB0 : Below w.heap.size w (w.alloc (.cells zF0 24)) := (Below.refl _ _).alloc (Nat.le_refl _) _
  have hc' : (c : Int) ≤ 9223372036854775807 := by unfold maxLen at hc; omega
  by_cases h10 : l.length = 10 ∨ l.length = 17
  · have HR := Lib.hid (hr.later hB0)
    obtain ⟨g, o, rfl, hg, hcell⟩ := hr.later hB0 (by omega)
    have HC := Lib.hid hcell
    have hlo := fun i => vl_lo l i
    have hhi := fun i => vl_hi l i
    have HLo := Lib.hid hlo
    have HHi := Lib.hid hhi
    have b0 : (w.alloc (.cells zF0 24)).cell? ⟨g, o, none⟩ = some (.int .u8 (vl l 0)) := hcell 0 (by omega)
    have b1 := hcell 1 (by omega)
    have b2 := hcell 2 (by omega)
    have b3 := hcell 3 (by omega)
    have b4 := hcell 4 (by omega)
    have b5 := hcell 5 (by omega)
    have b6 := hcell 6 (by omega)
    have b7 := hcell 7 (by omega)
    have HPs := Lib.hid (show psr l = if 10 < l.length then ⟨vl l 0, vl l 1, vl l 2, vl l 3, vl l 4, vl l 5, vl l 6 * 256 + vl l 7, vl l 8, vl l 9 * 256 + vl l 10, four l 11⟩ else ⟨vl l 0, vl l 1, vl l 2, vl l 3, vl l 4, vl l 5, vl l 6 * 256 + vl l 7, 0, 0, ⟨#[]⟩⟩ from rfl)
    have lo0 := hlo 0; have hi0 := hhi 0
    have lo1 := hlo 1; have hi1 := hhi 1
    have lo2 := hlo 2; have hi2 := hhi 2
    have lo3 := hlo 3; have hi3 := hhi 3
    have lo4 := hlo 4; have hi4 := hhi 4
    have lo5 := hlo 5; have hi5 := hhi 5
    have lo6 := hlo 6; have hi6 := hhi 6
    have lo7 := hlo 7; have hi7 := hhi 7
    clear hcell hlo hhi hr
    generalize vl l 0 = v0 at b0 lo0 hi0 HPs
    generalize vl l 1 = v1 at b1 lo1 hi1 HPs
    generalize vl l 2 = v2 at b2 lo2 hi2 HPs
    generalize vl l 3 = v3 at b3 lo3 hi3 HPs
    generalize vl l 4 = v4 at b4 lo4 hi4 HPs
    generalize vl l 5 = v5 at b5 lo5 hi5 HPs
    generalize vl l 6 = v6 at b6 lo6 hi6 HPs
    generalize vl l 7 = v7 at b7 lo7 hi7 HPs
    have W0 : IntKind.i64.wrap v0 = v0 := by rw [IntKind.wrap_i64]; omega
    have W1 : IntKind.i64.wrap v1 = v1 := by rw [IntKind.wrap_i64]; omega
    have W2 : IntKind.i64.wrap v2 = v2 := by rw [IntKind.wrap_i64]; omega
    have W3 : IntKind.i64.wrap v3 = v3 := by rw [IntKind.wrap_i64]; omega
    have W4 : IntKind.i64.wrap v4 = v4 := by rw [IntKind.wrap_i64]; omega
    have W5 : IntKind.i64.wrap v5 = v5 := by rw [IntKind.wrap_i64]; omega
    have W6 : IntKind.i64.wrap v6 = v6 := by rw [IntKind.wrap_i64]; omega
    have W7 : IntKind.i64.wrap v7 = v7 := by rw [IntKind.wrap_i64]; omega
    have W8 : IntKind.i64.wrap (v6 * 256) = v6 * 256 := by rw [IntKind.wrap_i64]; omega
    have W9 : IntKind.i64.wrap (v6 * 256 + v7) = v6 * 256 + v7 := by rw [IntKind.wrap_i64]; omega
    have hl8 : (8 : Int) ≤ (l.length : Int) := by omega
    have hd : (!((l.length : Int) == 10) && !((l.length : Int) == 17)) = false := by
      rcases h10 with h | h <;> rw [h] <;> rfl
    go_enter Tryd.func15, Tryd.ntmps15
    go_upto_region 1 with (fail)
    generalize w.alloc (.cells zF0 24) = W at hZ hB0 HR hg HC b0 b1 b2 b3 b4 b5 b6 b7 ⊢
    rcases h10 with h | h
    · rw [h]
      go_upto_region 3 with (fail)
      refine wp_region_held_drew (S := (fun w' : World => w'.cell? ⟨g, o, none⟩ = some (.int .u8 v0) ∧ w'.cell? ⟨g, o + 1, none⟩ = some (.int .u8 v1) ∧ w'.cell? ⟨g, o + 2, none⟩ = some (.int .u8 v2) ∧ w'.cell? ⟨g, o + 3, none⟩ = some (.int .u8 v3) ∧ w'.cell? ⟨g, o + 4, none⟩ = some (.int .u8 v4) ∧ w'.cell? ⟨g, o + 5, none⟩ = some (.int .u8 v5) ∧ w'.cell? ⟨g, o + 6, none⟩ = some (.int .u8 v6) ∧ w'.cell? ⟨g, o + 7, none⟩ = some (.int .u8 v7))) (by kernel_rfl) ⟨b0, b1, b2, b3, b4, b5, b6, b7⟩ (fun hHeld => ?_)
      refine rs.want_take (i := 0) 14 (v := ?_) rfl rfl (by kernel_rfl) (by kernel_rfl) (by kernel_rfl) (fun _ _ _ _ h => h) rfl ?_ (by assumption) ?_
      rotate_left 1
      · (intro w hSw; obtain ⟨b0, b1, b2, b3, b4, b5, b6, b7⟩ := hSw; go_simp; try with_reducible rfl)
      simp only [List.setIfInBounds_toArray, List.set_cons_zero, List.set_cons_succ]
      refine rs.want_take (i := 1) 15 (v := ?_) rfl rfl (by kernel_rfl) (by kernel_rfl) (by kernel_rfl) (fun _ _ _ _ h => h) rfl ?_ (by assumption) ?_
      rotate_left 1
      · (intro w hSw; obtain ⟨b0, b1, b2, b3, b4, b5, b6, b7⟩ := hSw; go_simp; try with_reducible rfl)
      simp only [List.setIfInBounds_toArray, List.set_cons_zero, List.set_cons_succ]
      refine rs.want_take (i := 2) 16 (v := ?_) rfl rfl (by kernel_rfl) (by kernel_rfl) (by kernel_rfl) (fun _ _ _ _ h => h) rfl ?_ (by assumption) ?_
      rotate_left 1
      · (intro w hSw; obtain ⟨b0, b1, b2, b3, b4, b5, b6, b7⟩ := hSw; go_simp; try with_reducible rfl)
      simp only [List.setIfInBounds_toArray, List.set_cons_zero, List.set_cons_succ]
      refine rs.want_take (i := 3) 17 (v := ?_) rfl rfl (by kernel_rfl) (by kernel_rfl) (by kernel_rfl) (fun _ _ _ _ h => h) rfl ?_ (by assumption) ?_
      rotate_left 1
      · (intro w hSw; obtain ⟨b0, b1, b2, b3, b4, b5, b6, b7⟩ := hSw; go_simp; try with_reducible rfl)
      simp only [List.setIfInBounds_toArray, List.set_cons_zero, List.set_cons_succ]
      refine rs.want_take (i := 4) 18 (v := ?_) rfl rfl (by kernel_rfl) (by kernel_rfl) (by kernel_rfl) (fun _ _ _ _ h => h) rfl ?_ (by assumption) ?_
      rotate_left 1
      · (intro w hSw; obtain ⟨b0, b1, b2, b3, b4, b5, b6, b7⟩ := hSw; go_simp; try with_reducible rfl)
      simp only [List.setIfInBounds_toArray, List.set_cons_zero, List.set_cons_succ]
      refine rs.want_take (i := 5) 19 (v := ?_) rfl rfl (by kernel_rfl) (by kernel_rfl) (by kernel_rfl) (fun _ _ _ _ h => h) rfl ?_ (by assumption) ?_
      rotate_left 1
      · (intro w hSw; obtain ⟨b0, b1, b2, b3, b4, b5, b6, b7⟩ := hSw; go_simp; try with_reducible rfl)
      simp only [List.setIfInBounds_toArray, List.set_cons_zero, List.set_cons_succ]
      refine rs.want_take (i := 6) 20 (v := ?_) rfl rfl (by kernel_rfl) (by kernel_rfl) (by kernel_rfl) (fun _ _ _ _ h => h) rfl ?_ (by assumption) ?_
      rotate_left 1
      · (intro w hSw; obtain ⟨b0, b1, b2, b3, b4, b5, b6, b7⟩ := hSw; go_simp; try with_reducible rfl)
      simp only [List.setIfInBounds_toArray, List.set_cons_zero, List.set_cons_succ]
      refine rs.want_take (i := 7) 21 (v := ?_) rfl rfl (by kernel_rfl) (by kernel_rfl) (by kernel_rfl) (fun _ _ _ _ h => h) rfl ?_ (by assumption) ?_
      rotate_left 1
      · (intro w hSw; obtain ⟨b0, b1, b2, b3, b4, b5, b6, b7⟩ := hSw; go_simp; try with_reducible rfl)
      simp only [List.setIfInBounds_toArray, List.set_cons_zero, List.set_cons_succ]
      refine rs.want_take (i := 8) 22 (v := ?_) rfl rfl (by kernel_rfl) (by kernel_rfl) (by kernel_rfl) (fun _ _ _ _ h => h) rfl ?_ (by assumption) ?_
      rotate_left 1
      · (intro w hSw; obtain ⟨b0, b1, b2, b3, b4, b5, b6, b7⟩ := hSw; go_simp; try with_reducible rfl)
      simp only [List.setIfInBounds_toArray, List.set_cons_zero, List.set_cons_succ]
      refine rs.want_take (i := 9) 23 (v := ?_) rfl rfl (by kernel_rfl) (by kernel_rfl) (by kernel_rfl) (fun _ _ _ _ h => h) rfl ?_ (by assumption) ?_
      rotate_left 1
      · (intro w hSw; obtain ⟨b0, b1, b2, b3, b4, b5, b6, b7⟩ := hSw; go_simp; try with_reducible rfl)
      simp only [List.setIfInBounds_toArray, List.set_cons_zero, List.set_cons_succ]
      refine rs.want_take (i := 10) 24 (v := ?_) rfl rfl (by kernel_rfl) (by kernel_rfl) (by kernel_rfl) (fun _ _ _ _ h => h) rfl ?_ (by assumption) ?_
      rotate_left 1
      · (intro w hSw; obtain ⟨b0, b1, b2, b3, b4, b5, b6, b7⟩ := hSw; go_simp; try with_reducible rfl)
      simp only [List.setIfInBounds_toArray, List.set_cons_zero, List.set_cons_succ]
      refine rs.want_take (i := 11) 25 (v := ?_) rfl rfl (by kernel_rfl) (by kernel_rfl) (by kernel_rfl) (fun _ _ _ _ h => h) rfl ?_ (by assumption) ?_
      rotate_left 1
      · (intro w hSw; obtain ⟨b0, b1, b2, b3, b4, b5, b6, b7⟩ := hSw; go_simp; try with_reducible rfl)
      simp only [List.setIfInBounds_toArray, List.set_cons_zero, List.set_cons_succ]
      refine rs.want_take (i := 12) 26 (v := ?_) rfl rfl (by kernel_rfl) (by kernel_rfl) (by kernel_rfl) (fun _ _ _ _ h => h) rfl ?_ (by assumption) ?_
      rotate_left 1
      · (intro w hSw; obtain ⟨b0, b1, b2, b3, b4, b5, b6, b7⟩ := hSw; go_simp; try with_reducible rfl)
      simp only [List.setIfInBounds_toArray, List.set_cons_zero, List.set_cons_succ]
      refine rs.want_take (i := 13) 27 (v := ?_) rfl rfl (by kernel_rfl) (by kernel_rfl) (by kernel_rfl) (fun _ _ _ _ h => h) rfl ?_ (by assumption) ?_
      rotate_left 1
      · (intro w hSw; obtain ⟨b0, b1, b2, b3, b4, b5, b6, b7⟩ := hSw; go_simp; try with_reducible rfl)
      simp only [List.setIfInBounds_toArray, List.set_cons_zero, List.set_cons_succ]
      refine rs.want_take (i := 14) 28 (v := ?_) rfl rfl (by kernel_rfl) (by kernel_rfl) (by kernel_rfl) (fun _ _ _ _ h => h) rfl ?_ (by assumption) ?_
      rotate_left 1
      · (intro w hSw; obtain ⟨b0, b1, b2, b3, b4, b5, b6, b7⟩ := hSw; go_simp; try with_reducible rfl)
      simp only [List.setIfInBounds_toArray, List.set_cons_zero, List.set_cons_succ]
      refine rs.want_take (i := 15) 29 (v := ?_) rfl rfl (by kernel_rfl) (by kernel_rfl) (by kernel_rfl) (fun _ _ _ _ h => h) rfl ?_ (by assumption) ?_
      rotate_left 1
      · (intro w hSw; obtain ⟨b0, b1, b2, b3, b4, b5, b6, b7⟩ := hSw; go_simp; try with_reducible rfl)
      simp only [List.setIfInBounds_toArray, List.set_cons_zero, List.set_cons_succ]
      refine rs.want_take (i := 16) 30 (v := ?_) rfl rfl (by kernel_rfl) (by kernel_rfl) (by kernel_rfl) (fun _ _ _ _ h => h) rfl ?_ (by assumption) ?_
      rotate_left 1
      · (intro w hSw; obtain ⟨b0, b1, b2, b3, b4, b5, b6, b7⟩ := hSw; go_simp; try with_reducible rfl)
      simp only [List.setIfInBounds_toArray, List.set_cons_zero, List.set_cons_succ]
      refine rs.want_take (i := 17) 31 (v := ?_) rfl rfl (by kernel_rfl) (by kernel_rfl) (by kernel_rfl) (fun _ _ _ _ h => h) rfl ?_ (by assumption) ?_
      rotate_left 1
      · (intro w hSw; obtain ⟨b0, b1, b2, b3, b4, b5, b6, b7⟩ := hSw; go_simp; try with_reducible rfl)
      simp only [List.setIfInBounds_toArray, List.set_cons_zero, List.set_cons_succ]
      refine rs.want_take (i := 18) 32 (v := ?_) rfl rfl (by kernel_rfl) (by kernel_rfl) (by kernel_rfl) (fun _ _ _ _ h => h) rfl ?_ (by assumption) ?_
      rotate_left 1
      · (intro w hSw; obtain ⟨b0, b1, b2, b3, b4, b5, b6, b7⟩ := hSw; go_simp; try with_reducible rfl)
      simp only [List.setIfInBounds_toArray, List.set_cons_zero, List.set_cons_succ]
      refine rs.want_take (i := 19) 33 (v := ?_) rfl rfl (by kernel_rfl) (by kernel_rfl) (by kernel_rfl) (fun _ _ _ _ h => h) rfl ?_ (by assumption) ?_
      rotate_left 1
      · (intro w hSw; obtain ⟨b0, b1, b2, b3, b4, b5, b6, b7⟩ := hSw; go_simp; try with_reducible rfl)
      simp only [List.setIfInBounds_toArray, List.set_cons_zero, List.set_cons_succ]
      refine rs.want_take (i := 20) 34 (v := ?_) rfl rfl (by kernel_rfl) (by kernel_rfl) (by kernel_rfl) (fun _ _ _ _ h => h) rfl ?_ (by assumption) ?_
      rotate_left 1
      · (intro w hSw; obtain ⟨b0, b1, b2, b3, b4, b5, b6, b7⟩ := hSw; go_simp; try with_reducible rfl)
      simp only [List.setIfInBounds_toArray, List.set_cons_zero, List.set_cons_succ]
      refine rs.want_take (i := 21) 35 (v := ?_) rfl rfl (by kernel_rfl) (by kernel_rfl) (by kernel_rfl) (fun _ _ _ _ h => h) rfl ?_ (by assumption) ?_
      rotate_left 1
      · (intro w hSw; obtain ⟨b0, b1, b2, b3, b4, b5, b6, b7⟩ := hSw; go_simp; try with_reducible rfl)
      simp only [List.setIfInBounds_toArray, List.set_cons_zero, List.set_cons_succ]
      refine rs.want_take (i := 22) 36 (v := ?_) rfl rfl (by kernel_rfl) (by kernel_rfl) (by kernel_rfl) (fun _ _ _ _ h => h) rfl ?_ (by assumption) ?_
      rotate_left 1
      · (intro w hSw; obtain ⟨b0, b1, b2, b3, b4, b5, b6, b7⟩ := hSw; go_simp; try with_reducible rfl)
      simp only [List.setIfInBounds_toArray, List.set_cons_zero, List.set_cons_succ]
      refine rs.want_take (i := 23) 37 (v := ?_) rfl rfl (by kernel_rfl) (by kernel_rfl) (by kernel_rfl) (fun _ _ _ _ h => h) rfl ?_ (by assumption) ?_
      rotate_left 1
      · (intro w hSw; obtain ⟨b0, b1, b2, b3, b4, b5, b6, b7⟩ := hSw; go_simp; try with_reducible rfl)
      simp only [List.setIfInBounds_toArray, List.set_cons_zero, List.set_cons_succ]
      refine rs.want_take (i := 24) 38 (v := ?_) rfl rfl (by kernel_rfl) (by kernel_rfl) (by kernel_rfl) (fun _ _ _ _ h => h) rfl ?_ (by assumption) ?_
      rotate_left 1
      · (intro w hSw; obtain ⟨b0, b1, b2, b3, b4, b5, b6, b7⟩ := hSw; go_simp; try with_reducible rfl)
      simp only [List.setIfInBounds_toArray, List.set_cons_zero, List.set_cons_succ]
      refine rs.want_take (i := 25) 39 (v := ?_) rfl rfl (by kernel_rfl) (by kernel_rfl) (by kernel_rfl) (fun _ _ _ _ h => h) rfl ?_ (by assumption) ?_
      rotate_left 1
      · (intro w hSw; obtain ⟨b0, b1, b2, b3, b4, b5, b6, b7⟩ := hSw; go_simp; try with_reducible rfl)
      simp only [List.setIfInBounds_toArray, List.set_cons_zero, List.set_cons_succ]
      refine rs.want_take (i := 26) 40 (v := ?_) rfl rfl (by kernel_rfl) (by kernel_rfl) (by kernel_rfl) (fun _ _ _ _ h => h) rfl ?_ (by assumption) ?_
      rotate_left 1
      · (intro w hSw; obtain ⟨b0, b1, b2, b3, b4, b5, b6, b7⟩ := hSw; go_simp; try with_reducible rfl)
      simp only [List.setIfInBounds_toArray, List.set_cons_zero, List.set_cons_succ]
      refine rs.want_take (i := 27) 41 (v := ?_) rfl rfl (by kernel_rfl) (by kernel_rfl) (by kernel_rfl) (fun _ _ _ _ h => h) rfl ?_ (by assumption) ?_
      rotate_left 1
      · (intro w hSw; obtain ⟨b0, b1, b2, b3, b4, b5, b6, b7⟩ := hSw; go_simp; try with_reducible rfl)
      simp only [List.setIfInBounds_toArray, List.set_cons_zero, List.set_cons_succ]
      refine rs.want_take (i := 28) 42 (v := ?_) rfl rfl (by kernel_rfl) (by kernel_rfl) (by kernel_rfl) (fun _ _ _ _ h => h) rfl ?_ (by assumption) ?_
      rotate_left 1
      · (intro w hSw; obtain ⟨b0, b1, b2, b3, b4, b5, b6, b7⟩ := hSw; go_simp; try with_reducible rfl)
      simp only [List.setIfInBounds_toArray, List.set_cons_zero, List.set_cons_succ]
      refine rs.want_take (i := 29) 43 (v := ?_) rfl rfl (by kernel_rfl) (by kernel_rfl) (by kernel_rfl) (fun _ _ _ _ h => h) rfl ?_ (by assumption) ?_
      rotate_left 1
      · (intro w hSw; obtain ⟨b0, b1, b2, b3, b4, b5, b6, b7⟩ := hSw; go_simp; try with_reducible rfl)
      simp only [List.setIfInBounds_toArray, List.set_cons_zero, List.set_cons_succ]
      refine rs.want_take (i := 30) 44 (v := ?_) rfl rfl (by kernel_rfl) (by kernel_rfl) (by kernel_rfl) (fun _ _ _ _ h => h) rfl ?_ (by assumption) ?_
      rotate_left 1
      · (intro w hSw; obtain ⟨b0, b1, b2, b3, b4, b5, b6, b7⟩ := hSw; go_simp; try with_reducible rfl)
      simp only [List.setIfInBounds_toArray, List.set_cons_zero, List.set_cons_succ]
      refine rs.want_take (i := 31) 45 (v := ?_) rfl rfl (by kernel_rfl) (by kernel_rfl) (by kernel_rfl) (fun _ _ _ _ h => h) rfl ?_ (by assumption) ?_
      rotate_left 1
      · (intro w hSw; obtain ⟨b0, b1, b2, b3, b4, b5, b6, b7⟩ := hSw; go_simp; try with_reducible rfl)
      simp only [List.setIfInBounds_toArray, List.set_cons_zero, List.set_cons_succ]
      refine rs.want_take (i := 32) 46 (v := ?_) rfl rfl (by kernel_rfl) (by kernel_rfl) (by kernel_rfl) (fun _ _ _ _ h => h) rfl ?_ (by assumption) ?_
      rotate_left 1
      · (intro w hSw; obtain ⟨b0, b1, b2, b3, b4, b5, b6, b7⟩ := hSw; go_simp; try with_reducible rfl)
      simp only [List.setIfInBounds_toArray, List.set_cons_zero, List.set_cons_succ]
      refine rs.want_take (i := 33) 47 (v := ?_) rfl rfl (by kernel_rfl) (by kernel_rfl) (by kernel_rfl) (fun _ _ _ _ h => h) rfl ?_ (by assumption) ?_
      rotate_left 1
      · (intro w hSw; obtain ⟨b0, b1, b2, b3, b4, b5, b6, b7⟩ := hSw; go_simp; try with_reducible rfl)
      simp only [List.setIfInBounds_toArray, List.set_cons_zero, List.set_cons_succ]
      refine rs.want_take (i := 34) 48 (v := ?_) rfl rfl (by kernel_rfl) (by kernel_rfl) (by kernel_rfl) (fun _ _ _ _ h => h) rfl ?_ (by assumption) ?_
      rotate_left 1
      · (intro w hSw; obtain ⟨b0, b1, b2, b3, b4, b5, b6, b7⟩ := hSw; go_simp; try with_reducible rfl)
      simp only [List.setIfInBounds_toArray, List.set_cons_zero, List.set_cons_succ]
      have hWX : Below W.heap.size W (W.alloc (.cells zF0 24)).drew := ((Below.refl W.heap.size W).alloc (Nat.le_refl _) _).drew
      have hX : Blk (W.alloc (.cells zF0 24)).drew W.heap.size 24 zF0 := Blk.new W 24 zF0
      refine wpAnyH_ready (rs := [35]) (by kernel_rfl) (by simp) ?_
      refine AllReadyH.cons rfl (fun K hK => ?_) AllReadyH.nil
      go_simp
      refine hK.out _ _ ⟨(hWX.cell (p := ⟨g, o, none⟩) hg).trans b0, (hWX.cell (p := ⟨g, o + 1, none⟩) hg).trans b1, (hWX.cell (p := ⟨g, o + 2, none⟩) hg).trans b2, (hWX.cell (p := ⟨g, o + 3, none⟩) hg).trans b3, (hWX.cell (p := ⟨g, o + 4, none⟩) hg).trans b4, (hWX.cell (p := ⟨g, o + 5, none⟩) hg).trans b5, (hWX.cell (p := ⟨g, o + 6, none⟩) hg).trans b6, (hWX.cell (p := ⟨g, o + 7, none⟩) hg).trans b7⟩ (fun hHeld => ?_)
      clear hK K hHeld
      generalize (W.alloc (.cells zF0 24)).drew = X at hX hWX ⊢
      obtain ⟨x0, x1, x2, x3, x4, x5, x6, x7, x8, x9, _⟩ := ten hX
      obtain ⟨f0, f1, f2, f3, f4, f5, f6, f7, f8, f9⟩ := ten_frozen hX
      refine wpAnyH_ready (rs := [36]) (by kernel_rfl) (by simp) ?_
      refine AllReadyH.cons rfl (fun K hK => ?_) AllReadyH.nil
      go_simp
      have hWY := put10 hWX (Nat.le_refl W.heap.size) (.int .i64 v0) (.int .i64 v1) (.int .i64 v2) (.int .i64 v3) (.int .i64 v4) (.int .i64 v5) (.int .i64 (v6 * 256 + v7)) (.int .i64 0) (.int .i64 0) (.string ⟨#[]⟩)
      have hY : Blk ((((((((((X.setCell ⟨W.heap.size, 0, none⟩ (.int .i64 v0)).setCell ⟨W.heap.size, 1, none⟩ (.int .i64 v1)).setCell ⟨W.heap.size, 2, none⟩ (.int .i64 v2)).setCell ⟨W.heap.size, 3, none⟩ (.int .i64 v3)).setCell ⟨W.heap.size, 4, none⟩ (.int .i64 v4)).setCell ⟨W.heap.size, 5, none⟩ (.int .i64 v5)).setCell ⟨W.heap.size, 6, none⟩ (.int .i64 (v6 * 256 + v7))).setCell ⟨W.heap.size, 7, none⟩ (.int .i64 0)).setCell ⟨W.heap.size, 8, none⟩ (.int .i64 0)).setCell ⟨W.heap.size, 9, none⟩ (.string ⟨#[]⟩)) W.heap.size 24 #[.int .i64 v0, .int .i64 v1, .int .i64 v2, .int .i64 v3, .int .i64 v4, .int .i64 v5, .int .i64 (v6 * 256 + v7), .int .i64 0, .int .i64 0, .string ⟨#[]⟩] := by simpa using ((((((((((hX.put 0 (.int .i64 v0)).put 1 (.int .i64 v1)).put 2 (.int .i64 v2)).put 3 (.int .i64 v3)).put 4 (.int .i64 v4)).put 5 (.int .i64 v5)).put 6 (.int .i64 (v6 * 256 + v7))).put 7 (.int .i64 0)).put 8 (.int .i64 0)).put 9 (.string ⟨#[]⟩))
      refine hK.out _ _ ⟨(hWY.cell (p := ⟨g, o, none⟩) hg).trans b0, (hWY.cell (p := ⟨g, o + 1, none⟩) hg).trans b1, (hWY.cell (p := ⟨g, o + 2, none⟩) hg).trans b2, (hWY.cell (p := ⟨g, o + 3, none⟩) hg).trans b3, (hWY.cell (p := ⟨g, o + 4, none⟩) hg).trans b4, (hWY.cell (p := ⟨g, o + 5, none⟩) hg).trans b5, (hWY.cell (p := ⟨g, o + 6, none⟩) hg).trans b6, (hWY.cell (p := ⟨g, o + 7, none⟩) hg).trans b7⟩ (fun hHeld => ?_)
      clear hK K hHeld x0 x1 x2 x3 x4 x5 x6 x7 x8 x9 f0 f1 f2 f3 f4 f5 f6 f7 f8 f9 hX hWX
      generalize ((((((((((X.setCell ⟨W.heap.size, 0, none⟩ (.int .i64 v0)).setCell ⟨W.heap.size, 1, none⟩ (.int .i64 v1)).setCell ⟨W.heap.size, 2, none⟩ (.int .i64 v2)).setCell ⟨W.heap.size, 3, none⟩ (.int .i64 v3)).setCell ⟨W.heap.size, 4, none⟩ (.int .i64 v4)).setCell ⟨W.heap.size, 5, none⟩ (.int .i64 v5)).setCell ⟨W.heap.size, 6, none⟩ (.int .i64 (v6 * 256 + v7))).setCell ⟨W.heap.size, 7, none⟩ (.int .i64 0)).setCell ⟨W.heap.size, 8, none⟩ (.int .i64 0)).setCell ⟨W.heap.size, 9, none⟩ (.string ⟨#[]⟩)) = Y at hWY hY ⊢
      refine wpAnyH_done (by kernel_rfl) ?_ _
      have HPs : Hid (psr l = ⟨v0, v1, v2, v3, v4, v5, v6 * 256 + v7, 0, 0, ⟨#[]⟩⟩) := by
        have e := HPs.out
        rw [if_neg (by omega)] at e
        exact e
      have HY := Lib.hid hY
      have HZ := Lib.hid (hZ.below hWY hZ.lt)
      have HRY := Lib.hid (HR.out.later hWY)
      have HBY := Lib.hid (hB0.trans (hWY.mono hB0.size))
      have HP := Lib.hid (fun V => spack_any ⟨v0, v1, v2, v3, v4, v5, v6 * 256 + v7, 0, 0, ⟨#[]⟩⟩ V (show (0 : Nat) ≤ maxLen from Nat.zero_le _))
      obtain ⟨lp, hlp⟩ : ∃ lp, pk ⟨v0, v1, v2, v3, v4, v5, v6 * 256 + v7, 0, 0, ⟨#[]⟩⟩ = lp := ⟨_, rfl⟩
      rw [hlp] at HP
      unfold frv at HP
      simp only at HP
      have HLP := Lib.hid hlp
      clear hlp hY hWY hZ hB0 HR HC b0 b1 b2 b3 b4 b5 b6 b7 W0 W1 W2 W3 W4 W5 W6 W7 W8 W9 hg
      go_upto_region 8 with (fail)
      cases hi : isF l with
      | true =>
        have HI := Lib.hid hi
        have HU := Lib.hid (show unp l = ⟨v0, v1, v2, v3, v4, v5, v6 * 256 + v7, 0, 0, ⟨#[]⟩⟩ by unfold unp; rw [hi, if_pos rfl, HPs.out])
        have hlp : lp = l := by rw [← HLP.out, ← HPs.out]; exact (of_decide_eq_true hi).2
        have hlp' := hlp.symm
        clear hi HLP HPs hlp
        subst hlp'
        refine wp_region_held_drew (S := (fun w' : World => RowB w' (some ⟨g, o, none⟩) l ∧ Blk w' W.heap.size 24 #[.int .i64 v0, .int .i64 v1, .int .i64 v2, .int .i64 v3, .int .i64 v4, .int .i64 v5, .int .i64 (v6 * 256 + v7), .int .i64 0, .int .i64 0, .string ⟨#[]⟩])) (by kernel_rfl) ⟨HRY.out, HY.out⟩ (fun hHeld => ?_)
        refine rs.want_take (i := 0) 72 (v := ?_) rfl rfl (by kernel_rfl) (by kernel_rfl) (by kernel_rfl) (fun _ _ _ _ h => h) rfl ?_ (by assumption) ?_
        rotate_left 1
        · (intro w hSw; obtain ⟨c0, c1, c2, c3, c4, c5, c6, c7, c8, c9, _⟩ := ten hSw.2; go_simp; try with_reducible rfl)
        simp only [List.setIfInBounds_toArray, List.set_cons_zero, List.set_cons_succ]
        refine rs.want_take (i := 3) 75 (v := ?_) rfl rfl (by kernel_rfl) (by kernel_rfl) (by kernel_rfl) (fun _ _ _ _ h => h) rfl ?_ (by assumption) ?_
        rotate_left 1
        · (intro w hSw; go_simp; try with_reducible rfl)
        simp only [List.setIfInBounds_toArray, List.set_cons_zero, List.set_cons_succ]
        refine rs.want_take (i := 4) 76 (v := ?_) rfl rfl (by kernel_rfl) (by kernel_rfl) (by kernel_rfl) (fun _ _ _ _ h => h) rfl ?_ (by assumption) ?_
        rotate_left 1
        · (intro w hSw; have hcv := conv_any hSw.1 c; rw [h] at hcv; go_simp; go_simp; try with_reducible rfl)
        simp only [List.setIfInBounds_toArray, List.set_cons_zero, List.set_cons_succ]
        refine wpAnyH_ready (rs := [1]) (by kernel_rfl) (by simp) ?_
        refine AllReadyH.cons rfl (fun K hK => ?_) AllReadyH.nil
        go_simp
        refine (HP.out _).mono ?_
        rintro e w5 ⟨A5, n5, p5, rfl, hO5⟩
        obtain ⟨hn5, hR5⟩ := own_rowN hO5
        subst hn5
        have hS5 : RowB w5 (some ⟨g, o, none⟩) l ∧ Blk w5 W.heap.size 24 #[.int .i64 v0, .int .i64 v1, .int .i64 v2, .int .i64 v3, .int .i64 v4, .int .i64 v5, .int .i64 (v6 * 256 + v7), .int .i64 0, .int .i64 0, .string ⟨#[]⟩] := ⟨hHeld.1.later hO5.2, hHeld.2.below hO5.2 hHeld.2.lt⟩
        have HB5 := Lib.hid (HBY.out.drew.trans (hO5.2.mono HBY.out.drew.size))
        have HZ5 := Lib.hid (Blk.below (w := Y.drew) HZ.out hO5.2 HZ.out.lt)
        refine hK.out _ _ hS5 (fun hHeld => ?_)
        clear hK K
        refine wpAnyH_ready (rs := [2]) (by kernel_rfl) (by simp) ?_
        refine AllReadyH.cons rfl (fun K hK => ?_) AllReadyH.nil
        have hcv5 := conv_any hR5 p5
        (try rw [h] at hcv5)
        go_simp
        refine hK.out _ _ hS5 (fun hHeld => ?_)
        clear hK K hcv5
        refine rs.want_take (i := 5) 77 (v := ?_) rfl rfl (by kernel_rfl) (by kernel_rfl) (by kernel_rfl) (fun _ _ _ _ h => h) rfl ?_ (by assumption) ?_
        rotate_left 1
        · (intro w hSw; go_simp; try with_reducible rfl)
        simp only [List.setIfInBounds_toArray, List.set_cons_zero, List.set_cons_succ]
        refine wpAnyH_done (by kernel_rfl) ?_ _
        obtain ⟨z0, z1, z2, z3, z4, z5, z6, z7, z8, z9, _⟩ := ten HZ5.out
        obtain ⟨g0, g1, g2, g3, g4, g5, g6, g7, g8, g9⟩ := ten_frozen HZ5.out
        obtain ⟨c0, c1, c2, c3, c4, c5, c6, c7, c8, c9, _⟩ := ten hS5.2
        clear hS5 hHeld hO5 hR5 HZ HZ5 HY HRY HBY HP
        go_wp2
        refine bodyPost_ret (v := .tuple #[frv ⟨v0, v1, v2, v3, v4, v5, v6 * 256 + v7, 0, 0, ⟨#[]⟩⟩, .bool true]) (by simp [results, Tryd.results15, go_sem, frv, *]) rfl ⟨by rw [HU.out, HI.out], ?_⟩
        exact put10 HB5.out (Nat.le_refl _) _ _ _ _ _ _ _ _ _ _
      | false =>
        have HI := Lib.hid hi
        have HU := Lib.hid (show unp l = fr0 by unfold unp; rw [hi]; rfl)
        have hlp : lp ≠ l := fun e => by
          have : isF l = true := decide_eq_true ⟨by omega, by rw [HPs.out, HLP.out]; exact e⟩
          rw [hi] at this
          cases this
        have hcmp0 := txt_ne hlp
        have hcmp : ((txt lp).toList != (txt l).toList) = true := by
          show (!((txt lp).toList == (txt l).toList)) = true
          rw [hcmp0]; rfl
        have hcmp1 : ¬ (txt lp).toList = (txt l).toList := fun e => by rw [e] at hcmp0; simp at hcmp0
        have hcmp2 : ¬ txt lp = txt l := fun e => hlp (txt_inj e)
        clear hi hlp HLP HPs
        refine wp_region_held_drew (S := (fun w' : World => RowB w' (some ⟨g, o, none⟩) l ∧ Blk w' W.heap.size 24 #[.int .i64 v0, .int .i64 v1, .int .i64 v2, .int .i64 v3, .int .i64 v4, .int .i64 v5, .int .i64 (v6 * 256 + v7), .int .i64 0, .int .i64 0, .string ⟨#[]⟩])) (by kernel_rfl) ⟨HRY.out, HY.out⟩ (fun hHeld => ?_)
        refine rs.want_take (i := 0) 72 (v := ?_) rfl rfl (by kernel_rfl) (by kernel_rfl) (by kernel_rfl) (fun _ _ _ _ h => h) rfl ?_ (by assumption) ?_
        rotate_left 1
        · (intro w hSw; obtain ⟨c0, c1, c2, c3, c4, c5, c6, c7, c8, c9, _⟩ := ten hSw.2; go_simp; try with_reducible rfl)
        simp only [List.setIfInBounds_toArray, List.set_cons_zero, List.set_cons_succ]
        refine rs.want_take (i := 3) 75 (v := ?_) rfl rfl (by kernel_rfl) (by kernel_rfl) (by kernel_rfl) (fun _ _ _ _ h => h) rfl ?_ (by assumption) ?_
        rotate_left 1
        · (intro w hSw; go_simp; try with_reducible rfl)
        simp only [List.setIfInBounds_toArray, List.set_cons_zero, List.set_cons_succ]
        refine rs.want_take (i := 4) 76 (v := ?_) rfl rfl (by kernel_rfl) (by kernel_rfl) (by kernel_rfl) (fun _ _ _ _ h => h) rfl ?_ (by assumption) ?_
        rotate_left 1
        · (intro w hSw; have hcv := conv_any hSw.1 c; rw [h] at hcv; go_simp; go_simp; try with_reducible rfl)
        simp only [List.setIfInBounds_toArray, List.set_cons_zero, List.set_cons_succ]
        refine wpAnyH_ready (rs := [1]) (by kernel_rfl) (by simp) ?_
        refine AllReadyH.cons rfl (fun K hK => ?_) AllReadyH.nil
        go_simp
        refine (HP.out _).mono ?_
        rintro e w5 ⟨A5, n5, p5, rfl, hO5⟩
        obtain ⟨hn5, hR5⟩ := own_rowN hO5
        subst hn5
        have hS5 : RowB w5 (some ⟨g, o, none⟩) l ∧ Blk w5 W.heap.size 24 #[.int .i64 v0, .int .i64 v1, .int .i64 v2, .int .i64 v3, .int .i64 v4, .int .i64 v5, .int .i64 (v6 * 256 + v7), .int .i64 0, .int .i64 0, .string ⟨#[]⟩] := ⟨hHeld.1.later hO5.2, hHeld.2.below hO5.2 hHeld.2.lt⟩
        have HB5 := Lib.hid (HBY.out.drew.trans (hO5.2.mono HBY.out.drew.size))
        have HZ5 := Lib.hid (Blk.below (w := Y.drew) HZ.out hO5.2 HZ.out.lt)
        refine hK.out _ _ hS5 (fun hHeld => ?_)
        clear hK K
        refine wpAnyH_ready (rs := [2]) (by kernel_rfl) (by simp) ?_
        refine AllReadyH.cons rfl (fun K hK => ?_) AllReadyH.nil
        have hcv5 := conv_any hR5 p5
        (try rw [h] at hcv5)
        go_simp
        refine hK.out _ _ hS5 (fun hHeld => ?_)
        clear hK K hcv5
        refine rs.want_take (i := 5) 77 (v := ?_) rfl rfl (by kernel_rfl) (by kernel_rfl) (by kernel_rfl) (fun _ _ _ _ h => h) rfl ?_ (by assumption) ?_
        rotate_left 1
        · (intro w hSw; go_simp; try with_reducible rfl)
        simp only [List.setIfInBounds_toArray, List.set_cons_zero, List.set_cons_succ]
        refine wpAnyH_done (by kernel_rfl) ?_ _
        obtain ⟨z0, z1, z2, z3, z4, z5, z6, z7, z8, z9, _⟩ := ten HZ5.out
        obtain ⟨g0, g1, g2, g3, g4, g5, g6, g7, g8, g9⟩ := ten_frozen HZ5.out
        obtain ⟨c0, c1, c2, c3, c4, c5, c6, c7, c8, c9, _⟩ := ten hS5.2
        clear hS5 hHeld hO5 hR5 HZ HZ5 HY HRY HBY HP
        clear c0 c1 c2 c3 c4 c5 c6 c7 c8 c9
        go_wp2
        refine bodyPost_ret (v := .tuple #[frv fr0, .bool false]) (by simp [results, Tryd.results15, go_sem, frv, fr0, *]) rfl ⟨by rw [HU.out, HI.out], ?_⟩
        exact put10 HB5.out (Nat.le_refl _) _ _ _ _ _ _ _ _ _ _
    · rw [h]
      go_upto_region 3 with (fail)
      refine wp_region_held_drew (S := (fun w' : World => w'.cell? ⟨g, o, none⟩ = some (.int .u8 v0) ∧ w'.cell? ⟨g, o + 1, none⟩ = some (.int .u8 v1) ∧ w'.cell? ⟨g, o + 2, none⟩ = some (.int .u8 v2) ∧ w'.cell? ⟨g, o + 3, none⟩ = some (.int .u8 v3) ∧ w'.cell? ⟨g, o + 4, none⟩ = some (.int .u8 v4) ∧ w'.cell? ⟨g, o + 5, none⟩ = some (.int .u8 v5) ∧ w'.cell? ⟨g, o + 6, none⟩ = some (.int .u8 v6) ∧ w'.cell? ⟨g, o + 7, none⟩ = some (.int .u8 v7))) (by kernel_rfl) ⟨b0, b1, b2, b3, b4, b5, b6, b7⟩ (fun hHeld => ?_)
      refine rs.want_take (i := 0) 14 (v := ?_) rfl rfl (by kernel_rfl) (by kernel_rfl) (by kernel_rfl) (fun _ _ _ _ h => h) rfl ?_ (by assumption) ?_
      rotate_left 1
      · (intro w hSw; obtain ⟨b0, b1, b2, b3, b4, b5, b6, b7⟩ := hSw; go_simp; try with_reducible rfl)
      simp only [List.setIfInBounds_toArray, List.set_cons_zero, List.set_cons_succ]
      refine rs.want_take (i := 1) 15 (v := ?_) rfl rfl (by kernel_rfl) (by kernel_rfl) (by kernel_rfl) (fun _ _ _ _ h => h) rfl ?_ (by assumption) ?_
      rotate_left 1
      · (intro w hSw; obtain ⟨b0, b1, b2, b3, b4, b5, b6, b7⟩ := hSw; go_simp; try with_reducible rfl)
      simp only [List.setIfInBounds_toArray, List.set_cons_zero, List.set_cons_succ]
      refine rs.want_take (i := 2) 16 (v := ?_) rfl rfl (by kernel_rfl) (by kernel_rfl) (by kernel_rfl) (fun _ _ _ _ h => h) rfl ?_ (by assumption) ?_
      rotate_left 1
      · (intro w hSw; obtain ⟨b0, b1, b2, b3, b4, b5, b6, b7⟩ := hSw; go_simp; try with_reducible rfl)
      simp only [List.setIfInBounds_toArray, List.set_cons_zero, List.set_cons_succ]
      refine rs.want_take (i := 3) 17 (v := ?_) rfl rfl (by kernel_rfl) (by kernel_rfl) (by kernel_rfl) (fun _ _ _ _ h => h) rfl ?_ (by assumption) ?_
      rotate_left 1
      · (intro w hSw; obtain ⟨b0, b1, b2, b3, b4, b5, b6, b7⟩ := hSw; go_simp; try with_reducible rfl)
      simp only [List.setIfInBounds_toArray, List.set_cons_zero, List.set_cons_succ]
      refine rs.want_take (i := 4) 18 (v := ?_) rfl rfl (by kernel_rfl) (by kernel_rfl) (by kernel_rfl) (fun _ _ _ _ h => h) rfl ?_ (by assumption) ?_
      rotate_left 1
      · (intro w hSw; obtain ⟨b0, b1, b2, b3, b4, b5, b6, b7⟩ := hSw; go_simp; try with_reducible rfl)
      simp only [List.setIfInBounds_toArray, List.set_cons_zero, List.set_cons_succ]
      refine rs.want_take (i := 5) 19 (v := ?_) rfl rfl (by kernel_rfl) (by kernel_rfl) (by kernel_rfl) (fun _ _ _ _ h => h) rfl ?_ (by assumption) ?_
      rotate_left 1
      · (intro w hSw; obtain ⟨b0, b1, b2, b3, b4, b5, b6, b7⟩ := hSw; go_simp; try with_reducible rfl)
      simp only [List.setIfInBounds_toArray, List.set_cons_zero, List.set_cons_succ]
      refine rs.want_take (i := 6) 20 (v := ?_) rfl rfl (by kernel_rfl) (by kernel_rfl) (by kernel_rfl) (fun _ _ _ _ h => h) rfl ?_ (by assumption) ?_
      rotate_left 1
      · (intro w hSw; obtain ⟨b0, b1, b2, b3, b4, b5, b6, b7⟩ := hSw; go_simp; try with_reducible rfl)
      simp only [List.setIfInBounds_toArray, List.set_cons_zero, List.set_cons_succ]
      refine rs.want_take (i := 7) 21 (v := ?_) rfl rfl (by kernel_rfl) (by kernel_rfl) (by kernel_rfl) (fun _ _ _ _ h => h) rfl ?_ (by assumption) ?_
      rotate_left 1
      · (intro w hSw; obtain ⟨b0, b1, b2, b3, b4, b5, b6, b7⟩ := hSw; go_simp; try with_reducible rfl)
      simp only [List.setIfInBounds_toArray, List.set_cons_zero, List.set_cons_succ]
      refine rs.want_take (i := 8) 22 (v := ?_) rfl rfl (by kernel_rfl) (by kernel_rfl) (by kernel_rfl) (fun _ _ _ _ h => h) rfl ?_ (by assumption) ?_
      rotate_left 1
      · (intro w hSw; obtain ⟨b0, b1, b2, b3, b4, b5, b6, b7⟩ := hSw; go_simp; try with_reducible rfl)
      simp only [List.setIfInBounds_toArray, List.set_cons_zero, List.set_cons_succ]
      refine rs.want_take (i := 9) 23 (v := ?_) rfl rfl (by kernel_rfl) (by kernel_rfl) (by kernel_rfl) (fun _ _ _ _ h => h) rfl ?_ (by assumption) ?_
      rotate_left 1
      · (intro w hSw; obtain ⟨b0, b1, b2, b3, b4, b5, b6, b7⟩ := hSw; go_simp; try with_reducible rfl)
      simp only [List.setIfInBounds_toArray, List.set_cons_zero, List.set_cons_succ]
      refine rs.want_take (i := 10) 24 (v := ?_) rfl rfl (by kernel_rfl) (by kernel_rfl) (by kernel_rfl) (fun _ _ _ _ h => h) rfl ?_ (by assumption) ?_
      rotate_left 1
      · (intro w hSw; obtain ⟨b0, b1, b2, b3, b4, b5, b6, b7⟩ := hSw; go_simp; try with_reducible rfl)
      simp only [List.setIfInBounds_toArray, List.set_cons_zero, List.set_cons_succ]
      refine rs.want_take (i := 11) 25 (v := ?_) rfl rfl (by kernel_rfl) (by kernel_rfl) (by kernel_rfl) (fun _ _ _ _ h => h) rfl ?_ (by assumption) ?_
      rotate_left 1
      · (intro w hSw; obtain ⟨b0, b1, b2, b3, b4, b5, b6, b7⟩ := hSw; go_simp; try with_reducible rfl)
      simp only [List.setIfInBounds_toArray, List.set_cons_zero, List.set_cons_succ]
      refine rs.want_take (i := 12) 26 (v := ?_) rfl rfl (by kernel_rfl) (by kernel_rfl) (by kernel_rfl) (fun _ _ _ _ h => h) rfl ?_ (by assumption) ?_
      rotate_left 1
      · (intro w hSw; obtain ⟨b0, b1, b2, b3, b4, b5, b6, b7⟩ := hSw; go_simp; try with_reducible rfl)
      simp only [List.setIfInBounds_toArray, List.set_cons_zero, List.set_cons_succ]
      refine rs.want_take (i := 13) 27 (v := ?_) rfl rfl (by kernel_rfl) (by kernel_rfl) (by kernel_rfl) (fun _ _ _ _ h => h) rfl ?_ (by assumption) ?_
      rotate_left 1
      · (intro w hSw; obtain ⟨b0, b1, b2, b3, b4, b5, b6, b7⟩ := hSw; go_simp; try with_reducible rfl)
      simp only [List.setIfInBounds_toArray, List.set_cons_zero, List.set_cons_succ]
      refine rs.want_take (i := 14) 28 (v := ?_) rfl rfl (by kernel_rfl) (by kernel_rfl) (by kernel_rfl) (fun _ _ _ _ h => h) rfl ?_ (by assumption) ?_
      rotate_left 1
      · (intro w hSw; obtain ⟨b0, b1, b2, b3, b4, b5, b6, b7⟩ := hSw; go_simp; try with_reducible rfl)
      simp only [List.setIfInBounds_toArray, List.set_cons_zero, List.set_cons_succ]
      refine rs.want_take (i := 15) 29 (v := ?_) rfl rfl (by kernel_rfl) (by kernel_rfl) (by kernel_rfl) (fun _ _ _ _ h => h) rfl ?_ (by assumption) ?_
      rotate_left 1
      · (intro w hSw; obtain ⟨b0, b1, b2, b3, b4, b5, b6, b7⟩ := hSw; go_simp; try with_reducible rfl)
      simp only [List.setIfInBounds_toArray, List.set_cons_zero, List.set_cons_succ]
      refine rs.want_take (i := 16) 30 (v := ?_) rfl rfl (by kernel_rfl) (by kernel_rfl) (by kernel_rfl) (fun _ _ _ _ h => h) rfl ?_ (by assumption) ?_
      rotate_left 1
      · (intro w hSw; obtain ⟨b0, b1, b2, b3, b4, b5, b6, b7⟩ := hSw; go_simp; try with_reducible rfl)
      simp only [List.setIfInBounds_toArray, List.set_cons_zero, List.set_cons_succ]
      refine rs.want_take (i := 17) 31 (v := ?_) rfl rfl (by kernel_rfl) (by kernel_rfl) (by kernel_rfl) (fun _ _ _ _ h => h) rfl ?_ (by assumption) ?_
      rotate_left 1
      · (intro w hSw; obtain ⟨b0, b1, b2, b3, b4, b5, b6, b7⟩ := hSw; go_simp; try with_reducible rfl)
      simp only [List.setIfInBounds_toArray, List.set_cons_zero, List.set_cons_succ]
      refine rs.want_take (i := 18) 32 (v := ?_) rfl rfl (by kernel_rfl) (by kernel_rfl) (by kernel_rfl) (fun _ _ _ _ h => h) rfl ?_ (by assumption) ?_
      rotate_left 1
      · (intro w hSw; obtain ⟨b0, b1, b2, b3, b4, b5, b6, b7⟩ := hSw; go_simp; try with_reducible rfl)
      simp only [List.setIfInBounds_toArray, List.set_cons_zero, List.set_cons_succ]
      refine rs.want_take (i := 19) 33 (v := ?_) rfl rfl (by kernel_rfl) (by kernel_rfl) (by kernel_rfl) (fun _ _ _ _ h => h) rfl ?_ (by assumption) ?_
      rotate_left 1
      · (intro w hSw; obtain ⟨b0, b1, b2, b3, b4, b5, b6, b7⟩ := hSw; go_simp; try with_reducible rfl)
      simp only [List.setIfInBounds_toArray, List.set_cons_zero, List.set_cons_succ]
      refine rs.want_take (i := 20) 34 (v := ?_) rfl rfl (by kernel_rfl) (by kernel_rfl) (by kernel_rfl) (fun _ _ _ _ h => h) rfl ?_ (by assumption) ?_
      rotate_left 1
      · (intro w hSw; obtain ⟨b0, b1, b2, b3, b4, b5, b6, b7⟩ := hSw; go_simp; try with_reducible rfl)
      simp only [List.setIfInBounds_toArray, List.set_cons_zero, List.set_cons_succ]
      refine rs.want_take (i := 21) 35 (v := ?_) rfl rfl (by kernel_rfl) (by kernel_rfl) (by kernel_rfl) (fun _ _ _ _ h => h) rfl ?_ (by assumption) ?_
      rotate_left 1
      · (intro w hSw; obtain ⟨b0, b1, b2, b3, b4, b5, b6, b7⟩ := hSw; go_simp; try with_reducible rfl)
      simp only [List.setIfInBounds_toArray, List.set_cons_zero, List.set_cons_succ]
      refine rs.want_take (i := 22) 36 (v := ?_) rfl rfl (by kernel_rfl) (by kernel_rfl) (by kernel_rfl) (fun _ _ _ _ h => h) rfl ?_ (by assumption) ?_
      rotate_left 1
      · (intro w hSw; obtain ⟨b0, b1, b2, b3, b4, b5, b6, b7⟩ := hSw; go_simp; try with_reducible rfl)
      simp only [List.setIfInBounds_toArray, List.set_cons_zero, List.set_cons_succ]
      refine rs.want_take (i := 23) 37 (v := ?_) rfl rfl (by kernel_rfl) (by kernel_rfl) (by kernel_rfl) (fun _ _ _ _ h => h) rfl ?_ (by assumption) ?_
      rotate_left 1
      · (intro w hSw; obtain ⟨b0, b1, b2, b3, b4, b5, b6, b7⟩ := hSw; go_simp; try with_reducible rfl)
      simp only [List.setIfInBounds_toArray, List.set_cons_zero, List.set_cons_succ]
      refine rs.want_take (i := 24) 38 (v := ?_) rfl rfl (by kernel_rfl) (by kernel_rfl) (by kernel_rfl) (fun _ _ _ _ h => h) rfl ?_ (by assumption) ?_
      rotate_left 1
      · (intro w hSw; obtain ⟨b0, b1, b2, b3, b4, b5, b6, b7⟩ := hSw; go_simp; try with_reducible rfl)
      simp only [List.setIfInBounds_toArray, List.set_cons_zero, List.set_cons_succ]
      refine rs.want_take (i := 25) 39 (v := ?_) rfl rfl (by kernel_rfl) (by kernel_rfl) (by kernel_rfl) (fun _ _ _ _ h => h) rfl ?_ (by assumption) ?_
      rotate_left 1
      · (intro w hSw; obtain ⟨b0, b1, b2, b3, b4, b5, b6, b7⟩ := hSw; go_simp; try with_reducible rfl)
      simp only [List.setIfInBounds_toArray, List.set_cons_zero, List.set_cons_succ]
      refine rs.want_take (i := 26) 40 (v := ?_) rfl rfl (by kernel_rfl) (by kernel_rfl) (by kernel_rfl) (fun _ _ _ _ h => h) rfl ?_ (by assumption) ?_
      rotate_left 1
      · (intro w hSw; obtain ⟨b0, b1, b2, b3, b4, b5, b6, b7⟩ := hSw; go_simp; try with_reducible rfl)
      simp only [List.setIfInBounds_toArray, List.set_cons_zero, List.set_cons_succ]
      refine rs.want_take (i := 27) 41 (v := ?_) rfl rfl (by kernel_rfl) (by kernel_rfl) (by kernel_rfl) (fun _ _ _ _ h => h) rfl ?_ (by assumption) ?_
      rotate_left 1
      · (intro w hSw; obtain ⟨b0, b1, b2, b3, b4, b5, b6, b7⟩ := hSw; go_simp; try with_reducible rfl)
      simp only [List.setIfInBounds_toArray, List.set_cons_zero, List.set_cons_succ]
      refine rs.want_take (i := 28) 42 (v := ?_) rfl rfl (by kernel_rfl) (by kernel_rfl) (by kernel_rfl) (fun _ _ _ _ h => h) rfl ?_ (by assumption) ?_
      rotate_left 1
      · (intro w hSw; obtain ⟨b0, b1, b2, b3, b4, b5, b6, b7⟩ := hSw; go_simp; try with_reducible rfl)
      simp only [List.setIfInBounds_toArray, List.set_cons_zero, List.set_cons_succ]
      refine rs.want_take (i := 29) 43 (v := ?_) rfl rfl (by kernel_rfl) (by kernel_rfl) (by kernel_rfl) (fun _ _ _ _ h => h) rfl ?_ (by assumption) ?_
      rotate_left 1
      · (intro w hSw; obtain ⟨b0, b1, b2, b3, b4, b5, b6, b7⟩ := hSw; go_simp; try with_reducible rfl)
      simp only [List.setIfInBounds_toArray, List.set_cons_zero, List.set_cons_succ]
      refine rs.want_take (i := 30) 44 (v := ?_) rfl rfl (by kernel_rfl) (by kernel_rfl) (by kernel_rfl) (fun _ _ _ _ h => h) rfl ?_ (by assumption) ?_
      rotate_left 1
      · (intro w hSw; obtain ⟨b0, b1, b2, b3, b4, b5, b6, b7⟩ := hSw; go_simp; try with_reducible rfl)
      simp only [List.setIfInBounds_toArray, List.set_cons_zero, List.set_cons_succ]
      refine rs.want_take (i := 31) 45 (v := ?_) rfl rfl (by kernel_rfl) (by kernel_rfl) (by kernel_rfl) (fun _ _ _ _ h => h) rfl ?_ (by assumption) ?_
      rotate_left 1
      · (intro w hSw; obtain ⟨b0, b1, b2, b3, b4, b5, b6, b7⟩ := hSw; go_simp; try with_reducible rfl)
      simp only [List.setIfInBounds_toArray, List.set_cons_zero, List.set_cons_succ]
      refine rs.want_take (i := 32) 46 (v := ?_) rfl rfl (by kernel_rfl) (by kernel_rfl) (by kernel_rfl) (fun _ _ _ _ h => h) rfl ?_ (by assumption) ?_
      rotate_left 1
      · (intro w hSw; obtain ⟨b0, b1, b2, b3, b4, b5, b6, b7⟩ := hSw; go_simp; try with_reducible rfl)
      simp only [List.setIfInBounds_toArray, List.set_cons_zero, List.set_cons_succ]
      refine rs.want_take (i := 33) 47 (v := ?_) rfl rfl (by kernel_rfl) (by kernel_rfl) (by kernel_rfl) (fun _ _ _ _ h => h) rfl ?_ (by assumption) ?_
      rotate_left 1
      · (intro w hSw; obtain ⟨b0, b1, b2, b3, b4, b5, b6, b7⟩ := hSw; go_simp; try with_reducible rfl)
      simp only [List.setIfInBounds_toArray, List.set_cons_zero, List.set_cons_succ]
      refine rs.want_take (i := 34) 48 (v := ?_) rfl rfl (by kernel_rfl) (by kernel_rfl) (by kernel_rfl) (fun _ _ _ _ h => h) rfl ?_ (by assumption) ?_
      rotate_left 1
      · (intro w hSw; obtain ⟨b0, b1, b2, b3, b4, b5, b6, b7⟩ := hSw; go_simp; try with_reducible rfl)
      simp only [List.setIfInBounds_toArray, List.set_cons_zero, List.set_cons_succ]
      have hWX : Below W.heap.size W (W.alloc (.cells zF0 24)).drew := ((Below.refl W.heap.size W).alloc (Nat.le_refl _) _).drew
      have hX : Blk (W.alloc (.cells zF0 24)).drew W.heap.size 24 zF0 := Blk.new W 24 zF0
      refine wpAnyH_ready (rs := [35]) (by kernel_rfl) (by simp) ?_
      refine AllReadyH.cons rfl (fun K hK => ?_) AllReadyH.nil
      go_simp
      refine hK.out _ _ ⟨(hWX.cell (p := ⟨g, o, none⟩) hg).trans b0, (hWX.cell (p := ⟨g, o + 1, none⟩) hg).trans b1, (hWX.cell (p := ⟨g, o + 2, none⟩) hg).trans b2, (hWX.cell (p := ⟨g, o + 3, none⟩) hg).trans b3, (hWX.cell (p := ⟨g, o + 4, none⟩) hg).trans b4, (hWX.cell (p := ⟨g, o + 5, none⟩) hg).trans b5, (hWX.cell (p := ⟨g, o + 6, none⟩) hg).trans b6, (hWX.cell (p := ⟨g, o + 7, none⟩) hg).trans b7⟩ (fun hHeld => ?_)
      clear hK K hHeld
      generalize (W.alloc (.cells zF0 24)).drew = X at hX hWX ⊢
      obtain ⟨x0, x1, x2, x3, x4, x5, x6, x7, x8, x9, _⟩ := ten hX
      obtain ⟨f0, f1, f2, f3, f4, f5, f6, f7, f8, f9⟩ := ten_frozen hX
      refine wpAnyH_ready (rs := [36]) (by kernel_rfl) (by simp) ?_
      refine AllReadyH.cons rfl (fun K hK => ?_) AllReadyH.nil
      go_simp
      have hWY := put10 hWX (Nat.le_refl W.heap.size) (.int .i64 v0) (.int .i64 v1) (.int .i64 v2) (.int .i64 v3) (.int .i64 v4) (.int .i64 v5) (.int .i64 (v6 * 256 + v7)) (.int .i64 0) (.int .i64 0) (.string ⟨#[]⟩)
      have hY : Blk ((((((((((X.setCell ⟨W.heap.size, 0, none⟩ (.int .i64 v0)).setCell ⟨W.heap.size, 1, none⟩ (.int .i64 v1)).setCell ⟨W.heap.size, 2, none⟩ (.int .i64 v2)).setCell ⟨W.heap.size, 3, none⟩ (.int .i64 v3)).setCell ⟨W.heap.size, 4, none⟩ (.int .i64 v4)).setCell ⟨W.heap.size, 5, none⟩ (.int .i64 v5)).setCell ⟨W.heap.size, 6, none⟩ (.int .i64 (v6 * 256 + v7))).setCell ⟨W.heap.size, 7, none⟩ (.int .i64 0)).setCell ⟨W.heap.size, 8, none⟩ (.int .i64 0)).setCell ⟨W.heap.size, 9, none⟩ (.string ⟨#[]⟩)) W.heap.size 24 #[.int .i64 v0, .int .i64 v1, .int .i64 v2, .int .i64 v3, .int .i64 v4, .int .i64 v5, .int .i64 (v6 * 256 + v7), .int .i64 0, .int .i64 0, .string ⟨#[]⟩] := by simpa using ((((((((((hX.put 0 (.int .i64 v0)).put 1 (.int .i64 v1)).put 2 (.int .i64 v2)).put 3 (.int .i64 v3)).put 4 (.int .i64 v4)).put 5 (.int .i64 v5)).put 6 (.int .i64 (v6 * 256 + v7))).put 7 (.int .i64 0)).put 8 (.int .i64 0)).put 9 (.string ⟨#[]⟩))
      refine hK.out _ _ ⟨(hWY.cell (p := ⟨g, o, none⟩) hg).trans b0, (hWY.cell (p := ⟨g, o + 1, none⟩) hg).trans b1, (hWY.cell (p := ⟨g, o + 2, none⟩) hg).trans b2, (hWY.cell (p := ⟨g, o + 3, none⟩) hg).trans b3, (hWY.cell (p := ⟨g, o + 4, none⟩) hg).trans b4, (hWY.cell (p := ⟨g, o + 5, none⟩) hg).trans b5, (hWY.cell (p := ⟨g, o + 6, none⟩) hg).trans b6, (hWY.cell (p := ⟨g, o + 7, none⟩) hg).trans b7⟩ (fun hHeld => ?_)
      clear hK K hHeld x0 x1 x2 x3 x4 x5 x6 x7 x8 x9 f0 f1 f2 f3 f4 f5 f6 f7 f8 f9 hX hWX
      generalize ((((((((((X.setCell ⟨W.heap.size, 0, none⟩ (.int .i64 v0)).setCell ⟨W.heap.size, 1, none⟩ (.int .i64 v1)).setCell ⟨W.heap.size, 2, none⟩ (.int .i64 v2)).setCell ⟨W.heap.size, 3, none⟩ (.int .i64 v3)).setCell ⟨W.heap.size, 4, none⟩ (.int .i64 v4)).setCell ⟨W.heap.size, 5, none⟩ (.int .i64 v5)).setCell ⟨W.heap.size, 6, none⟩ (.int .i64 (v6 * 256 + v7))).setCell ⟨W.heap.size, 7, none⟩ (.int .i64 0)).setCell ⟨W.heap.size, 8, none⟩ (.int .i64 0)).setCell ⟨W.heap.size, 9, none⟩ (.string ⟨#[]⟩)) = Y at hWY hY ⊢
      refine wpAnyH_done (by kernel_rfl) ?_ _
      have y8 : Y.cell? ⟨g, o + 8, none⟩ = some (.int .u8 (vl l 8)) := (hWY.cell (p := ⟨g, o + 8, none⟩) hg).trans (HC.out 8 (by omega))
      have b9 := HC.out 9 (by omega)
      have b10 := HC.out 10 (by omega)
      have b11 := HC.out 11 (by omega)
      have b12 := HC.out 12 (by omega)
      have b13 := HC.out 13 (by omega)
      have b14 := HC.out 14 (by omega)
      have HRow := Lib.hid (fun V (hV : Below W.heap.size W V) => row_four (h := h) (HR.out.later hV))
      have lo8 := HLo.out 8; have hi8 := HHi.out 8
      have lo9 := HLo.out 9; have hi9 := HHi.out 9
      have loa := HLo.out 10; have hia := HHi.out 10
      have HPs : Hid (psr l = ⟨v0, v1, v2, v3, v4, v5, v6 * 256 + v7, vl l 8, vl l 9 * 256 + vl l 10, four l 11⟩) := by
        have e := HPs.out
        rw [if_pos (by omega)] at e
        exact e
      obtain ⟨xx, hxx⟩ : ∃ xx, four l 11 = xx := ⟨_, rfl⟩
      have hxz : xx.size ≤ maxLen := by rw [← hxx, four_size]; unfold maxLen; omega
      rw [hxx] at HPs HRow
      generalize vl l 8 = v8 at y8 lo8 hi8 HPs
      generalize vl l 9 = v9 at b9 lo9 hi9 HPs
      generalize vl l 10 = v10 at b10 loa hia HPs
      clear hxx b11 b12 b13 b14 W0 W1 W2 W3 W4 W5 W6 W7 W8 W9 b0 b1 b2 b3 b4 b5 b6 b7 HC
      have HY := Lib.hid hY
      have HWY := Lib.hid hWY
      obtain ⟨x0, x1, x2, x3, x4, x5, x6, x7, x8, x9, _⟩ := ten hY
      obtain ⟨f0, f1, f2, f3, f4, f5, f6, f7, f8, f9⟩ := ten_frozen hY
      clear hY hWY
      go_upto_region 6 with (fail)
      have hWY7 := HWY.out.setCell (p := ⟨W.heap.size, 7, none⟩) (Nat.le_refl _) (.int .i64 v8)
      have hY7 : Blk (Y.setCell ⟨W.heap.size, 7, none⟩ (.int .i64 v8)) W.heap.size 24 #[.int .i64 v0, .int .i64 v1, .int .i64 v2, .int .i64 v3, .int .i64 v4, .int .i64 v5, .int .i64 (v6 * 256 + v7), .int .i64 v8, .int .i64 0, .string ⟨#[]⟩] := by simpa using HY.out.put 7 (.int .i64 v8)
      clear x0 x1 x2 x3 x4 x5 x6 x7 x8 x9 f0 f1 f2 f3 f4 f5 f6 f7 f8 f9 HY HWY y8
      generalize Y.setCell ⟨W.heap.size, 7, none⟩ (.int .i64 v8) = Y7 at hWY7 hY7 ⊢
      have y9 := (hWY7.cell (p := ⟨g, o + 9, none⟩) hg).trans b9
      have y10 := (hWY7.cell (p := ⟨g, o + 10, none⟩) hg).trans b10
      have HWY7 := Lib.hid hWY7
      have HY7 := Lib.hid hY7
      have x8 := hY7.cell 8
      simp only [List.getElem?_toArray, List.getElem?_cons_succ, List.getElem?_cons_zero] at x8
      have f8 := hY7.frozen 8
      have i9 : IntKind.i64.wrap v9 = v9 := by rw [IntKind.wrap_i64]; omega
      have i10 : IntKind.i64.wrap v10 = v10 := by rw [IntKind.wrap_i64]; omega
      have i11 : IntKind.i64.wrap (v9 * 256) = v9 * 256 := by rw [IntKind.wrap_i64]; omega
      have i12 : IntKind.i64.wrap (v9 * 256 + v10) = v9 * 256 + v10 := by rw [IntKind.wrap_i64]; omega
      have hgX : g ≠ W.heap.size := by omega
      clear hY7 hWY7
      go_region
      clear i9 i10 i11 i12 x8 f8 y9 y10 b9 b10
      have hWY8 := (HWY7.out.setCell (p := ⟨W.heap.size, 8, none⟩) (Nat.le_refl _) (.int .i64 (v9 * 256 + v10))).drew
      have hY8 : Blk (Y7.setCell ⟨W.heap.size, 8, none⟩ (.int .i64 (v9 * 256 + v10))).drew W.heap.size 24 #[.int .i64 v0, .int .i64 v1, .int .i64 v2, .int .i64 v3, .int .i64 v4, .int .i64 v5, .int .i64 (v6 * 256 + v7), .int .i64 v8, .int .i64 (v9 * 256 + v10), .string ⟨#[]⟩] := by
        have e := HY7.out.put 8 (.int .i64 (v9 * 256 + v10))
        simp at e
        exact e
      generalize (Y7.setCell ⟨W.heap.size, 8, none⟩ (.int .i64 (v9 * 256 + v10))).drew = Y8 at hWY8 hY8 ⊢
      have hcvx := HRow.out Y8 hWY8 (c - 11)
      have x9 := hY8.cell 9
      simp only [List.getElem?_toArray, List.getElem?_cons_succ, List.getElem?_cons_zero] at x9
      have f9 := hY8.frozen 9
      have hc15 : (15 : Int) ≤ (c : Int) := by omega
      have HY8 := Lib.hid hY8
      have HWY8 := Lib.hid hWY8
      clear hY8 hWY8 HY7 HWY7 HRow
      go_upto_region 8 with (fail)
      clear hcvx x9 f9
      have hWY := HWY8.out.setCell (p := ⟨W.heap.size, 9, none⟩) (Nat.le_refl _) (.string xx)
      have hY : Blk (Y8.setCell ⟨W.heap.size, 9, none⟩ (.string xx)) W.heap.size 24 #[.int .i64 v0, .int .i64 v1, .int .i64 v2, .int .i64 v3, .int .i64 v4, .int .i64 v5, .int .i64 (v6 * 256 + v7), .int .i64 v8, .int .i64 (v9 * 256 + v10), .string xx] := by simpa using HY8.out.put 9 (.string xx)
      generalize Y8.setCell ⟨W.heap.size, 9, none⟩ (.string xx) = Y at hWY hY ⊢
      have HY := Lib.hid hY
      have HZ := Lib.hid (hZ.below hWY hZ.lt)
      have HRY := Lib.hid (HR.out.later hWY)
      have HBY := Lib.hid (hB0.trans (hWY.mono hB0.size))
      have HP := Lib.hid (fun V => spack_any ⟨v0, v1, v2, v3, v4, v5, v6 * 256 + v7, v8, v9 * 256 + v10, xx⟩ V hxz)
      obtain ⟨lp, hlp⟩ : ∃ lp, pk ⟨v0, v1, v2, v3, v4, v5, v6 * 256 + v7, v8, v9 * 256 + v10, xx⟩ = lp := ⟨_, rfl⟩
      rw [hlp] at HP
      unfold frv at HP
      simp only at HP
      have HLP := Lib.hid hlp
      clear hlp hY hWY hZ hB0 HR hg HY8 HWY8 hxz
      cases hi : isF l with
      | true =>
        have HI := Lib.hid hi
        have HU := Lib.hid (show unp l = ⟨v0, v1, v2, v3, v4, v5, v6 * 256 + v7, v8, v9 * 256 + v10, xx⟩ by unfold unp; rw [hi, if_pos rfl, HPs.out])
        have hlp : lp = l := by rw [← HLP.out, ← HPs.out]; exact (of_decide_eq_true hi).2
        have hlp' := hlp.symm
        clear hi HLP HPs hlp
        subst hlp'
        refine wp_region_held_drew (S := (fun w' : World => RowB w' (some ⟨g, o, none⟩) l ∧ Blk w' W.heap.size 24 #[.int .i64 v0, .int .i64 v1, .int .i64 v2, .int .i64 v3, .int .i64 v4, .int .i64 v5, .int .i64 (v6 * 256 + v7), .int .i64 v8, .int .i64 (v9 * 256 + v10), .string xx])) (by kernel_rfl) ⟨HRY.out, HY.out⟩ (fun hHeld => ?_)
        refine rs.want_take (i := 0) 72 (v := ?_) rfl rfl (by kernel_rfl) (by kernel_rfl) (by kernel_rfl) (fun _ _ _ _ h => h) rfl ?_ (by assumption) ?_
        rotate_left 1
        · (intro w hSw; obtain ⟨c0, c1, c2, c3, c4, c5, c6, c7, c8, c9, _⟩ := ten hSw.2; go_simp; try with_reducible rfl)
        simp only [List.setIfInBounds_toArray, List.set_cons_zero, List.set_cons_succ]
        refine rs.want_take (i := 3) 75 (v := ?_) rfl rfl (by kernel_rfl) (by kernel_rfl) (by kernel_rfl) (fun _ _ _ _ h => h) rfl ?_ (by assumption) ?_
        rotate_left 1
        · (intro w hSw; go_simp; try with_reducible rfl)
        simp only [List.setIfInBounds_toArray, List.set_cons_zero, List.set_cons_succ]
        refine rs.want_take (i := 4) 76 (v := ?_) rfl rfl (by kernel_rfl) (by kernel_rfl) (by kernel_rfl) (fun _ _ _ _ h => h) rfl ?_ (by assumption) ?_
        rotate_left 1
        · (intro w hSw; have hcv := conv_any hSw.1 c; rw [h] at hcv; go_simp; go_simp; try with_reducible rfl)
        simp only [List.setIfInBounds_toArray, List.set_cons_zero, List.set_cons_succ]
        refine wpAnyH_ready (rs := [1]) (by kernel_rfl) (by simp) ?_
        refine AllReadyH.cons rfl (fun K hK => ?_) AllReadyH.nil
        go_simp
        refine (HP.out _).mono ?_
        rintro e w5 ⟨A5, n5, p5, rfl, hO5⟩
        obtain ⟨hn5, hR5⟩ := own_rowN hO5
        subst hn5
        have hS5 : RowB w5 (some ⟨g, o, none⟩) l ∧ Blk w5 W.heap.size 24 #[.int .i64 v0, .int .i64 v1, .int .i64 v2, .int .i64 v3, .int .i64 v4, .int .i64 v5, .int .i64 (v6 * 256 + v7), .int .i64 v8, .int .i64 (v9 * 256 + v10), .string xx] := ⟨hHeld.1.later hO5.2, hHeld.2.below hO5.2 hHeld.2.lt⟩
        have HB5 := Lib.hid (HBY.out.drew.trans (hO5.2.mono HBY.out.drew.size))
        have HZ5 := Lib.hid (Blk.below (w := Y.drew) HZ.out hO5.2 HZ.out.lt)
        refine hK.out _ _ hS5 (fun hHeld => ?_)
        clear hK K
        refine wpAnyH_ready (rs := [2]) (by kernel_rfl) (by simp) ?_
        refine AllReadyH.cons rfl (fun K hK => ?_) AllReadyH.nil
        have hcv5 := conv_any hR5 p5
        (try rw [h] at hcv5)
        go_simp
        refine hK.out _ _ hS5 (fun hHeld => ?_)
        clear hK K hcv5
        refine rs.want_take (i := 5) 77 (v := ?_) rfl rfl (by kernel_rfl) (by kernel_rfl) (by kernel_rfl) (fun _ _ _ _ h => h) rfl ?_ (by assumption) ?_
        rotate_left 1
        · (intro w hSw; go_simp; try with_reducible rfl)
        simp only [List.setIfInBounds_toArray, List.set_cons_zero, List.set_cons_succ]
        refine wpAnyH_done (by kernel_rfl) ?_ _
        obtain ⟨z0, z1, z2, z3, z4, z5, z6, z7, z8, z9, _⟩ := ten HZ5.out
        obtain ⟨g0, g1, g2, g3, g4, g5, g6, g7, g8, g9⟩ := ten_frozen HZ5.out
        obtain ⟨c0, c1, c2, c3, c4, c5, c6, c7, c8, c9, _⟩ := ten hS5.2
        clear hS5 hHeld hO5 hR5 HZ HZ5 HY HRY HBY HP
        go_wp2
        refine bodyPost_ret (v := .tuple #[frv ⟨v0, v1, v2, v3, v4, v5, v6 * 256 + v7, v8, v9 * 256 + v10, xx⟩, .bool true]) (by simp [results, Tryd.results15, go_sem, frv, *]) rfl ⟨by rw [HU.out, HI.out], ?_⟩
        exact put10 HB5.out (Nat.le_refl _) _ _ _ _ _ _ _ _ _ _
      | false =>
        have HI := Lib.hid hi
        have HU := Lib.hid (show unp l = fr0 by unfold unp; rw [hi]; rfl)
        have hlp : lp ≠ l := fun e => by
          have : isF l = true := decide_eq_true ⟨by omega, by rw [HPs.out, HLP.out]; exact e⟩
          rw [hi] at this
          cases this
        have hcmp0 := txt_ne hlp
        have hcmp : ((txt lp).toList != (txt l).toList) = true := by
          show (!((txt lp).toList == (txt l).toList)) = true
          rw [hcmp0]; rfl
        have hcmp1 : ¬ (txt lp).toList = (txt l).toList := fun e => by rw [e] at hcmp0; simp at hcmp0
        have hcmp2 : ¬ txt lp = txt l := fun e => hlp (txt_inj e)
        clear hi hlp HLP HPs
        refine wp_region_held_drew (S := (fun w' : World => RowB w' (some ⟨g, o, none⟩) l ∧ Blk w' W.heap.size 24 #[.int .i64 v0, .int .i64 v1, .int .i64 v2, .int .i64 v3, .int .i64 v4, .int .i64 v5, .int .i64 (v6 * 256 + v7), .int .i64 v8, .int .i64 (v9 * 256 + v10), .string xx])) (by kernel_rfl) ⟨HRY.out, HY.out⟩ (fun hHeld => ?_)
        refine rs.want_take (i := 0) 72 (v := ?_) rfl rfl (by kernel_rfl) (by kernel_rfl) (by kernel_rfl) (fun _ _ _ _ h => h) rfl ?_ (by assumption) ?_
        rotate_left 1
        · (intro w hSw; obtain ⟨c0, c1, c2, c3, c4, c5, c6, c7, c8, c9, _⟩ := ten hSw.2; go_simp; try with_reducible rfl)
        simp only [List.setIfInBounds_toArray, List.set_cons_zero, List.set_cons_succ]
        refine rs.want_take (i := 3) 75 (v := ?_) rfl rfl (by kernel_rfl) (by kernel_rfl) (by kernel_rfl) (fun _ _ _ _ h => h) rfl ?_ (by assumption) ?_
        rotate_left 1
        · (intro w hSw; go_simp; try with_reducible rfl)
        simp only [List.setIfInBounds_toArray, List.set_cons_zero, List.set_cons_succ]
        refine rs.want_take (i := 4) 76 (v := ?_) rfl rfl (by kernel_rfl) (by kernel_rfl) (by kernel_rfl) (fun _ _ _ _ h => h) rfl ?_ (by assumption) ?_
        rotate_left 1
        · (intro w hSw; have hcv := conv_any hSw.1 c; rw [h] at hcv; go_simp; go_simp; try with_reducible rfl)
        simp only [List.setIfInBounds_toArray, List.set_cons_zero, List.set_cons_succ]
        refine wpAnyH_ready (rs := [1]) (by kernel_rfl) (by simp) ?_
        refine AllReadyH.cons rfl (fun K hK => ?_) AllReadyH.nil
        go_simp
        refine (HP.out _).mono ?_
        rintro e w5 ⟨A5, n5, p5, rfl, hO5⟩
        obtain ⟨hn5, hR5⟩ := own_rowN hO5
        subst hn5
        have hS5 : RowB w5 (some ⟨g, o, none⟩) l ∧ Blk w5 W.heap.size 24 #[.int .i64 v0, .int .i64 v1, .int .i64 v2, .int .i64 v3, .int .i64 v4, .int .i64 v5, .int .i64 (v6 * 256 + v7), .int .i64 v8, .int .i64 (v9 * 256 + v10), .string xx] := ⟨hHeld.1.later hO5.2, hHeld.2.below hO5.2 hHeld.2.lt⟩
        have HB5 := Lib.hid (HBY.out.drew.trans (hO5.2.mono HBY.out.drew.size))
        have HZ5 := Lib.hid (Blk.below (w := Y.drew) HZ.out hO5.2 HZ.out.lt)
        refine hK.out _ _ hS5 (fun hHeld => ?_)
        clear hK K
        refine wpAnyH_ready (rs := [2]) (by kernel_rfl) (by simp) ?_
        refine AllReadyH.cons rfl (fun K hK => ?_) AllReadyH.nil
        have hcv5 := conv_any hR5 p5
        (try rw [h] at hcv5)
        go_simp
        refine hK.out _ _ hS5 (fun hHeld => ?_)
        clear hK K hcv5
        refine rs.want_take (i := 5) 77 (v := ?_) rfl rfl (by kernel_rfl) (by kernel_rfl) (by kernel_rfl) (fun _ _ _ _ h => h) rfl ?_ (by assumption) ?_
        rotate_left 1
        · (intro w hSw; go_simp; try with_reducible rfl)
        simp only [List.setIfInBounds_toArray, List.set_cons_zero, List.set_cons_succ]
        refine wpAnyH_done (by kernel_rfl) ?_ _
        obtain ⟨z0, z1, z2, z3, z4, z5, z6, z7, z8, z9, _⟩ := ten HZ5.out
        obtain ⟨g0, g1, g2, g3, g4, g5, g6, g7, g8, g9⟩ := ten_frozen HZ5.out
        obtain ⟨c0, c1, c2, c3, c4, c5, c6, c7, c8, c9, _⟩ := ten hS5.2
        clear hS5 hHeld hO5 hR5 HZ HZ5 HY HRY HBY HP
        clear c0 c1 c2 c3 c4 c5 c6 c7 c8 c9
        go_wp2
        refine bodyPost_ret (v := .tuple #[frv fr0, .bool false]) (by simp [results, Tryd.results15, go_sem, frv, fr0, *]) rfl ⟨by rw [HU.out, HI.out], ?_⟩
        exact put10 HB5.out (Nat.le_refl _) _ _ _ _ _ _ _ _ _ _
  · have HN := Lib.hid (isF_no (l := l) (by omega) (by omega))
    have HU := Lib.hid (show unp l = fr0 by unfold unp; rw [HN.out]; rfl)
    have n10 : ((l.length : Int) != 10) = true := by simp; omega
    have n17 : ((l.length : Int) != 17) = true := by simp; omega
    obtain ⟨z0, z1, z2, z3, z4, z5, z6, z7, z8, z9, _⟩ := ten hZ
    obtain ⟨g0, g1, g2, g3, g4, g5, g6, g7, g8, g9⟩ := ten_frozen hZ
    clear hr h10
    go_enter Tryd.func15, Tryd.ntmps15
    go_upto_region 1 with (fail)
    generalize w.alloc (.cells zF0 24) = W at hZ hB0 z0 z1 z2 z3 z4 z5 z6 z7 z8 z9 g0 g1 g2 g3 g4 g5 g6 g7 g8 g9 ⊢
    go_wp2
    refine bodyPost_ret (v := .tuple #[frv fr0, .bool false]) (by simp [results, Tryd.results15, go_sem, frv, fr0, *]) rfl ⟨by rw [HU.out, HN.out], ?_⟩
    exact put10 hB0 (Nat.le_refl _) _ _ _ _ _ _ _ _ _ _
end Go.Proofs.YtgihbilpimempaaDoor.fr
