/-
  Merged texts: HfRing, HfImpl1, HfImpl2, HfImpl3, HfHas, HfHas2.
-/
import Derived.Test.YtckicpnnclbkpaaGreatDoorE39
namespace Go.Proofs.YtckicpnnclbkpaaGreatDoor.hf
open Go.ChangeShapes Go.WideShapes Go.ChangeAt Go.RowKit
open wd ow rl ok kp nb
def RingAt (W : World) (nb k : Nat) (hd : List Value) (lr : List Hr) : Prop := ∃ cs : Array Value, Blk W nb 75 cs ∧ cs.size = 29 ∧ cs[26]? = some (.int .i64 0) ∧ cs[27]? = some (.int .i64 k) ∧
 (∀ i, i < 8 → cs[i]? = hd[i]?) ∧ ∀ (i : Nat) (r : Hr), i < k → lr[i]? = some r → ∀ j u, (hrF r)[j]? = some u → cs[8 + i * 6 + j]? = some u
theorem slot_h (nb k : Nat) (hk : k < 3) (w : World) : Calls Tryz.prog 96 #[.pointer (some ⟨nb, 8, none⟩), .int .i64 k] w fun e w' => e = .returned (.pointer (some ⟨nb, 8 + k * 6, none⟩)) ∧ w = w' := by
 rcases (by omega : k = 0 ∨ k = 1 ∨ k = 2) with rfl | rfl | rfl
 ·go_enter Tryz.func96, Tryz.ntmps96
  go_wp2
  go_ret
  exact ⟨rfl, rfl⟩
 ·go_enter Tryz.func96, Tryz.ntmps96
  go_wp2
  go_ret
  exact ⟨rfl, rfl⟩
 ·go_enter Tryz.func96, Tryz.ntmps96
  go_wp2
  go_ret
  exact ⟨rfl, rfl⟩
abbrev hrW (x : Hr) : Value := .agg #[.int .i64 x.f, .int .i64 x.n, .int .i64 x.t, .int .i64 x.u, .int .i64 x.z, .slice x.A x.m x.c]
def PushP (w : World) (nb k : Nat) (hd : List Value) (lr : List Hr) (e : Ending) (w' : World) : Prop := e = .returned (.tuple #[]) ∧ RingAt w' nb (k + 1) hd lr ∧ w.grownBy w' (some nb)
set_option maxRecDepth 100000 in
set_option maxHeartbeats 3200000 in
theorem push_h (w : World) (nb k : Nat) (hk : k < 3) {hd : List Value} {lr : List Hr} (h : RingAt w nb k hd lr) (x : Hr) (hxl : lr[k]? = some x) :
  Calls Tryz.prog 68 #[.pointer (some ⟨nb, 8, none⟩), hrW x] w (PushP w nb k hd lr) := by
 obtain ⟨cs, hb, hs, h0, h1, hH, hL⟩ := h
 have HH := Lib.hid hH
 have HL := Lib.hid hL
 have HX := Lib.hid hxl
 clear hH hL hxl
 have hlt := hb.lt
 have K1 := Lib.hid (hb.alloc (.cells #[.int .i64 x.f, .int .i64 x.n, .int .i64 x.t, .int .i64 x.u, .int .i64 x.z, .slice x.A x.m x.c] 62))
 have K2 := Lib.hid (Blk.new w 62 #[.int .i64 x.f, .int .i64 x.n, .int .i64 x.t, .int .i64 x.u, .int .i64 x.z, .slice x.A x.m x.c])
 have HG := Lib.hid (kp.grown_on (kp.grown_refl w (some nb)) ((Below.refl w.heap.size w).alloc (Nat.le_refl _) (.cells #[.int .i64 x.f, .int .i64 x.n, .int .i64 x.t, .int .i64 x.u, .int .i64 x.z, .slice x.A x.m x.c] 62)))
 have HS := Lib.hid hs
 have c26 := (K1.out.cell 26).trans h0
 have c27 := (K1.out.cell 27).trans h1
 go_enter Tryz.func68, Tryz.ntmps68
 go_upto_region 1 with (fail)
 generalize w.alloc (.cells #[.int .i64 x.f, .int .i64 x.n, .int .i64 x.t, .int .i64 x.u, .int .i64 x.z, .slice x.A x.m x.c] 62) = V at K1 K2 HG c26 c27 ⊢
 generalize w.heap.size = r at K2 hlt ⊢
 have hne : ((k : Int) == 3) = false := by simp; omega
 have hne' : ¬ (k : Int) = 3 := by omega
 go_quiet (fail)
 go_upto_region 3 with (fail)
 have h0' := ow.below_drewN' (Below.refl V.heap.size V) nq
 have KN0 := Lib.hid (K1.out.below h0' K1.out.lt)
 have KX0 := Lib.hid (K2.out.below h0' K2.out.lt)
 have HG0 := Lib.hid (kp.grown_on HG.out h0')
 clear h0' c26 c27 K1 K2 HG
 generalize V.drewN nq = V1 at KN0 KX0 HG0 ⊢
 have h2 := (Below.refl V1.heap.size V1).drew
 refine wp_region_held_drew (S := (fun w' : World => (∃ cs' : Array Value, Blk w' nb 75 cs' ∧ cs'[26]? = some (.int .i64 0) ∧ cs'[27]? = some (.int .i64 k)) ∧ Blk w' r 62 #[.int .i64 x.f, .int .i64 x.n, .int .i64 x.t, .int .i64 x.u, .int .i64 x.z, .slice x.A x.m x.c])) (by kernel_rfl) ⟨⟨cs, KN0.out.below h2 KN0.out.lt, h0, h1⟩, KX0.out.below h2 KX0.out.lt⟩ (fun hHeld => ?_)
 clear hHeld
 have KN1 := Lib.hid (KN0.out.below h2 KN0.out.lt)
 have KX1 := Lib.hid (KX0.out.below h2 KX0.out.lt)
 have HG1 := Lib.hid (kp.grown_on HG0.out h2)
 clear h2 KN0 KX0 HG0
 generalize V1.drew = Z at KN1 KX1 HG1 ⊢
 have hKd : (∃ cs' : Array Value, Blk Z nb 75 cs' ∧ cs'[26]? = some (.int .i64 0) ∧ cs'[27]? = some (.int .i64 k)) ∧ Blk Z r 62 #[.int .i64 x.f, .int .i64 x.n, .int .i64 x.t, .int .i64 x.u, .int .i64 x.z, .slice x.A x.m x.c] := ⟨⟨cs, KN1.out, h0, h1⟩, KX1.out⟩
 refine rs.w 0 21 ?_ rfl ?_ ?_
 rotate_left 1
 ·(intro w' hSw; obtain ⟨⟨cs', hq, z26, z27⟩, hx⟩ := hSw; obtain ⟨k0, k1, k2, k3, k4, k5, _⟩ := sixh hx; have k26 := (hq.cell 26).trans z26; have k27 := (hq.cell 27).trans z27; go_simp; try with_reducible rfl)
 simp only [rs.a, rs.b, rs.c]
 refine rs.w 1 22 ?_ rfl ?_ ?_
 rotate_left 1
 ·(intro w' hSw; obtain ⟨⟨cs', hq, z26, z27⟩, hx⟩ := hSw; obtain ⟨k0, k1, k2, k3, k4, k5, _⟩ := sixh hx; have k26 := (hq.cell 26).trans z26; have k27 := (hq.cell 27).trans z27; go_simp; try with_reducible rfl)
 simp only [rs.a, rs.b, rs.c]
 refine rs.w 2 23 ?_ rfl ?_ ?_
 rotate_left 1
 ·(intro w' hSw; obtain ⟨⟨cs', hq, z26, z27⟩, hx⟩ := hSw; obtain ⟨k0, k1, k2, k3, k4, k5, _⟩ := sixh hx; have k26 := (hq.cell 26).trans z26; have k27 := (hq.cell 27).trans z27; go_simp; try with_reducible rfl)
 simp only [rs.a, rs.b, rs.c]
 refine rs.w 3 24 ?_ rfl ?_ ?_
 rotate_left 1
 ·(intro w' hSw; obtain ⟨⟨cs', hq, z26, z27⟩, hx⟩ := hSw; obtain ⟨k0, k1, k2, k3, k4, k5, _⟩ := sixh hx; have k26 := (hq.cell 26).trans z26; have k27 := (hq.cell 27).trans z27; go_simp; try with_reducible rfl)
 simp only [rs.a, rs.b, rs.c]
 refine rs.w 4 25 ?_ rfl ?_ ?_
 rotate_left 1
 ·(intro w' hSw; obtain ⟨⟨cs', hq, z26, z27⟩, hx⟩ := hSw; obtain ⟨k0, k1, k2, k3, k4, k5, _⟩ := sixh hx; have k26 := (hq.cell 26).trans z26; have k27 := (hq.cell 27).trans z27; go_simp; try with_reducible rfl)
 simp only [rs.a, rs.b, rs.c]
 refine rs.w 6 27 ?_ rfl ?_ ?_
 rotate_left 1
 ·(intro w' hSw; obtain ⟨⟨cs', hq, z26, z27⟩, hx⟩ := hSw; obtain ⟨k0, k1, k2, k3, k4, k5, _⟩ := sixh hx; have k26 := (hq.cell 26).trans z26; have k27 := (hq.cell 27).trans z27; go_simp; try with_reducible rfl)
 simp only [rs.a, rs.b, rs.c]
 refine wpAnyH_ready (rs := [5]) (by kernel_rfl) (by simp) ?_
 refine AllReadyH.cons rfl (fun K hK => ?_) AllReadyH.nil
 go_simp
 refine (slot_h nb k hk _).mono ?_
 rintro e u1 ⟨rfl, rfl⟩
 refine hK.out _ _ hKd (fun hHeld => ?_)
 clear hK K hHeld
 refine rs.w 7 28 ?_ rfl ?_ ?_
 rotate_left 1
 ·(intro w' hSw; obtain ⟨⟨cs', hq, z26, z27⟩, hx⟩ := hSw; obtain ⟨k0, k1, k2, k3, k4, k5, _⟩ := sixh hx; have k26 := (hq.cell 26).trans z26; have k27 := (hq.cell 27).trans z27; go_simp; try with_reducible rfl)
 simp only [rs.a, rs.b, rs.c]
 obtain ⟨o0, q0⟩ : ∃ v, Z.cell? ⟨nb, 8 + k * 6, none⟩ = some v := ⟨cs[8 + k * 6]'(by omega), by rw [KN1.out.cell]; exact Array.getElem?_eq_getElem (by omega)⟩
 have y0 := KN1.out.frozen (8 + k * 6)
 obtain ⟨o1, q1⟩ : ∃ v, Z.cell? ⟨nb, 8 + k * 6 + 1, none⟩ = some v := ⟨cs[8 + k * 6 + 1]'(by omega), by rw [KN1.out.cell]; exact Array.getElem?_eq_getElem (by omega)⟩
 have y1 := KN1.out.frozen (8 + k * 6 + 1)
 obtain ⟨o2, q2⟩ : ∃ v, Z.cell? ⟨nb, 8 + k * 6 + 2, none⟩ = some v := ⟨cs[8 + k * 6 + 2]'(by omega), by rw [KN1.out.cell]; exact Array.getElem?_eq_getElem (by omega)⟩
 have y2 := KN1.out.frozen (8 + k * 6 + 2)
 obtain ⟨o3, q3⟩ : ∃ v, Z.cell? ⟨nb, 8 + k * 6 + 3, none⟩ = some v := ⟨cs[8 + k * 6 + 3]'(by omega), by rw [KN1.out.cell]; exact Array.getElem?_eq_getElem (by omega)⟩
 have y3 := KN1.out.frozen (8 + k * 6 + 3)
 obtain ⟨o4, q4⟩ : ∃ v, Z.cell? ⟨nb, 8 + k * 6 + 4, none⟩ = some v := ⟨cs[8 + k * 6 + 4]'(by omega), by rw [KN1.out.cell]; exact Array.getElem?_eq_getElem (by omega)⟩
 have y4 := KN1.out.frozen (8 + k * 6 + 4)
 obtain ⟨o5, q5⟩ : ∃ v, Z.cell? ⟨nb, 8 + k * 6 + 5, none⟩ = some v := ⟨cs[8 + k * 6 + 5]'(by omega), by rw [KN1.out.cell]; exact Array.getElem?_eq_getElem (by omega)⟩
 have y5 := KN1.out.frozen (8 + k * 6 + 5)
 refine wpAnyH_ready (rs := [8]) (by kernel_rfl) (by simp) ?_
 refine AllReadyH.cons rfl (fun K hK => ?_) AllReadyH.nil
 go_simp
 obtain ⟨W2, hW2⟩ : ∃ W2, W2 = ((((((Z.setCell ⟨nb, 8 + k * 6, none⟩ (.int .i64 x.f)).setCell ⟨nb, 8 + k * 6 + 1, none⟩ (.int .i64 x.n)).setCell ⟨nb, 8 + k * 6 + 2, none⟩ (.int .i64 x.t)).setCell ⟨nb, 8 + k * 6 + 3, none⟩ (.int .i64 x.u)).setCell ⟨nb, 8 + k * 6 + 4, none⟩ (.int .i64 x.z)).setCell ⟨nb, 8 + k * 6 + 5, none⟩ (.slice x.A x.m x.c)) := ⟨_, rfl⟩
 obtain ⟨cs2, hc2, s2, c26, c27, d1, d2⟩ : ∃ cs2, Blk W2 nb 75 cs2 ∧ cs2.size = 29 ∧ cs2[26]? = some (.int .i64 0) ∧ cs2[27]? = some (.int .i64 k) ∧ (∀ i, i < 8 + k * 6 → cs2[i]? = cs[i]?) ∧ ∀ j u, (hrF x)[j]? = some u → cs2[8 + k * 6 + j]? = some u := by
  rw [hW2]
  refine ⟨_, ((((((KN1.out.put (8 + k * 6) (.int .i64 x.f)).put (8 + k * 6 + 1) (.int .i64 x.n)).put (8 + k * 6 + 2) (.int .i64 x.t)).put (8 + k * 6 + 3) (.int .i64 x.u)).put (8 + k * 6 + 4) (.int .i64 x.z)).put (8 + k * 6 + 5) (.slice x.A x.m x.c)), by simpa using hs, ?_, ?_, fun i hi => ?_, fun j u hu => ?_⟩
  ·simp only [Array.getElem?_setIfInBounds]
   rw [if_neg (by omega), if_neg (by omega), if_neg (by omega), if_neg (by omega), if_neg (by omega), if_neg (by omega)]
   exact h0
  ·simp only [Array.getElem?_setIfInBounds]
   rw [if_neg (by omega), if_neg (by omega), if_neg (by omega), if_neg (by omega), if_neg (by omega), if_neg (by omega)]
   exact h1
  ·simp only [Array.getElem?_setIfInBounds]
   rw [if_neg (by omega), if_neg (by omega), if_neg (by omega), if_neg (by omega), if_neg (by omega), if_neg (by omega)]
  ·have hj : j < 6 := (List.getElem?_eq_some_iff.1 hu).1
   rcases (by omega : j = 0 ∨ j = 1 ∨ j = 2 ∨ j = 3 ∨ j = 4 ∨ j = 5) with rfl | rfl | rfl | rfl | rfl | rfl
   ·simp only [Array.getElem?_setIfInBounds]
    rw [if_neg (by omega), if_neg (by omega), if_neg (by omega), if_neg (by omega), if_neg (by omega), if_pos (by omega), if_pos (by omega)]
    exact hu
   ·simp only [Array.getElem?_setIfInBounds]
    rw [if_neg (by omega), if_neg (by omega), if_neg (by omega), if_neg (by omega), if_pos trivial, if_pos (by simp only [Array.size_setIfInBounds]; omega)]
    exact hu
   ·simp only [Array.getElem?_setIfInBounds]
    rw [if_neg (by omega), if_neg (by omega), if_neg (by omega), if_pos trivial, if_pos (by simp only [Array.size_setIfInBounds]; omega)]
    exact hu
   ·simp only [Array.getElem?_setIfInBounds]
    rw [if_neg (by omega), if_neg (by omega), if_pos trivial, if_pos (by simp only [Array.size_setIfInBounds]; omega)]
    exact hu
   ·simp only [Array.getElem?_setIfInBounds]
    rw [if_neg (by omega), if_pos trivial, if_pos (by simp only [Array.size_setIfInBounds]; omega)]
    exact hu
   ·simp only [Array.getElem?_setIfInBounds]
    rw [if_pos trivial, if_pos (by simp only [Array.size_setIfInBounds]; omega)]
    exact hu
 have HG2 : Hid (w.grownBy W2 (some nb)) := by
  rw [hW2]
  exact kp.grown_put (kp.grown_put (kp.grown_put (kp.grown_put (kp.grown_put (kp.grown_put HG1.out _ _) _ _) _ _) _ _) _ _) _ _
 have hZ2 : Z.grownBy W2 (some nb) := by
  rw [hW2]
  exact kp.grown_put (kp.grown_put (kp.grown_put (kp.grown_put (kp.grown_put (kp.grown_put (kp.grown_refl Z (some nb)) _ _) _ _) _ _) _ _) _ _) _ _
 rw [← hW2]
 have e26 := (hc2.cell 26).trans c26
 have e27 := (hc2.cell 27).trans c27
 have f27 := hc2.frozen 27
 have HR := Lib.hid (show RingAt (W2.setCell ⟨nb, 27, none⟩ (.int .i64 (k + 1 : Nat))) nb (k + 1) hd lr from ⟨_, hc2.put 27 _, by simpa using s2, by rw [Array.getElem?_setIfInBounds, if_neg (by omega)]; exact c26, by rw [Array.getElem?_setIfInBounds, if_pos rfl, if_pos (by omega)], fun i hi => by rw [Array.getElem?_setIfInBounds, if_neg (by omega), d1 i (by omega)]; exact HH.out i hi, fun i r hi hr j u hu => by
  have hj : j < 6 := (List.getElem?_eq_some_iff.1 hu).1
  rw [Array.getElem?_setIfInBounds, if_neg (by omega)]
  by_cases e : i = k
  ·subst e
   rw [HX.out] at hr
   injection hr with hr
   subst hr
   exact d2 j u hu
  ·rw [d1 _ (by omega)]
   exact HL.out i r (by omega) hr j u hu⟩)
 have HG3 := Lib.hid (kp.grown_put HG2.out 27 (.int .i64 (k + 1 : Nat)))
 have hX2 : Blk W2 r 62 #[.int .i64 x.f, .int .i64 x.n, .int .i64 x.t, .int .i64 x.u, .int .i64 x.z, .slice x.A x.m x.c] := (hZ2.block r KX1.out.lt (fun e => by have e2 : r = nb := (by injection e); omega)).trans KX1.out
 have hc2' := hc2
 clear d1 d2 hW2 hKd q0 q1 q2 q3 q4 q5 y0 y1 y2 y3 y4 y5 KN1 KX1 HG1 HG2 hc2
 refine hK.out _ _ ⟨⟨cs2, hc2', c26, c27⟩, hX2⟩ (fun hHeld => ?_)
 clear hK K hHeld
 refine wpAnyH_done (by kernel_rfl) ?_ _
 clear hc2' hX2 hZ2
 go_wp2
 exact bodyPost_ret (v := .tuple #[]) (by simp [results, Tryz.results68, go_sem]) rfl ⟨rfl, HR.out, HG3.out⟩
end Go.Proofs.YtckicpnnclbkpaaGreatDoor.hf

namespace Go.Proofs.YtckicpnnclbkpaaGreatDoor.hf
open Go.ChangeShapes Go.WideShapes Go.ChangeAt Go.RowKit
open wd ow rl ok kp nb li
theorem limTS_h (n : Int) (w : World) : Calls Tryz.prog 123 #[.int .i64 n] w fun e w' => e = .returned (lim n 1 24) ∧ Below w.heap.size w w' := by
 go_enter Tryz.func123, Tryz.ntmps123
 go_wp2
 exact bodyPost_ret (v := lim n 1 24) (by simp [results, Tryz.results123, go_sem, lim]) rfl ⟨rfl, (Below.refl _ _).alloc (Nat.le_refl _) _⟩
theorem limMx_h (n : Int) (w : World) : Calls Tryz.prog 182 #[.int .i64 n] w fun e w' => e = .returned (lim n 0 999) ∧ Below w.heap.size w w' := by
 go_enter Tryz.func182, Tryz.ntmps182
 go_wp2
 exact bodyPost_ret (v := lim n 0 999) (by simp [results, Tryz.results182, go_sem, lim]) rfl ⟨rfl, (Below.refl _ _).alloc (Nat.le_refl _) _⟩
set_option maxRecDepth 100000 in
set_option maxHeartbeats 1000000 in
theorem mir_h (m : Int) (x : ByteArray) (w : World) : Calls Tryz.prog 152 #[.agg #[.int .i64 m, .string x]] w (BoolK w (okMb (m, x))) := by
 have hb := Blk.new w 97 #[.int .i64 m, .string x]
 have hB0 := (Below.refl w.heap.size w).alloc (Nat.le_refl _) (.cells #[.int .i64 m, .string x] 97)
 have HL := Lib.hid (fun V => limMx_h m V)
 have HO := Lib.hid (fun V => outside_any m 0 999 V)
 have hq : ((x.size : Int) == 4) = decide (x.size = 4) := by
  rw [Bool.eq_iff_iff, beq_iff_eq, decide_eq_true_eq]; omega
 go_enter Tryz.func152, Tryz.ntmps152
 go_upto_region 1 with (fail)
 generalize w.alloc (.cells #[.int .i64 m, .string x] 97) = V at hb hB0 ⊢
 generalize w.heap.size = rb at hb ⊢
 have c0 := hb.cell 0
 simp only [List.getElem?_toArray, List.getElem?_cons_zero] at c0
 go_wp2_with fail
 refine (HL.out _).mono ?_
 rintro e w2 ⟨rfl, hB2⟩
 go_wp2_with fail
 refine (HO.out _).mono ?_
 rintro e w3 ⟨rfl, hB3⟩
 have b3 := hb.below (hB2.trans (hB3.mono hB2.size)) hb.lt
 have HB3 := Lib.hid (hB0.trans ((hB2.trans (hB3.mono hB2.size)).mono hB0.size))
 have d1 := b3.cell 1
 simp only [List.getElem?_toArray, List.getElem?_cons_zero, List.getElem?_cons_succ] at d1
 clear hB2 hB3 hb b3 c0 hB0 HL HO
 cases hi : inB m 0 999 with
 | false =>
  have HF := Lib.hid (show false = okMb (m, x) by unfold okMb; dsimp only; rw [hi]; rfl)
  clear hi
  go_wp2
  go_ret
  exact ⟨nb.ret_bool HF.out, HB3.out⟩
 | true =>
  have HF := Lib.hid (show decide (x.size = 4) = okMb (m, x) by unfold okMb; dsimp only; rw [hi]; simp)
  clear hi
  go_wp2
  go_ret
  refine ⟨?_, HB3.out⟩
  rw [← HF.out]
  simp
theorem mk_any_at' {α : Type} {p : α → Bool} {l : List α} {k : Nat} {x : α} (hx : l[k]? = some x) (hp : p x = true) : l.any p = true := List.any_eq_true.2 ⟨x, List.mem_of_getElem? hx, hp⟩
def sameNum (n : Int) (x : Mb) : Bool := x.1 == n
theorem hsn_h (n : Int) (d : ByteArray) (k : Int) (y : ByteArray) (w : World) : Calls Tryz.prog 154 #[.agg #[.int .i64 n, .string d], .agg #[.int .i64 k, .string y]] w (BoolK w (sameNum n (k, y))) := by
 have HF := Lib.hid (show (n == k) = sameNum n (k, y) by unfold sameNum; rw [Bool.eq_iff_iff]; simp; exact eq_comm)
 go_enter Tryz.func154, Tryz.ntmps154
 go_wp2
 go_ret
 refine ⟨?_, ((Below.refl _ _).alloc (Nat.le_refl _) _).alloc (by simp) _⟩
 rw [← HF.out]
 simp
def IxPost (w : World) (b : Bool) (e : Ending) (w' : World) : Prop := ∃ i : Int, e = .returned (.int .i64 i) ∧ decide (0 ≤ i) = b ∧ Below w.heap.size w w'
set_option maxRecDepth 100000 in
set_option maxHeartbeats 1600000 in
theorem idx_h (w : World) (v : Value) (l : List Mb) (h : SeesR mbS w v l) (hl : l.length ≤ 1048576) (n : Int) (d : ByteArray) :
  Calls Tryz.prog 183 #[v, .func (.func 154) #[.agg #[.int .i64 n, .string d]] #[]] w (IxPost w (l.any (sameNum n))) := by
 have HS := Lib.hid h
 obtain ⟨A, c, rfl, _⟩ := h
 go_enter Tryz.func183, Tryz.ntmps183
 go_wp2
 go_loopw [8] (fun i wr => ∃ k : Nat, k ≤ l.length ∧ i = .int .i64 k ∧ Hid ((l.take k).any (sameNum n) = false) ∧ Below w.heap.size w wr) (fun i _ => (l.length + 1 : Nat) - (intOf i).toNat)
 case atStart => exact ⟨0, by omega, rfl, (by show (l.take 0).any _ = false; simp), Below.refl _ _⟩
 case round =>
  obtain ⟨k, hk, rfl, HA, hB⟩ := hrel
  by_cases hlt : k < l.length
  ·have hx : l[k]? = some l[k] := List.getElem?_eq_getElem hlt
   obtain ⟨g, c', e, hg, _, t0, t1⟩ := mb_at (HS.out.later hB) hx
   injection e with e1 e2 e3
   subst e1; clear e2; subst e3
   have HX := Lib.hid hx
   generalize l[k] = y at HX t0 t1
   obtain ⟨num, yd⟩ := y
   have hk0 : (0 : Int) ≤ (k : Int) := by omega
   have hk1 : (k : Int) < (l.length : Int) := by omega
   have HC := Lib.hid (hsn_h n d num yd wr)
   unfold BoolK at HC
   have HB := Lib.hid hB
   clear hx hB
   go_wp2_with fail
   refine HC.out.mono ?_
   rintro e w2 ⟨rfl, hB2⟩
   have HB2 := Lib.hid (HB.out.trans (hB2.mono HB.out.size))
   clear hB2 t0 t1
   cases hq : sameNum n (num, yd) with
   | true =>
    have HT := Lib.hid (mk_any_at' HX.out hq)
    go_wp2
    go_ret
    exact ⟨_, rfl, by rw [HT.out]; simp, HB2.out⟩
   | false =>
    have HN := Lib.hid (none_on HA.out HX.out hq)
    go_wp2
    go_roundw
    case rel => exact ⟨k + 1, by omega, by go_num, HN.out, HB2.out⟩
    case measure => simp [intOf]; omega
  ·have HE := Lib.hid (show l.any (sameNum n) = false by have h := HA.out; rwa [List.take_of_length_le (by omega)] at h)
   have hk1 : ¬ (k : Int) < (l.length : Int) := by omega
   go_wp2
   go_ret
   exact ⟨_, rfl, by rw [HE.out]; decide, hB⟩
theorem con_h (w : World) (v : Value) (l : List Mb) (h : SeesR mbS w v l) (hl : l.length ≤ 1048576) (n : Int) (d : ByteArray) :
  Calls Tryz.prog 153 #[v, .func (.func 154) #[.agg #[.int .i64 n, .string d]] #[]] w (BoolK w (l.any (sameNum n))) := by
 have HI := Lib.hid (idx_h w v l h hl n d)
 unfold IxPost at HI
 obtain ⟨A, c, rfl, _⟩ := h
 go_enter Tryz.func153, Tryz.ntmps153
 go_wp2_with fail
 refine HI.out.mono ?_
 rintro e w2 ⟨i, rfl, hi, hB⟩
 have HF := Lib.hid hi
 clear hi
 go_wp2
 go_ret
 refine ⟨?_, hB⟩
 rw [← HF.out]
 simp
end Go.Proofs.YtckicpnnclbkpaaGreatDoor.hf

namespace Go.Proofs.YtckicpnnclbkpaaGreatDoor.hf
open Go.ChangeShapes Go.WideShapes Go.ChangeAt Go.RowKit
open wd ow rl ok kp nb
theorem seesR_first {α : Type} {S : Shape α} {w : World} {A : Option Addr} {n c : Nat} {l : List α} (h : SeesR S w (.slice A n c) l) {j : Nat} (hj : j ≤ l.length) : SeesR S w (.slice A j c) (l.take j) := by
 obtain ⟨A', c', e, hc⟩ := h
 injection e with e1 e2 e3
 subst e1; subst e2; subst e3
 have hlen : (l.take j).length = j := by rw [List.length_take]; omega
 refine ⟨A, c, by rw [hlen], ?_⟩
 rcases hc with ⟨h1, h2, h3⟩ | ⟨g, rfl, hg, hcell⟩
 ·exact .inl ⟨h1, h2, by rw [h3]; simp⟩
 ·refine .inr ⟨g, rfl, hg, fun i x hx => hcell i x ?_⟩
  obtain ⟨hi, _⟩ := List.getElem?_eq_some_iff.1 hx
  rw [hlen] at hi
  rw [List.getElem?_take_of_lt hi] at hx
  exact hx
set_option maxRecDepth 100000 in
set_option maxHeartbeats 3200000 in
theorem adb_h (w : World) (A : Option Addr) (n c : Nat) (l : List Mb) (h : SeesR mbS w (.slice A n c) l) (hl : l.length ≤ 1048576) (hc : l.length ≤ c) :
  Calls Tryz.prog 126 #[.slice A n c] w (BoolK w (okMbs l)) := by
 have HS := Lib.hid h
 obtain ⟨A', c', e, _⟩ := h
 injection e with e1 e2 e3
 subst e1; subst e2; subst e3
 go_enter Tryz.func126, Tryz.ntmps126
 go_wp2
 go_loopw [7] (fun i wr => ∃ k : Nat, k ≤ l.length ∧ i = .int .i64 k ∧ Hid (allI k (mbAt l) = true) ∧ Hid (Below w.heap.size w wr)) (fun i _ => (l.length + 1 : Nat) - (intOf i).toNat)
 case atStart => exact ⟨0, by omega, rfl, rfl, Below.refl _ _⟩
 case round =>
  obtain ⟨k, hk, rfl, HA, HB⟩ := hrel
  by_cases hkl : k < l.length
  ·have hx : l[k]? = some l[k] := List.getElem?_eq_getElem hkl
   obtain ⟨g, c', e, hg, _, t0, t1⟩ := mb_at (HS.out.later HB.out) hx
   injection e with e1 e2 e3
   subst e1; clear e2; subst e3
   have HX := Lib.hid hx
   generalize l[k] = y at HX t0 t1
   obtain ⟨num, d⟩ := y
   have hk0 : (0 : Int) ≤ (k : Int) := by omega
   have hk1 : (k : Int) < (l.length : Int) := by omega
   have hkc : k ≤ c := by omega
   have K1 := Lib.hid (Blk.new wr 97 #[.int .i64 num, .string d])
   have HB1 := Lib.hid (HB.out.trans (((Below.refl wr.heap.size wr).alloc (Nat.le_refl _) (.cells #[.int .i64 num, .string d] 97)).mono HB.out.size))
   clear hx
   go_upto_region 4 with (fail)
   generalize hV : wr.alloc (.cells #[.int .i64 num, .string d] 97) = V at K1 HB1 ⊢
   generalize wr.heap.size = r at K1 ⊢
   clear hV t0 t1
   have h0 := (Below.refl V.heap.size V).drew
   refine wp_region_held_drew (S := (fun w' : World => Blk w' r 97 #[.int .i64 num, .string d])) (by kernel_rfl) (K1.out.below h0 K1.out.lt) (fun hHeld => ?_)
   clear hHeld
   have HBd := Lib.hid (HB1.out.trans (h0.mono HB1.out.size))
   have hKd := K1.out.below h0 K1.out.lt
   clear h0
   generalize V.drew = Z at HBd hKd ⊢
   refine rs.w 0 12 ?_ rfl ?_ ?_
   rotate_left 1
   ·(intro w' hSw; have k0 := hSw.cell 0; have k1 := hSw.cell 1; simp only [List.getElem?_toArray, List.getElem?_cons_zero, List.getElem?_cons_succ] at k0 k1; go_simp; try with_reducible rfl)
   simp only [rs.a, rs.b, rs.c]
   refine wpAnyH_ready (rs := [1]) (by kernel_rfl) (by simp) ?_
   refine AllReadyH.cons rfl (fun K hK => ?_) AllReadyH.nil
   go_simp
   refine (mir_h num d _).mono ?_
   rintro e u1 ⟨rfl, hB2⟩
   have hKd := hKd.below hB2 hKd.lt
   have HB2 := Lib.hid (HBd.out.trans (hB2.mono HBd.out.size))
   clear hB2
   refine hK.out _ _ hKd (fun hHeld => ?_)
   clear hK K hHeld
   cases hq : okMb (num, d) with
   | false =>
    have HF := Lib.hid (show okMbs l = false from allI_bad hkl (mbAt_bad HX.out hq))
    refine rs.w 2 14 ?_ rfl ?_ ?_
    rotate_left 1
    ·(intro w' hSw; have k0 := hSw.cell 0; have k1 := hSw.cell 1; simp only [List.getElem?_toArray, List.getElem?_cons_zero, List.getElem?_cons_succ] at k0 k1; go_simp; try with_reducible rfl)
    simp only [rs.a, rs.b, rs.c]
    refine rs.w 3 15 ?_ rfl ?_ ?_
    rotate_left 1
    ·(intro w' hSw; have k0 := hSw.cell 0; have k1 := hSw.cell 1; simp only [List.getElem?_toArray, List.getElem?_cons_zero, List.getElem?_cons_succ] at k0 k1; go_simp; try with_reducible rfl)
    simp only [rs.a, rs.b, rs.c]
    refine rs.skip_take (i := 4) 16 rfl (by kernel_rfl) (by kernel_rfl) (by kernel_rfl) (fun _ _ _ _ h => h) rfl (by assumption) ?_
    simp only [rs.a, rs.b, rs.c]
    refine rs.skip_take (i := 5) 17 rfl (by kernel_rfl) (by kernel_rfl) (by kernel_rfl) (fun _ _ _ _ h => h) rfl (by assumption) ?_
    simp only [rs.a, rs.b, rs.c]
    refine rs.skip_take (i := 6) 18 rfl (by kernel_rfl) (by kernel_rfl) (by kernel_rfl) (fun _ _ _ _ h => h) rfl (by assumption) ?_
    simp only [rs.a, rs.b, rs.c]
    refine rs.skip_take (i := 7) 19 rfl (by kernel_rfl) (by kernel_rfl) (by kernel_rfl) (fun _ _ _ _ h => h) rfl (by assumption) ?_
    simp only [rs.a, rs.b, rs.c]
    refine rs.skip_take (i := 8) 20 rfl (by kernel_rfl) (by kernel_rfl) (by kernel_rfl) (fun _ _ _ _ h => h) rfl (by assumption) ?_
    simp only [rs.a, rs.b, rs.c]
    refine rs.skip_take (i := 9) 21 rfl (by kernel_rfl) (by kernel_rfl) (by kernel_rfl) (fun _ _ _ _ h => h) rfl (by assumption) ?_
    simp only [rs.a, rs.b, rs.c]
    refine rs.w 10 22 ?_ rfl ?_ ?_
    rotate_left 1
    ·(intro w' hSw; have k0 := hSw.cell 0; have k1 := hSw.cell 1; simp only [List.getElem?_toArray, List.getElem?_cons_zero, List.getElem?_cons_succ] at k0 k1; go_simp; try with_reducible rfl)
    simp only [rs.a, rs.b, rs.c]
    refine wpAnyH_done (by kernel_rfl) ?_ _
    clear hKd
    go_wp2
    go_ret
    exact ⟨nb.ret_bool HF.out.symm, HB2.out⟩
   | true =>
    refine rs.w 2 14 ?_ rfl ?_ ?_
    rotate_left 1
    ·(intro w' hSw; have k0 := hSw.cell 0; have k1 := hSw.cell 1; simp only [List.getElem?_toArray, List.getElem?_cons_zero, List.getElem?_cons_succ] at k0 k1; go_simp; try with_reducible rfl)
    simp only [rs.a, rs.b, rs.c]
    refine rs.w 3 15 ?_ rfl ?_ ?_
    rotate_left 1
    ·(intro w' hSw; have k0 := hSw.cell 0; have k1 := hSw.cell 1; simp only [List.getElem?_toArray, List.getElem?_cons_zero, List.getElem?_cons_succ] at k0 k1; go_simp; try with_reducible rfl)
    simp only [rs.a, rs.b, rs.c]
    refine rs.w 4 16 ?_ rfl ?_ ?_
    rotate_left 1
    ·(intro w' hSw; have k0 := hSw.cell 0; have k1 := hSw.cell 1; simp only [List.getElem?_toArray, List.getElem?_cons_zero, List.getElem?_cons_succ] at k0 k1; go_simp; try with_reducible rfl)
    simp only [rs.a, rs.b, rs.c]
    refine rs.w 5 17 ?_ rfl ?_ ?_
    rotate_left 1
    ·(intro w' hSw; have k0 := hSw.cell 0; have k1 := hSw.cell 1; simp only [List.getElem?_toArray, List.getElem?_cons_zero, List.getElem?_cons_succ] at k0 k1; go_simp; try with_reducible rfl)
    simp only [rs.a, rs.b, rs.c]
    refine rs.w 6 18 ?_ rfl ?_ ?_
    rotate_left 1
    ·(intro w' hSw; have k0 := hSw.cell 0; have k1 := hSw.cell 1; simp only [List.getElem?_toArray, List.getElem?_cons_zero, List.getElem?_cons_succ] at k0 k1; go_simp; try with_reducible rfl)
    simp only [rs.a, rs.b, rs.c]
    refine rs.w 7 19 ?_ rfl ?_ ?_
    rotate_left 1
    ·(intro w' hSw; have k0 := hSw.cell 0; have k1 := hSw.cell 1; simp only [List.getElem?_toArray, List.getElem?_cons_zero, List.getElem?_cons_succ] at k0 k1; go_simp; try with_reducible rfl)
    simp only [rs.a, rs.b, rs.c]
    refine rs.w 8 20 ?_ rfl ?_ ?_
    rotate_left 1
    ·(intro w' hSw; have k0 := hSw.cell 0; have k1 := hSw.cell 1; simp only [List.getElem?_toArray, List.getElem?_cons_zero, List.getElem?_cons_succ] at k0 k1; go_simp; try with_reducible rfl)
    simp only [rs.a, rs.b, rs.c]
    refine wpAnyH_ready (rs := [9]) (by kernel_rfl) (by simp) ?_
    refine AllReadyH.cons rfl (fun K hK => ?_) AllReadyH.nil
    go_simp
    refine (con_h _ _ (l.take k) (seesR_first (HS.out.later HB2.out) hk) (by rw [List.length_take]; omega) num d).mono ?_
    rintro e u2' ⟨rfl, hB3⟩
    have hKd2 := hKd.below hB3 hKd.lt
    have HB3 := Lib.hid (HB2.out.trans (hB3.mono HB2.out.size))
    clear hB3
    refine hK.out _ _ hKd2 (fun hHeld => ?_)
    clear hK K hHeld hKd
    have hKd := hKd2
    clear hKd2
    cases ha : (l.take k).any (sameNum num) with
    | true =>
     have HF := Lib.hid (show okMbs l = false from allI_bad hkl (mbAt_twice HX.out ha))
     refine rs.w 10 22 ?_ rfl ?_ ?_
     rotate_left 1
     ·(intro w' hSw; have k0 := hSw.cell 0; have k1 := hSw.cell 1; simp only [List.getElem?_toArray, List.getElem?_cons_zero, List.getElem?_cons_succ] at k0 k1; go_simp; try with_reducible rfl)
     simp only [rs.a, rs.b, rs.c]
     refine wpAnyH_done (by kernel_rfl) ?_ _
     clear hKd
     go_wp2
     go_ret
     exact ⟨nb.ret_bool HF.out.symm, HB3.out⟩
    | false =>
     have HA2 := Lib.hid (allI_on HA.out (mbAt_ok HX.out hq ha))
     refine rs.w 10 22 ?_ rfl ?_ ?_
     rotate_left 1
     ·(intro w' hSw; have k0 := hSw.cell 0; have k1 := hSw.cell 1; simp only [List.getElem?_toArray, List.getElem?_cons_zero, List.getElem?_cons_succ] at k0 k1; go_simp; try with_reducible rfl)
     simp only [rs.a, rs.b, rs.c]
     refine wpAnyH_done (by kernel_rfl) ?_ _
     clear hKd
     go_wp2
     go_roundw
     case rel => exact ⟨k + 1, by omega, by go_num, HA2.out, HB3.out⟩
     case measure => simp [intOf]; omega
  ·obtain rfl : k = l.length := by omega
   go_wp2
   go_ret
   exact ⟨nb.ret_bool HA.out.symm, HB.out⟩
end Go.Proofs.YtckicpnnclbkpaaGreatDoor.hf

namespace Go.Proofs.YtckicpnnclbkpaaGreatDoor.hf
open Go.ChangeShapes Go.WideShapes Go.ChangeAt Go.RowKit
open wd ow rl kp nb li
open Go.Proofs.YtckicpnnclbkpaaGreatDoor.ok (L3 l3c fits Limits searchL SearchPost)
def limsH (f n t u z m : Int) : List L3 := [(f, 0, 3), (n, 1, 99), (t, 0, 3), (u, 1, 999), (z, 1, 24), (m, 0, 14)]
theorem limsH_all (h : Hf) : (limsH h.f h.n h.t h.u h.z h.got.length).all fits = hfHead h := by
 simp [limsH, fits, hfHead, Bool.and_assoc]
theorem flat_atH (l : List L3) : ∀ i x, l[i]? = some x → (l.flatMap l3c)[i * 3]? = some (.int .i64 x.1) ∧ (l.flatMap l3c)[i * 3 + 1]? = some (.int .i64 x.2.1) ∧ (l.flatMap l3c)[i * 3 + 2]? = some (.int .i64 x.2.2) := by
 induction l with
 | nil => intro i x hx; simp at hx
 | cons a l ih =>
  intro i x hx
  have e : (a :: l).flatMap l3c = .int .i64 a.1 :: .int .i64 a.2.1 :: .int .i64 a.2.2 :: l.flatMap l3c := rfl
  rw [e]
  cases i with
  | zero => simp at hx; subst hx; exact ⟨rfl, rfl, rfl⟩
  | succ i =>
   obtain ⟨h0, h1, h2⟩ := ih i x (by simpa using hx)
   rw [show (i + 1) * 3 = i * 3 + 1 + 1 + 1 by omega]
   simp only [List.getElem?_cons_succ]
   exact ⟨h0, h1, h2⟩
theorem searchH (w : World) (g : Nat) (f n t u z m : Int) (h : Blk w g 167 #[.int .i64 f, .int .i64 0, .int .i64 3, .int .i64 n, .int .i64 1, .int .i64 99, .int .i64 t, .int .i64 0, .int .i64 3, .int .i64 u, .int .i64 1, .int .i64 999, .int .i64 z, .int .i64 1, .int .i64 24, .int .i64 m, .int .i64 0, .int .i64 14]) :
  Calls Tryz.prog 124 #[.slice (some ⟨g, 0, none⟩) 6 6, .func (.func 125) #[] #[]] w (SearchPost w (!((limsH f n t u z m).all fits))) :=
 searchL w g 6 (limsH f n t u z m) ⟨h.lt, fun i x hx => by
  obtain ⟨h0, h1, h2⟩ := flat_atH (limsH f n t u z m) i x hx
  rw [h.cell, h.cell, h.cell]
  exact ⟨by simpa [limsH, l3c] using h0, by simpa [limsH, l3c] using h1, by simpa [limsH, l3c] using h2⟩⟩ (by simp [limsH])
set_option maxRecDepth 100000 in
set_option maxHeartbeats 4000000 in
theorem irange_h (V : World) (R : Nat) (h : Hf) (A : Option Addr) (c : Nat) (hb : Blk V R 62 #[.int .i64 h.f, .int .i64 h.n, .int .i64 h.t, .int .i64 h.u, .int .i64 h.z, .slice A h.got.length c]) (hg : SeesR mbS V (.slice A h.got.length c) h.got) (hl : h.got.length ≤ 1048576) (hc : h.got.length ≤ c) :
  Calls Tryz.prog 86 #[.pointer (some ⟨R, 0, none⟩)] V (BoolK V (okHf h)) := by
 obtain ⟨c0, c1, c2, c3, c4, c5, _⟩ := sixh hb
 have hz := hb.lt
 have HA := Lib.hid (limsH_all h)
 have HS := Lib.hid hg
 clear hg hb
 go_enter Tryz.func86, Tryz.ntmps86
 go_upto_region 1 with (fail)
 go_region_held3 (fun w' => w'.cell? ⟨R, 0, none⟩ = some (.int .i64 h.f) ∧ w'.cell? ⟨R, 1, none⟩ = some (.int .i64 h.n) ∧ w'.cell? ⟨R, 2, none⟩ = some (.int .i64 h.t) ∧ w'.cell? ⟨R, 3, none⟩ = some (.int .i64 h.u) ∧ w'.cell? ⟨R, 4, none⟩ = some (.int .i64 h.z) ∧ w'.cell? ⟨R, 5, none⟩ = some (.slice A h.got.length c)) (first | exact ⟨c0, c1, c2, c3, c4, c5⟩ | exact ⟨s0, s1, s2, s3, s4, s5⟩ | go_keep) (((first | (go_at_call 120; refine (limited_any _ _).mono ?_) | (go_at_call 121; refine (limNum_any _ _).mono ?_) | (go_at_call 122; refine (limUntil_any _ _).mono ?_) | (go_at_call 123; refine (limTS_h _ _).mono ?_)); rintro e w2 ⟨rfl, hB2⟩; first | (have hBa := hBa.trans (hB2.mono hBa.size); have s0 := (hB2.cell (p := ⟨R, 0, none⟩) hz2).trans s0; have s1 := (hB2.cell (p := ⟨R, 1, none⟩) hz2).trans s1; have s2 := (hB2.cell (p := ⟨R, 2, none⟩) hz2).trans s2; have s3 := (hB2.cell (p := ⟨R, 3, none⟩) hz2).trans s3; have s4 := (hB2.cell (p := ⟨R, 4, none⟩) hz2).trans s4; have s5 := (hB2.cell (p := ⟨R, 5, none⟩) hz2).trans s5; have hz2 := Nat.lt_of_lt_of_le hz2 hB2.size) | (have hBa := hB2; have s0 := (hB2.cell (p := ⟨R, 0, none⟩) hz).trans c0; have s1 := (hB2.cell (p := ⟨R, 1, none⟩) hz).trans c1; have s2 := (hB2.cell (p := ⟨R, 2, none⟩) hz).trans c2; have s3 := (hB2.cell (p := ⟨R, 3, none⟩) hz).trans c3; have s4 := (hB2.cell (p := ⟨R, 4, none⟩) hz).trans c4; have s5 := (hB2.cell (p := ⟨R, 5, none⟩) hz).trans c5; have hz2 := Nat.lt_of_lt_of_le hz hB2.size)))
 have HB3 := Lib.hid (show Below V.heap.size V w2 from ⟨hBa.os, hBa.tape, hBa.output, hBa.size, hBa.block⟩)
 clear hBa hB2 c0 c1 c2 c3 c4 c5 s0 s1 s2 s3 s4 hz
 go_wp2_with fail
 refine (searchH _ _ h.f h.n h.t h.u h.z h.got.length (Blk.new _ _ _)).mono ?_
 rintro e w4 ⟨i, rfl, hB4⟩
 have hB5 := ((Below.refl w2.heap.size w2).alloc (Nat.le_refl _) _).trans (hB4.mono (by simp))
 have t5 := (hB5.cell (p := ⟨R, 5, none⟩) hz2).trans s5
 have HB4 := Lib.hid (HB3.out.trans (hB5.mono HB3.out.size))
 clear hB4 hB5 s5 hz2
 rw [HA.out]
 cases hh : hfHead h with
 | false =>
  have HF := Lib.hid (okHf_head hh)
  go_wp2
  go_ret
  exact ⟨nb.ret_bool HF.out.symm, HB4.out⟩
 | true =>
  have HF := Lib.hid (okHf_rest hh)
  have HD := Lib.hid (adb_h w4 A _ c h.got (HS.out.later HB4.out) hl hc)
  unfold BoolK at HD
  clear hh
  go_wp2_with fail
  refine HD.out.mono ?_
  rintro e w5 ⟨rfl, hB6⟩
  have HB6 := Lib.hid (HB4.out.trans (hB6.mono HB4.out.size))
  clear hB6 t5
  rw [← HF.out]
  go_wp2
  go_ret
  exact ⟨by simp, HB6.out⟩
end Go.Proofs.YtckicpnnclbkpaaGreatDoor.hf

namespace Go.Proofs.YtckicpnnclbkpaaGreatDoor.hf
open Go.ChangeShapes Go.WideShapes Go.ChangeAt Go.RowKit
open wd ow rl ok kp nb nx
theorem hmark_any (h : Hf) (A : Option Addr) (m c : Nat) (w : World) : Calls Tryz.prog 88 #[hfV h (.slice A m c)] w (AggPost w (kp.mark h.f h.n h.u)) := by
 go_enter Tryz.func88, Tryz.ntmps88
 go_wp2
 refine bodyPost_ret (v := kp.mark h.f h.n h.u) (by simp [results, Tryz.results88, go_sem, kp.mark]) rfl ⟨rfl, ?_⟩
 exact ((Below.refl _ _).alloc (Nat.le_refl _) _).alloc (by simp) _
theorem mHalf (a b c d e f : Value) (w : World) : (Go.method 453 62 (.agg #[a, b, c, d, e, f]) "loop.example/bargeman/impl.mark").run Tryz.prog w = .ok (88, .agg #[a, b, c, d, e, f]) w := by kernel_rfl
theorem seesH_first {w : World} {A : Option Addr} {n c : Nat} {l : List Hf} (h : SeesH w (.slice A n c) l) {j : Nat} (hj : j ≤ l.length) : SeesH w (.slice A j c) (l.take j) := by
 obtain ⟨lr, h1, h2, h3⟩ := h
 refine ⟨lr.take j, seesR_first h1 (by omega), by rw [List.length_take, List.length_take, h2], fun i r x hr hx => ?_⟩
 have hi : i < j := by have := (List.getElem?_eq_some_iff.1 hr).1; rw [List.length_take] at this; omega
 rw [List.getElem?_take_of_lt hi] at hr hx
 exact h3 i r x hr hx
def PredH (g b : Nat) (w : World) (p : Hf → Bool) : Prop := ∀ V x A c, Below w.heap.size w V → Calls Tryz.prog g #[hfV x (.slice A x.got.length c), .pointer (some ⟨b, 0, none⟩)] V (BoolK V (p x))
set_option maxRecDepth 100000 in
set_option maxHeartbeats 800000 in
theorem hasH_pred (b : Nat) (f n u : Int) (w : World) (hb : Blk w b 108 #[.int .i64 f, .int .i64 n, .int .i64 u]) : PredH 156 b w (sameHf f n) := by
 intro V x A c hB
 have k1 := hb.below hB hb.lt
 have k2 := Blk.new V 62 #[.int .i64 x.f, .int .i64 x.n, .int .i64 x.t, .int .i64 x.u, .int .i64 x.z, .slice A x.got.length c]
 have k3 := k1.alloc (.cells #[.int .i64 x.f, .int .i64 x.n, .int .i64 x.t, .int .i64 x.u, .int .i64 x.z, .slice A x.got.length c] 62)
 have hB0 := (Below.refl V.heap.size V).alloc (Nat.le_refl _) (.cells #[.int .i64 x.f, .int .i64 x.n, .int .i64 x.t, .int .i64 x.u, .int .i64 x.z, .slice A x.got.length c] 62)
 have HE := Lib.hid (show (cmpM x.f x.n f n == 0) = sameHf f n x from cmp_is x.f x.n f n)
 clear hb hB k1
 go_enter Tryz.func156, Tryz.ntmps156
 go_wp2_with fail
 generalize V.alloc (.cells #[.int .i64 x.f, .int .i64 x.n, .int .i64 x.t, .int .i64 x.u, .int .i64 x.z, .slice A x.got.length c] 62) = W at *
 obtain ⟨c0, c1, c2, c3, c4, c5⟩ := qa.six k2
 obtain ⟨d0, d1, d2⟩ := qa.three k3
 have HB := Lib.hid hB0
 clear k2 k3 hB0
 have hm := mHalf
 refine qa.region (by kernel_rfl) (by kernel_rfl) ?_
 repeat (go_big_quiet_step (first | (go_at_call 88; exact qa.of_below (hmark_any x _ _ _ _)) | (go_at_call 157; exact qa.of_below (compare_any _ _ _ _ _ _ _))))
 refine wpQuiet_nil ?_
 rintro _ ⟨p, rfl⟩
 have HB2 := Lib.hid (HB.out.trans (p.h.mono HB.out.size))
 clear c0 c1 c2 c3 c4 c5 d0 d1 d2 hm
 go_wp2
 go_ret
 exact ⟨nb.ret_bool HE.out, HB2.out⟩
set_option maxRecDepth 100000 in
set_option maxHeartbeats 1600000 in
theorem srchH (w : World) (v : Value) (l : List Hf) (h : SeesH w v l) (hl : l.length ≤ 1048576) (b : Nat) (p : Hf → Bool) (hp : PredH 156 b w p) :
  Calls Tryz.prog 155 #[v, .func (.func 156) #[] #[.pointer (some ⟨b, 0, none⟩)]] w (IdxPost w (l.findIdx p) (l.any p)) := by
 have HP := Lib.hid hp
 have HS := Lib.hid h
 obtain ⟨A, c, rfl⟩ := h.form
 clear hp h
 go_enter Tryz.func155, Tryz.ntmps155
 go_wp2
 go_loopw [10] (fun i wr => ∃ k : Nat, k ≤ l.length ∧ i = .int .i64 k ∧ Hid ((l.take k).any p = false) ∧ Below w.heap.size w wr) (fun i _ => (l.length + 1 : Nat) - (intOf i).toNat)
 case atStart => exact ⟨0, by omega, rfl, rfl, Below.refl _ _⟩
 case round =>
  obtain ⟨k, hk, rfl, HA, hB⟩ := hrel
  by_cases hlt : k < l.length
  ·have hx : l[k]? = some l[k] := List.getElem?_eq_getElem hlt
   obtain ⟨g, c', A', c2, e, hg, _, t0, t1, t2, t3, t4, t5, _⟩ := (HS.out.later hB).at hx
   injection e with e1 e2 e3
   subst e1; clear e2; subst e3
   have HX := Lib.hid hx
   generalize l[k] = y at HX t0 t1 t2 t3 t4 t5
   have hk1 : (k : Int) < (l.length : Int) := by omega
   have HB := Lib.hid hB
   clear hx hB
   go_wp2_with fail
   have hB0 := HB.out.alloc HB.out.size (.cells #[.int .i64 y.f, .int .i64 y.n, .int .i64 y.t, .int .i64 y.u, .int .i64 y.z, .slice A' y.got.length c2] 62)
   refine (HP.out _ y A' c2 hB0).mono ?_
   rintro e w2 ⟨rfl, hB2⟩
   have HB2 := Lib.hid (hB0.trans (hB2.mono hB0.size))
   clear hB2 hB0 t0 t1 t2 t3 t4 t5
   cases hq : p y with
   | true =>
    have HI := Lib.hid (findIdx_first HA.out HX.out hq)
    have HT := Lib.hid (mk_any_at HX.out hq)
    clear hq
    go_wp2
    go_ret2
    exact ⟨by rw [HI.out, HT.out]; rfl, HB2.out⟩
   | false =>
    have HN := Lib.hid (none_on HA.out HX.out hq)
    clear hq
    go_wp2
    go_roundw
    case rel => exact ⟨k + 1, by omega, by go_num, HN.out, HB2.out⟩
    case measure => simp [intOf]; omega
  ·obtain ⟨e1, e2⟩ := findIdx_end HA.out (by omega)
   have HE := Lib.hid e1
   have HF := Lib.hid e2
   clear e1 e2
   have hk1 : ¬ (k : Int) < (l.length : Int) := by omega
   go_wp2
   go_ret2
   exact ⟨by rw [HE.out, HF.out]; rfl, hB⟩
end Go.Proofs.YtckicpnnclbkpaaGreatDoor.hf

namespace Go.Proofs.YtckicpnnclbkpaaGreatDoor.hf
open Go.ChangeShapes Go.WideShapes Go.ChangeAt Go.RowKit
open wd ow rl ok kp nb nx
abbrev hrV (r : Hr) : Value := .agg #[.int .i64 r.f, .int .i64 r.n, .int .i64 r.t, .int .i64 r.u, .int .i64 r.z, .slice r.A r.m r.c]
def FindHP (w : World) (b : Bool) (e : Ending) (w' : World) : Prop := ∃ r : Hr, e = .returned (.tuple #[hrV r, .bool b]) ∧ Below w.heap.size w w'
set_option maxRecDepth 100000 in
set_option maxHeartbeats 3200000 in
theorem findH_any (w : World) (v : Value) (l : List Hf) (h : SeesH w v l) (hl : l.length ≤ 1048576) (f n u : Int) :
  Calls Tryz.prog 127 #[v, kp.mark f n u] w (FindHP w (l.any (sameHf f n))) := by
 have k1 := (Blk.new w 108 #[.int .i64 f, .int .i64 n, .int .i64 u]).alloc (.cells #[.int .i64 0, .int .i64 0, .int .i64 0, .int .i64 0, .int .i64 0, .slice none 0 0] 62)
 have kz := Blk.new (w.alloc (.cells #[.int .i64 f, .int .i64 n, .int .i64 u] 108)) 62 #[.int .i64 0, .int .i64 0, .int .i64 0, .int .i64 0, .int .i64 0, .slice none 0 0]
 rw [World.size_alloc] at kz
 have hB0 : Below w.heap.size w ((w.alloc (.cells #[.int .i64 f, .int .i64 n, .int .i64 u] 108)).alloc (.cells #[.int .i64 0, .int .i64 0, .int .i64 0, .int .i64 0, .int .i64 0, .slice none 0 0] 62)) := ((Below.refl _ _).alloc (Nat.le_refl _) _).alloc (by simp) _
 have hS := srchH _ v l (h.later hB0) hl _ _ (hasH_pred _ f n u _ k1)
 have HL := Lib.hid h
 have HB := Lib.hid hB0
 have HKz := Lib.hid kz
 have hmf := mkfn
 obtain ⟨A, c, rfl⟩ := h.form
 clear k1 kz hB0 h
 unfold kp.mark
 cases ha : l.any (sameHf f n) with
 | true =>
  obtain ⟨y, hy, _, hlt⟩ := find_any ha
  rw [ha] at hS
  generalize l.findIdx (sameHf f n) = i at hS hy hlt
  have HS := Lib.hid hS
  have hi1 : (i : Int) < (l.length : Int) := by omega
  clear hS ha
  go_enter Tryz.func127, Tryz.ntmps127
  go_wp2_with fail
  refine HS.out.mono ?_
  rintro e w2 ⟨rfl, hB2⟩
  have hB3 := HB.out.trans (hB2.mono HB.out.size)
  have hz2 := HKz.out.below hB2 HKz.out.lt
  obtain ⟨g, c', A', c2, e, hg, _, t0, t1, t2, t3, t4, t5, _⟩ := (HL.out.later hB3).at hy
  injection e with e1 e2 e3
  subst e1; clear e2; subst e3
  have HB2 := Lib.hid hB3
  obtain ⟨z0, z1, z2, z3, z4, z5, y0, y1, y2, y3, y4, y5⟩ := sixh hz2
  have HC := Lib.hid (put6h_blk (a' := .int .i64 y.f) (b' := .int .i64 y.n) (c' := .int .i64 y.t) (d' := .int .i64 y.u) (e' := .int .i64 y.z) (f' := .slice A' y.got.length c2) hz2)
  have HE := Lib.hid (put6h_below (B := w.heap.size) (R := w.heap.size + 1) (Nat.le_succ _) hB3 (.int .i64 y.f) (.int .i64 y.n) (.int .i64 y.t) (.int .i64 y.u) (.int .i64 y.z) (.slice A' y.got.length c2))
  clear hB2 hB3 hy HKz hz2
  go_wp2
  obtain ⟨x0, x1, x2, x3, x4, x5, _⟩ := sixh HC.out
  refine bodyPost_ret (v := .tuple #[hrV ⟨y.f, y.n, y.t, y.u, y.z, A', y.got.length, c2⟩, .bool true]) (by simp [results, Tryz.results127, go_sem, x0, x1, x2, x3, x4, x5]) rfl ⟨_, rfl, HE.out⟩
 | false =>
  rw [ha] at hS
  generalize l.findIdx (sameHf f n) = i at hS
  have HS := Lib.hid hS
  clear hS ha
  go_enter Tryz.func127, Tryz.ntmps127
  go_wp2_with fail
  refine HS.out.mono ?_
  rintro e w2 ⟨rfl, hB2⟩
  have hB3 := HB.out.trans (hB2.mono HB.out.size)
  have hz2 := (HKz.out.below hB2 HKz.out.lt).alloc (.cells #[.int .i64 0, .int .i64 0, .int .i64 0, .int .i64 0, .int .i64 0, .slice none 0 0] 62)
  have hB4 := hB3.alloc hB3.size (.cells #[.int .i64 0, .int .i64 0, .int .i64 0, .int .i64 0, .int .i64 0, .slice none 0 0] 62)
  have hx2 := Blk.new w2 62 #[.int .i64 0, .int .i64 0, .int .i64 0, .int .i64 0, .int .i64 0, .slice none 0 0]
  clear hB2 hB3 HKz
  go_upto_region 4 with (fail)
  generalize w2.alloc (.cells #[.int .i64 0, .int .i64 0, .int .i64 0, .int .i64 0, .int .i64 0, .slice none 0 0] 62) = V at hB4 hz2 hx2 ⊢
  generalize w2.heap.size = xb at hx2 ⊢
  obtain ⟨z0, z1, z2, z3, z4, z5, y0, y1, y2, y3, y4, y5⟩ := sixh hz2
  obtain ⟨x0, x1, xx2, x3, x4, x5, _⟩ := sixh hx2
  have HC := Lib.hid (put6h_blk (a' := .int .i64 0) (b' := .int .i64 0) (c' := .int .i64 0) (d' := .int .i64 0) (e' := .int .i64 0) (f' := .slice none 0 0) hz2)
  have HE := Lib.hid (put6h_below (B := w.heap.size) (R := w.heap.size + 1) (Nat.le_succ _) hB4 (.int .i64 0) (.int .i64 0) (.int .i64 0) (.int .i64 0) (.int .i64 0) (.slice none 0 0))
  clear hz2 hx2 hB4
  go_wp2
  obtain ⟨x0', x1', x2', x3', x4', x5', _⟩ := sixh HC.out
  refine bodyPost_ret (v := .tuple #[hrV ⟨0, 0, 0, 0, 0, none, 0, 0⟩, .bool false]) (by simp [results, Tryz.results127, go_sem, x0', x1', x2', x3', x4', x5']) rfl ⟨_, rfl, HE.out⟩
set_option maxRecDepth 100000 in
theorem hasH_any (w : World) (v : Value) (l : List Hf) (h : SeesH w v l) (hl : l.length ≤ 1048576) (f n u : Int) :
  Calls Tryz.prog 87 #[v, kp.mark f n u] w (BoolK w (l.any (sameHf f n))) := by
 have hB0 := (Below.refl w.heap.size w).alloc (Nat.le_refl _) (.cells #[.int .i64 f, .int .i64 n, .int .i64 u] 108)
 have HS := Lib.hid (findH_any _ v l (h.later hB0) hl f n u)
 unfold FindHP at HS
 have HB := Lib.hid hB0
 obtain ⟨A, c, rfl⟩ := h.form
 clear hB0 h
 unfold kp.mark at HS ⊢
 go_enter Tryz.func87, Tryz.ntmps87
 go_wp2_with fail
 refine HS.out.mono ?_
 rintro e w2 ⟨r, rfl, hB2⟩
 have HB2 := Lib.hid (HB.out.trans (hB2.mono HB.out.size))
 clear hB2
 go_wp2
 go_ret
 exact ⟨rfl, HB2.out.alloc HB2.out.size _⟩
end Go.Proofs.YtckicpnnclbkpaaGreatDoor.hf

