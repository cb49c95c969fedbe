/-
  Merged texts: Env, SOk, Five, SWrite, ShelfPlain, ShelfPlain2, SRec, ILim, Colon, Dec3x.
-/
import Derived.Test.YtckicpnnclbkpaaGreatDoorE1
import Derived.Test.YtckicpnnclbkpaaGreatDoorShelf
import Derived.Lib.AppendIntMem
import Derived.Lib.AtoiErrMem
import Derived.Deep.RegionHeld3
import Derived.Deep.QuietTactic
import Derived.BigQuiet
namespace Go.Proofs.YtckicpnnclbkpaaGreatDoor.dc
open Go.ChangeShapes Go.WideShapes Go.ChangeAt Go.RowKit
open nb ok wd
def Tab (w : World) : Prop := Lib.TabIs Tryz.prog w "internal/strconv.uint64pow10" .u64 Lib.pow10Tab
theorem Tab.later {w w' : World} (h : Tab w) (hb : Below w.heap.size w w') : Tab w' := Lib.tabBelow_of_tabIs h w' hb
theorem var_later {w w' : World} {n : String} {cs : Array Value} (h : w.var? Tryz.prog n = some cs) (hb : Below w.heap.size w w') : w'.var? Tryz.prog n = some cs := by
 unfold World.var? at *
 cases hg : Tryz.prog.globalNamed n with
 | none => simp [hg] at h
 | some g =>
  simp only [hg, Option.bind_some] at h ⊢
  have hlt : g < w.heap.size := by
   rcases Nat.lt_or_ge g w.heap.size with h' | h'
   ·exact h'
   ·rw [Array.getElem?_eq_none h'] at h; simp at h
  rw [hb.block g hlt]
  exact h
def Errs (w : World) : Prop := (∃ tp p, w.var? Tryz.prog "strconv.ErrSyntax" = some #[.iface tp p]) ∧ ∃ tp p, w.var? Tryz.prog "strconv.ErrRange" = some #[.iface tp p]
theorem Errs.later {w w' : World} (h : Errs w) (hb : Below w.heap.size w w') : Errs w' := by
 obtain ⟨⟨a, b, c⟩, d, e, f⟩ := h
 exact ⟨⟨a, b, var_later c hb⟩, d, e, var_later f hb⟩
theorem below_grow (w : World) (k : Nat) (os : Array Obj) : Below w.heap.size w (Sort.grow (w.drewN k) os) :=
 ⟨rfl, rfl, rfl, by simp [Sort.grow, World.drewN], fun i hi => by
  show (w.heap ++ os)[i]? = w.heap[i]?
  rw [Array.getElem?_append_left hi]⟩
theorem itoa_any (n : Int) (h0 : 0 ≤ n) (h1 : n ≤ 999) (w : World) (h : Tab w) :
  Calls Tryz.prog 160 #[.int .i64 n] w (StrPost w (str (dl n))) := by
 refine (Tryz.strconv_Itoa n (by omega) (by omega) w h).mono ?_
 rintro e w' ⟨rfl, k, os, rfl⟩
 exact ⟨by rw [itoa_dl h0]; rfl, below_grow w k os⟩
def atoiV (l : List UInt8) : Int :=
 match Lib.atoiAll l with
 | .ok v => v
 | .range => Lib.atoiSat l
 | _ => 0
theorem atoiV_dl {n : Int} (h0 : 0 ≤ n) (h1 : n ≤ 999) : atoiV (dl n) = n := by unfold atoiV; rw [atoi_dl h0 h1]
def AtoiPost (w : World) (l : List UInt8) (e : Ending) (w' : World) : Prop := ∃ x, e = .returned (.tuple #[.int .i64 (atoiV l), x]) ∧ Below w.heap.size w w'
theorem atoi_any (s : ByteArray) (hs : s.size ≤ 8388608) (w : World) (h : Errs w) :
  Calls Tryz.prog 159 #[.string s] w (AtoiPost w s.data.toList) := by
 obtain ⟨⟨tp, p, hv⟩, tq, q, hr⟩ := h
 cases ha : Lib.atoiAll s.data.toList
 case ok v =>
  refine (Tryz.strconv_Atoi_ok s (by omega) v ha w).mono ?_
  rintro e w' ⟨rfl, hw⟩
  refine ⟨_, by unfold atoiV; rw [ha], ?_⟩
  rcases hw with rfl | ⟨t, rfl⟩
  ·exact Below.refl _ _
  ·exact Lib.bytesWorld_below _ _ _
 case range =>
  refine (Tryz.strconv_Atoi_range_var s (by omega) ha tq q w hr).mono ?_
  rintro e w' ⟨N, rfl, _, _, hB⟩
  exact ⟨_, by unfold atoiV; rw [ha], hB⟩
 have hc := Any.strconv_Atoi_syntax_var Tryz.laysC172 s (by omega) ha tp p w hv
 refine Calls.mono (P := Tryz.prog) (f := 159) hc ?_
 rintro e w' ⟨N, rfl, _, _, hB⟩
 exact ⟨_, by unfold atoiV; rw [ha], hB⟩
end Go.Proofs.YtckicpnnclbkpaaGreatDoor.dc

namespace Go.Proofs.YtckicpnnclbkpaaGreatDoor.ok
open Go.ChangeShapes Go.WideShapes Go.ChangeAt Go.RowKit
open nb
def BoolPost (w : World) (b : Bool) (e : Ending) (w' : World) : Prop := e = .returned (.bool b) ∧ Below w.heap.size w w'
theorem sok_f (f n t u : Int) (s : ByteArray) (w : World) (hs : s.size ≤ maxLen)
  (h : inB f 0 3 = false ∨ inB t 0 3 = false ∨ inB n 1 99 = false ∨ inB u 1 999 = false ∨ okS s = false) :
  Calls Tryz.prog 148 #[note f n t u s] w (BoolPost w false) := by
 unfold note
 unfold maxLen at hs
 cases k1 : inB f 0 3 with
 | false =>
  clear h
  go_enter Tryz.func148, Tryz.ntmps148
  go_wp2_with (first | (go_at_call 28; refine (keeper_any _ _).mono ?_; rintro e w' ⟨rfl, rfl⟩) | (go_at_call 56; refine (in_any _ _ _ _).mono ?_; rintro e w' ⟨rfl, rfl⟩))
  go_ret
  exact ⟨rfl, (Below.refl _ _).alloc (Nat.le_refl _) _⟩
 | true =>
 cases k2 : inB t 0 3 with
 | false =>
  clear h
  go_enter Tryz.func148, Tryz.ntmps148
  go_wp2_with (first | (go_at_call 28; refine (keeper_any _ _).mono ?_; rintro e w' ⟨rfl, rfl⟩) | (go_at_call 56; refine (in_any _ _ _ _).mono ?_; rintro e w' ⟨rfl, rfl⟩))
  go_ret
  exact ⟨rfl, (Below.refl _ _).alloc (Nat.le_refl _) _⟩
 | true =>
 cases k3 : inB n 1 99 with
 | false =>
  clear h
  go_enter Tryz.func148, Tryz.ntmps148
  go_wp2_with (first | (go_at_call 28; refine (keeper_any _ _).mono ?_; rintro e w' ⟨rfl, rfl⟩) | (go_at_call 56; refine (in_any _ _ _ _).mono ?_; rintro e w' ⟨rfl, rfl⟩))
  go_ret
  exact ⟨rfl, (Below.refl _ _).alloc (Nat.le_refl _) _⟩
 | true =>
 cases k4 : inB u 1 999 with
 | false =>
  clear h
  go_enter Tryz.func148, Tryz.ntmps148
  go_wp2_with (first | (go_at_call 28; refine (keeper_any _ _).mono ?_; rintro e w' ⟨rfl, rfl⟩) | (go_at_call 56; refine (in_any _ _ _ _).mono ?_; rintro e w' ⟨rfl, rfl⟩))
  go_ret
  exact ⟨rfl, (Below.refl _ _).alloc (Nat.le_refl _) _⟩
 | true =>
 by_cases k5 : s.size < 1
 ·have k5' : (s.size : Int) < 1 := by omega
  clear h
  go_enter Tryz.func148, Tryz.ntmps148
  go_wp2_with (first | (go_at_call 28; refine (keeper_any _ _).mono ?_; rintro e w' ⟨rfl, rfl⟩) | (go_at_call 56; refine (in_any _ _ _ _).mono ?_; rintro e w' ⟨rfl, rfl⟩))
  go_ret
  exact ⟨rfl, (Below.refl _ _).alloc (Nat.le_refl _) _⟩
 by_cases k6 : 24 < s.size
 ·have k5' : ¬ (s.size : Int) < 1 := by omega
  have k6' : 24 < (s.size : Int) := by omega
  clear h
  go_enter Tryz.func148, Tryz.ntmps148
  go_wp2_with (first | (go_at_call 28; refine (keeper_any _ _).mono ?_; rintro e w' ⟨rfl, rfl⟩) | (go_at_call 56; refine (in_any _ _ _ _).mono ?_; rintro e w' ⟨rfl, rfl⟩))
  go_ret
  exact ⟨rfl, (Below.refl _ _).alloc (Nat.le_refl _) _⟩
 ·exfalso
  rw [k1, k2, k3, k4, okS_t (by omega) (by omega)] at h
  simp at h
theorem sok_t (f n t u : Int) (s : ByteArray) (w : World)
  (k1 : inB f 0 3 = true) (k2 : inB t 0 3 = true) (k3 : inB n 1 99 = true) (k4 : inB u 1 999 = true) (k5 : 1 ≤ s.size) (k6 : s.size ≤ 24) :
  Calls Tryz.prog 148 #[note f n t u s] w (BoolPost w (allPr s)) := by
 unfold note
 have k7 : ¬ (s.size : Int) < 1 := by omega
 have k8 : ¬ 24 < (s.size : Int) := by omega
 go_enter Tryz.func148, Tryz.ntmps148
 go_wp2_with (first | (go_at_call 28; refine (keeper_any _ _).mono ?_; rintro e w' ⟨rfl, rfl⟩) | (go_at_call 56; refine (in_any _ _ _ _).mono ?_; rintro e w' ⟨rfl, rfl⟩))
 go_loop [3] (fun i => ∃ k : Nat, k ≤ s.size ∧ i = .int .i64 k ∧ Hid ((s.data.toList.take k).all pr = true)) (fun i => s.size - (intOf i).toNat)
 case atStart => exact ⟨0, by omega, rfl, rfl⟩
 case round =>
  obtain ⟨k, hk, rfl, HA⟩ := hrel
  by_cases hlt : k < s.size
  ·by_cases p0 : 32 ≤ (s[k].toNat : Int)
   ·by_cases p1 : (s[k].toNat : Int) ≤ 126
    ·have R := Lib.hid (all_more hlt HA.out (pr_t p0 p1))
     go_wp2
     go_round
     case rel => exact ⟨k + 1, by omega, by go_num, R⟩
     case measure => simp [intOf]; omega
    ·have R := Lib.hid (all_not hlt (pr_f (.inr (by omega))))
     go_wp2
     go_ret
     exact ⟨ret_bool R.out.symm, (Below.refl _ _).alloc (Nat.le_refl _) _⟩
   ·have R := Lib.hid (all_not hlt (pr_f (.inl (by omega))))
    go_wp2
    go_ret
    exact ⟨ret_bool R.out.symm, (Below.refl _ _).alloc (Nat.le_refl _) _⟩
  ·have R := Lib.hid (all_whole (by omega) HA.out)
   go_wp2
   go_ret
   exact ⟨ret_bool R.out.symm, (Below.refl _ _).alloc (Nat.le_refl _) _⟩
theorem sok_any (f n t u : Int) (s : ByteArray) (w : World) (hs : s.size ≤ maxLen) :
  Calls Tryz.prog 148 #[note f n t u s] w (BoolPost w (okN f n t u s)) := by
 by_cases h : inB f 0 3 = false ∨ inB t 0 3 = false ∨ inB n 1 99 = false ∨ inB u 1 999 = false ∨ okS s = false
 ·rw [okN_f h]; exact sok_f f n t u s w hs h
 ·simp only [not_or, Bool.not_eq_false] at h
  obtain ⟨h1, h2, h3, h4, h5⟩ := h
  rw [okN_t h1 h2 h3 h4 h5]
  have := of_decide_eq_true h5
  exact sok_t f n t u s w h1 h2 h3 h4 this.1 this.2
end Go.Proofs.YtckicpnnclbkpaaGreatDoor.ok

namespace Go.Proofs.YtckicpnnclbkpaaGreatDoor.ok
open Go.RowKit
open wd
theorem five {w : World} {g : Nat} {T : TypeId} {a b c d e : Value} (h : Blk w g T #[a, b, c, d, e]) :
  w.cell? ⟨g, 0, none⟩ = some a ∧ w.cell? ⟨g, 1, none⟩ = some b ∧ w.cell? ⟨g, 2, none⟩ = some c ∧ w.cell? ⟨g, 3, none⟩ = some d ∧ w.cell? ⟨g, 4, none⟩ = some e ∧ g < w.heap.size :=
 ⟨h.cell 0, h.cell 1, h.cell 2, h.cell 3, h.cell 4, h.lt⟩
end Go.Proofs.YtckicpnnclbkpaaGreatDoor.ok

namespace Go.Proofs.YtckicpnnclbkpaaGreatDoor.dc
open Go.ChangeShapes Go.WideShapes Go.ChangeAt Go.RowKit
open nb ok wd
theorem adds (a b : ByteArray) (h : a.size + b.size ≤ 1000000000) : ∃ c : ByteArray, c = a ++ b ∧ c.size = a.size + b.size ∧ ∀ W : World, (Op.stringOp .add a b).run Tryz.prog W = .ok (.string c) W :=
 ⟨a ++ b, rfl, by simp, fun W => run_string_add_sum W a b (by omega)⟩
theorem wr_cat (f n t u : Int) (s : ByteArray) : (((((((str (dl f) ++ str [32]) ++ str (dl n)) ++ str [32]) ++ str (dl t)) ++ str [32]) ++ str (dl u)) ++ str [32]) ++ s = wr f n t u s := by
 unfold wr wl
 rw [← str_data s]
 simp only [str_app, data_str]
 congr 1
 simp
theorem swrite_f (f n t u : Int) (s : ByteArray) (w : World) (hs : s.size ≤ maxLen) (h : okN f n t u s = false) :
  Calls Tryz.prog 150 #[note f n t u s] w (StrPost w (str [])) := by
 unfold note
 go_enter Tryz.func150, Tryz.ntmps150
 go_wp2_with fail
 refine (sok_any f n t u s _ hs).mono ?_
 rintro e w1 ⟨rfl, hB1⟩
 have HB := Lib.hid (((Below.refl w.heap.size w).alloc (Nat.le_refl _) _).trans (hB1.mono (by simp)))
 clear hB1
 rw [h]
 go_wp2
 go_ret
 exact ⟨rfl, HB.out⟩
set_option maxRecDepth 100000 in
set_option maxHeartbeats 1000000 in
theorem swrite_t (f n t u : Int) (s : ByteArray) (w : World) (h : okN f n t u s = true) :
  Calls Tryz.prog 150 #[note f n t u s] w (StrPost w (wr f n t u s)) := by
 obtain ⟨⟨f0, f1⟩, ⟨n0, n1⟩, ⟨t0, t1⟩, ⟨u0, u1⟩, ⟨z0, z1⟩, _⟩ := okN_parts h
 have HD0 := Lib.hid (fun W => dec_any f f0 (by omega) W)
 have HD1 := Lib.hid (fun W => dec_any n (by omega) (by omega) W)
 have HD2 := Lib.hid (fun W => dec_any t t0 (by omega) W)
 have HD3 := Lib.hid (fun W => dec_any u (by omega) (by omega) W)
 have l0 : (str (dl f)).size ≤ 3 := by rw [str_size]; exact (dl_len (by omega)).2
 have l1 : (str (dl n)).size ≤ 3 := by rw [str_size]; exact (dl_len (by omega)).2
 have l2 : (str (dl t)).size ≤ 3 := by rw [str_size]; exact (dl_len (by omega)).2
 have l3 : (str (dl u)).size ≤ 3 := by rw [str_size]; exact (dl_len (by omega)).2
 have HW := Lib.hid (wr_cat f n t u s)
 have lb : (⟨#[32]⟩ : ByteArray).size = 1 := rfl
 generalize str (dl f) = D0 at HD0 l0 HW
 generalize str (dl n) = D1 at HD1 l1 HW
 generalize str (dl t) = D2 at HD2 l2 HW
 generalize str (dl u) = D3 at HD3 l3 HW
 obtain ⟨p1, e1, q1, r1⟩ := adds D0 ⟨#[32]⟩ (by omega)
 obtain ⟨p2, e2, q2, r2⟩ := adds p1 D1 (by omega)
 obtain ⟨p3, e3, q3, r3⟩ := adds p2 ⟨#[32]⟩ (by omega)
 obtain ⟨p4, e4, q4, r4⟩ := adds p3 D2 (by omega)
 obtain ⟨p5, e5, q5, r5⟩ := adds p4 ⟨#[32]⟩ (by omega)
 obtain ⟨p6, e6, q6, r6⟩ := adds p5 D3 (by omega)
 obtain ⟨p7, e7, q7, r7⟩ := adds p6 ⟨#[32]⟩ (by omega)
 obtain ⟨p8, e8, q8, r8⟩ := adds p7 s (by omega)
 have HP : Hid (p8 = wr f n t u s) := by rw [e8, e7, e6, e5, e4, e3, e2, e1]; exact HW.out
 clear e1 e2 e3 e4 e5 e6 e7 e8 q1 q2 q3 q4 q5 q6 q7 q8 HW l0 l1 l2 l3 lb
 have hs : s.size ≤ maxLen := by unfold maxLen; omega
 unfold note
 have hb := Blk.new w 105 #[.int .i64 f, .int .i64 n, .int .i64 t, .int .i64 u, .string s]
 have hB0 : Below w.heap.size w (w.alloc (.cells #[.int .i64 f, .int .i64 n, .int .i64 t, .int .i64 u, .string s] 105)) := (Below.refl _ _).alloc (Nat.le_refl _) _
 go_enter Tryz.func150, Tryz.ntmps150
 go_wp2_with fail
 generalize w.alloc (.cells #[.int .i64 f, .int .i64 n, .int .i64 t, .int .i64 u, .string s] 105) = W0 at hb hB0 ⊢
 refine (sok_any f n t u s _ hs).mono ?_
 rintro e W ⟨rfl, hB1⟩
 have hbW := hb.below hB1 hb.lt
 have hBW := hB0.trans (hB1.mono hB0.size)
 rw [h]
 clear hb hB0 hB1 h hs
 obtain ⟨c0, c1, c2, c3, c4, hz⟩ := five hbW
 clear hbW
 go_wp2_with fail
 go_region_held3 (fun w' => w'.cell? ⟨w.heap.size, 0, none⟩ = some (.int .i64 f) ∧ w'.cell? ⟨w.heap.size, 1, none⟩ = some (.int .i64 n) ∧ w'.cell? ⟨w.heap.size, 2, none⟩ = some (.int .i64 t) ∧ w'.cell? ⟨w.heap.size, 3, none⟩ = some (.int .i64 u) ∧ w'.cell? ⟨w.heap.size, 4, none⟩ = some (.string s)) (first | exact ⟨c0, c1, c2, c3, c4⟩ | exact ⟨s0, s1, s2, s3, s4⟩ | go_keep) (first | (go_at_call_of 104 f; refine (HD0.out _).mono ?_; rintro e w2 ⟨rfl, hB2⟩; first | (have hBa := hBa.trans (hB2.mono hBa.size); have s0 := (hB2.cell (p := ⟨w.heap.size, 0, none⟩) hz2).trans s0; have s1 := (hB2.cell (p := ⟨w.heap.size, 1, none⟩) hz2).trans s1; have s2 := (hB2.cell (p := ⟨w.heap.size, 2, none⟩) hz2).trans s2; have s3 := (hB2.cell (p := ⟨w.heap.size, 3, none⟩) hz2).trans s3; have s4 := (hB2.cell (p := ⟨w.heap.size, 4, none⟩) hz2).trans s4; have hz2 := Nat.lt_of_lt_of_le hz2 hB2.size) | (have hBa := hB2; have s0 := (hB2.cell (p := ⟨w.heap.size, 0, none⟩) hz).trans c0; have s1 := (hB2.cell (p := ⟨w.heap.size, 1, none⟩) hz).trans c1; have s2 := (hB2.cell (p := ⟨w.heap.size, 2, none⟩) hz).trans c2; have s3 := (hB2.cell (p := ⟨w.heap.size, 3, none⟩) hz).trans c3; have s4 := (hB2.cell (p := ⟨w.heap.size, 4, none⟩) hz).trans c4; have hz2 := Nat.lt_of_lt_of_le hz hB2.size)) | (go_at_call_of 104 n; refine (HD1.out _).mono ?_; rintro e w2 ⟨rfl, hB2⟩; first | (have hBa := hBa.trans (hB2.mono hBa.size); have s0 := (hB2.cell (p := ⟨w.heap.size, 0, none⟩) hz2).trans s0; have s1 := (hB2.cell (p := ⟨w.heap.size, 1, none⟩) hz2).trans s1; have s2 := (hB2.cell (p := ⟨w.heap.size, 2, none⟩) hz2).trans s2; have s3 := (hB2.cell (p := ⟨w.heap.size, 3, none⟩) hz2).trans s3; have s4 := (hB2.cell (p := ⟨w.heap.size, 4, none⟩) hz2).trans s4; have hz2 := Nat.lt_of_lt_of_le hz2 hB2.size) | (have hBa := hB2; have s0 := (hB2.cell (p := ⟨w.heap.size, 0, none⟩) hz).trans c0; have s1 := (hB2.cell (p := ⟨w.heap.size, 1, none⟩) hz).trans c1; have s2 := (hB2.cell (p := ⟨w.heap.size, 2, none⟩) hz).trans c2; have s3 := (hB2.cell (p := ⟨w.heap.size, 3, none⟩) hz).trans c3; have s4 := (hB2.cell (p := ⟨w.heap.size, 4, none⟩) hz).trans c4; have hz2 := Nat.lt_of_lt_of_le hz hB2.size)) | (go_at_call_of 104 t; refine (HD2.out _).mono ?_; rintro e w2 ⟨rfl, hB2⟩; first | (have hBa := hBa.trans (hB2.mono hBa.size); have s0 := (hB2.cell (p := ⟨w.heap.size, 0, none⟩) hz2).trans s0; have s1 := (hB2.cell (p := ⟨w.heap.size, 1, none⟩) hz2).trans s1; have s2 := (hB2.cell (p := ⟨w.heap.size, 2, none⟩) hz2).trans s2; have s3 := (hB2.cell (p := ⟨w.heap.size, 3, none⟩) hz2).trans s3; have s4 := (hB2.cell (p := ⟨w.heap.size, 4, none⟩) hz2).trans s4; have hz2 := Nat.lt_of_lt_of_le hz2 hB2.size) | (have hBa := hB2; have s0 := (hB2.cell (p := ⟨w.heap.size, 0, none⟩) hz).trans c0; have s1 := (hB2.cell (p := ⟨w.heap.size, 1, none⟩) hz).trans c1; have s2 := (hB2.cell (p := ⟨w.heap.size, 2, none⟩) hz).trans c2; have s3 := (hB2.cell (p := ⟨w.heap.size, 3, none⟩) hz).trans c3; have s4 := (hB2.cell (p := ⟨w.heap.size, 4, none⟩) hz).trans c4; have hz2 := Nat.lt_of_lt_of_le hz hB2.size)) | (go_at_call_of 104 u; refine (HD3.out _).mono ?_; rintro e w2 ⟨rfl, hB2⟩; first | (have hBa := hBa.trans (hB2.mono hBa.size); have s0 := (hB2.cell (p := ⟨w.heap.size, 0, none⟩) hz2).trans s0; have s1 := (hB2.cell (p := ⟨w.heap.size, 1, none⟩) hz2).trans s1; have s2 := (hB2.cell (p := ⟨w.heap.size, 2, none⟩) hz2).trans s2; have s3 := (hB2.cell (p := ⟨w.heap.size, 3, none⟩) hz2).trans s3; have s4 := (hB2.cell (p := ⟨w.heap.size, 4, none⟩) hz2).trans s4; have hz2 := Nat.lt_of_lt_of_le hz2 hB2.size) | (have hBa := hB2; have s0 := (hB2.cell (p := ⟨w.heap.size, 0, none⟩) hz).trans c0; have s1 := (hB2.cell (p := ⟨w.heap.size, 1, none⟩) hz).trans c1; have s2 := (hB2.cell (p := ⟨w.heap.size, 2, none⟩) hz).trans c2; have s3 := (hB2.cell (p := ⟨w.heap.size, 3, none⟩) hz).trans c3; have s4 := (hB2.cell (p := ⟨w.heap.size, 4, none⟩) hz).trans c4; have hz2 := Nat.lt_of_lt_of_le hz hB2.size)))
 have HB := Lib.hid (show Below w.heap.size w w2 from hBW.trans ((show Below W.heap.size W w2 from ⟨hBa.os, hBa.tape, hBa.output, hBa.size, hBa.block⟩).mono hBW.size))
 clear hBa hBW hB2 s0 s1 s2 s3 s4 c0 c1 c2 c3 c4
 go_wp2
 go_ret
 exact ⟨by rw [← HP.out]; rfl, HB.out⟩
theorem swrite_any (f n t u : Int) (s : ByteArray) (w : World) (hs : s.size ≤ maxLen) :
  Calls Tryz.prog 150 #[note f n t u s] w (StrPost w (nw f n t u s)) := by
 cases h : okN f n t u s with
 | true => rw [nw_t h]; exact swrite_t f n t u s w h
 | false => rw [nw_f h]; exact swrite_f f n t u s w hs h
end Go.Proofs.YtckicpnnclbkpaaGreatDoor.dc

namespace Go.Proofs.YtckicpnnclbkpaaGreatDoor.sh
open dc
def st (x : List UInt8) : List UInt8 := dl x.length ++ 58 :: (x ++ [59])
def rok (x : List UInt8) : Prop := 1 ≤ x.length ∧ x.length ≤ 60
instance (x : List UInt8) : Decidable (rok x) := by unfold rok; exact inferInstance
def hd (l : List UInt8) : List UInt8 × List UInt8 := (l.takeWhile (· != 58), (l.dropWhile (· != 58)).drop 1)
def sz (d : List UInt8) : Nat := ((List.range 61).find? fun n : Nat => decide (1 ≤ n) && d == dl (n : Int)).getD 0
def one (l : List UInt8) : Option (List UInt8 × Nat) :=
 if sz (hd l).1 ≠ 0 ∧ (hd l).2[sz (hd l).1]? = some 59 then some ((hd l).2.take (sz (hd l).1), (hd l).1.length + sz (hd l).1 + 2) else none
theorem dl_inj {a b : Nat} (h : dl (a : Int) = dl (b : Int)) : a = b := by
 have e1 : val 0 (dl (a : Int)) = a := by unfold dl; rw [dd_val]; omega
 have e2 : val 0 (dl (b : Int)) = b := by unfold dl; rw [dd_val]; omega
 rw [← e1, ← e2, h]
theorem sz_dl {n : Nat} (h1 : 1 ≤ n) (h2 : n ≤ 60) : sz (dl n) = n := by
 unfold sz
 rw [show ((List.range 61).find? fun m : Nat => decide (1 ≤ m) && dl (n : Int) == dl (m : Int)) = some n from ?_]
 ·rfl
 rw [List.find?_eq_some_iff_append]
 refine ⟨by simp [h1], List.range n, (List.range (60 - n)).map (n + 1 + ·), ?_, fun a ha => ?_⟩
 ·have e : (61 : Nat) = n + (60 - n + 1) := by omega
  rw [e, List.range_add, List.range_succ_eq_map]
  simp [Function.comp_def, Nat.add_assoc, Nat.add_comm 1]
 ·simp only [Bool.not_eq_eq_eq_not, Bool.not_true, Bool.and_eq_false_iff]
  refine .inr ?_
  rw [beq_eq_false_iff_ne]
  intro e
  have := dl_inj e
  simp at ha
  omega
theorem sz_pos {d : List UInt8} (h : sz d ≠ 0) : 1 ≤ sz d ∧ sz d ≤ 60 ∧ d = dl (sz d) := by
 unfold sz at h ⊢
 cases e : (List.range 61).find? fun n : Nat => decide (1 ≤ n) && d == dl (n : Int) with
 | none => rw [e] at h; exact absurd rfl h
 | some n =>
  have h1 := List.find?_some e
  have h2 := List.mem_of_find?_eq_some e
  simp at h1 h2 ⊢
  exact ⟨h1.1, by omega, h1.2⟩
theorem dg_ne58 {c : UInt8} (h : dg c = true) : c ≠ 58 := fun e => by subst e; revert h; decide
theorem hd_app {a r : List UInt8} (h : ∀ c ∈ a, c ≠ 58) : hd (a ++ 58 :: r) = (a, r) := by
 induction a with
 | nil => simp [hd]
 | cons c a ih =>
  have hc : (c != 58) = true := by simpa using h c (by simp)
  have := ih (fun x hx => h x (by simp [hx]))
  simp only [hd, Prod.mk.injEq] at this
  simp [hd, hc, this.1, this.2]
theorem hd_dl (n : Int) (r : List UInt8) : hd (dl n ++ 58 :: r) = (dl n, r) :=
 hd_app fun c hc => dg_ne58 (List.all_eq_true.1 (dl_all n) c hc)
theorem hd_none {l : List UInt8} (h : ∀ k : Nat, l[k]? ≠ some 58) : hd l = (l, []) := by
 induction l with
 | nil => rfl
 | cons c l ih =>
  have hc : (c != 58) = true := by have := h 0; simpa using this
  have := ih (fun k => by have := h (k + 1); simpa using this)
  simp only [hd, Prod.mk.injEq] at this
  simp [hd, hc, this.1, this.2]
theorem hd_at {l : List UInt8} {i : Nat} (hi : l[i]? = some 58) (hb : ∀ k, k < i → l[k]? ≠ some 58) : hd l = (l.take i, l.drop (i + 1)) := by
 have hl : i < l.length := (List.getElem?_eq_some_iff.1 hi).1
 have e : l = l.take i ++ 58 :: l.drop (i + 1) := by
  have := (List.getElem?_eq_some_iff.1 hi).2
  rw [← this, ← List.drop_eq_getElem_cons hl, List.take_append_drop]
 have hw := hd_app (a := l.take i) (r := l.drop (i + 1)) (fun c hc => by
  obtain ⟨k, hk, e'⟩ := List.mem_iff_getElem.mp hc
  intro e2
  have hk' : k < i := by rw [List.length_take] at hk; omega
  apply hb k hk'
  rw [List.getElem?_eq_getElem (by omega)]
  rw [List.getElem_take] at e'
  rw [e', e2])
 rw [← e] at hw
 exact hw
theorem st_len {x : List UInt8} (h : rok x) : x.length + 3 ≤ (st x).length ∧ (st x).length ≤ x.length + 4 := by
 have h1 : (x.length : Int) ≤ 999 := by have := h.2; omega
 have := dl_len h1
 have h2 : (dl (x.length : Int)).length ≤ 2 := by
  unfold dl
  by_cases hs : x.length < 10
  ·rw [Lib.decDigits_one (by simpa using hs)]; simp
  ·rw [Lib.decDigits_two (by simpa using hs) (by have := h.2; simp; omega)]; simp
 unfold st
 simp only [List.length_append, List.length_cons, List.length_nil]
 omega
theorem one_st {x : List UInt8} (h : rok x) (t : List UInt8) : one (st x ++ t) = some (x, (st x).length) := by
 have e : st x ++ t = dl x.length ++ 58 :: (x ++ 59 :: t) := by unfold st; simp
 unfold one
 rw [e, hd_dl]
 simp only
 rw [sz_dl h.1 h.2]
 have h0 : x.length ≠ 0 := by have := h.1; omega
 rw [if_pos ⟨h0, by simp⟩]
 unfold st
 simp
 omega
theorem one_some {l x : List UInt8} {k : Nat} (h : one l = some (x, k)) : rok x ∧ k = (st x).length ∧ ∃ t, l = st x ++ t := by
 unfold one at h
 split at h
 case isTrue hc =>
  obtain ⟨hc1, hc2⟩ := hc
  obtain ⟨p1, p2, p3⟩ := sz_pos hc1
  simp only [Option.some.injEq, Prod.mk.injEq] at h
  obtain ⟨hx, hk⟩ := h
  generalize hn : sz (hd l).1 = n at *
  obtain ⟨hlt, hg⟩ := List.getElem?_eq_some_iff.1 hc2
  have hxl : x.length = n := by rw [← hx, List.length_take]; omega
  have hsplit : (hd l).2 = x ++ 59 :: (hd l).2.drop (n + 1) := by
   rw [← hx, ← hg, ← List.drop_eq_getElem_cons hlt, List.take_append_drop]
  have hcol : ∃ i : Nat, l[i]? = some 58 := by
   apply Classical.byContradiction
   intro hno
   have := hd_none (l := l) (fun k e => hno ⟨k, e⟩)
   rw [this] at hlt
   simp at hlt
  have hl : l = (hd l).1 ++ 58 :: (hd l).2 := by
   have key : ∀ m : List UInt8, (∃ i : Nat, m[i]? = some 58) → m = (hd m).1 ++ 58 :: (hd m).2 := by
    intro m
    induction m with
    | nil => rintro ⟨i, hi⟩; simp at hi
    | cons c m ih =>
     rintro ⟨i, hi⟩
     by_cases hc : c = 58
     ·subst hc; simp [hd]
     ·have hc' : (c != 58) = true := by simpa using hc
      have := ih (by
       cases i with
       | zero => simp at hi; exact absurd hi hc
       | succ i => exact ⟨i, by simpa using hi⟩)
      simp only [hd] at this
      simp only [hd, List.takeWhile_cons, hc', if_true, List.dropWhile_cons, List.cons_append]
      rw [← this]
   exact key l hcol
  refine ⟨⟨by omega, by omega⟩, ?_, (hd l).2.drop (n + 1), ?_⟩
  ·rw [← hk]; unfold st; rw [hxl, ← p3]; simp; omega
  ·unfold st
   rw [hxl, ← p3]
   simp only [List.append_assoc, List.cons_append, List.nil_append]
   rw [← hsplit]
   exact hl
 case isFalse => cases h
def lg : List (List UInt8) → List UInt8
 | [] => []
 | x :: xs => st x ++ lg xs
def Rks (xs : List (List UInt8)) : Prop := ∀ x ∈ xs, rok x
theorem lg_app (a b : List (List UInt8)) : lg (a ++ b) = lg a ++ lg b := by
 induction a with
 | nil => rfl
 | cons x a ih => simp [lg, ih]
theorem lg_snoc (a : List (List UInt8)) (x : List UInt8) : lg (a ++ [x]) = lg a ++ st x := by rw [lg_app]; simp [lg]
theorem Rks.app {a b : List (List UInt8)} (h1 : Rks a) (h2 : Rks b) : Rks (a ++ b) := fun x hx => by
 rcases List.mem_append.1 hx with h | h
 ·exact h1 x h
 ·exact h2 x h
theorem Rks.snoc {a : List (List UInt8)} {x : List UInt8} (h1 : Rks a) (h2 : rok x) : Rks (a ++ [x]) := h1.app fun y hy => by simp at hy; subst hy; exact h2
theorem Rks.nil : Rks [] := fun _ h => by cases h
theorem Rks.left {a b : List (List UInt8)} (h : Rks (a ++ b)) : Rks a := fun x hx => h x (by simp [hx])
theorem Rks.right {a b : List (List UInt8)} (h : Rks (a ++ b)) : Rks b := fun x hx => h x (by simp [hx])
theorem one_nil : one [] = none := by
 cases h : one [] with
 | none => rfl
 | some p =>
  obtain ⟨x, k⟩ := p
  obtain ⟨hx, _, t, e⟩ := one_some h
  have := st_len hx
  have := congrArg List.length e
  simp at this
  omega
def rdF : Nat → List UInt8 → List (List UInt8)
 | 0, _ => []
 | n + 1, l => match one l with
  | none => []
  | some (x, k) => x :: rdF n (l.drop k)
def rd (l : List UInt8) : List (List UInt8) := rdF l.length l
def en (l : List UInt8) : Nat := (lg (rd l)).length
theorem rdF_spec (n : Nat) : ∀ l : List UInt8, l.length ≤ n → Rks (rdF n l) ∧ ∃ t, l = lg (rdF n l) ++ t ∧ one t = none := by
 induction n with
 | zero =>
  intro l h
  have : l = [] := List.eq_nil_of_length_eq_zero (by omega)
  subst this
  exact ⟨Rks.nil, [], rfl, one_nil⟩
 | succ n ih =>
  intro l h
  unfold rdF
  cases e : one l with
  | none => exact ⟨Rks.nil, l, rfl, e⟩
  | some p =>
   obtain ⟨x, k⟩ := p
   obtain ⟨hx, hk, t, hl⟩ := one_some e
   have hs := st_len hx
   have hd : l.drop k = t := by rw [hl, hk]; simp
   have hlen : t.length ≤ n := by rw [hl, List.length_append] at h; omega
   obtain ⟨h1, u, h2, h3⟩ := ih t hlen
   simp only
   rw [hd]
   refine ⟨fun y hy => ?_, u, ?_, h3⟩
   ·rcases List.mem_cons.1 hy with rfl | hy
    ·exact hx
    ·exact h1 y hy
   ·rw [hl]; simp only [lg, List.append_assoc]; rw [← h2]
theorem rd_spec (l : List UInt8) : Rks (rd l) ∧ ∃ t, l = lg (rd l) ++ t ∧ one t = none := rdF_spec _ l (Nat.le_refl _)
theorem lg_part : ∀ {a b : List (List UInt8)} {t u : List UInt8}, Rks a → Rks b → one u = none → lg a ++ t = lg b ++ u → ∃ c, b = a ++ c ∧ t = lg c ++ u
 | [], b, t, u, _, _, _, e => ⟨b, rfl, e⟩
 | x :: a, b, t, u, ha, hb, hu, e => by
  have hx : rok x := ha x (by simp)
  have e1 : one (lg b ++ u) = some (x, (st x).length) := by rw [← e]; simp only [lg, List.append_assoc]; exact one_st hx _
  cases b with
  | nil => simp only [lg, List.nil_append] at e1; rw [hu] at e1; cases e1
  | cons y b =>
   have hy : rok y := hb y (by simp)
   have e2 : one (lg (y :: b) ++ u) = some (y, (st y).length) := by simp only [lg, List.append_assoc]; exact one_st hy _
   rw [e2] at e1
   have exy : y = x := (Prod.mk.inj (Option.some.inj e1)).1
   subst exy
   simp only [lg, List.append_assoc] at e
   obtain ⟨c, hc, ht⟩ := lg_part (fun z hz => ha z (by simp [hz])) (fun z hz => hb z (by simp [hz])) hu (List.append_cancel_left e)
   exact ⟨c, by rw [hc]; rfl, ht⟩
theorem rd_of {a : List (List UInt8)} {u : List UInt8} (ha : Rks a) (hu : one u = none) : rd (lg a ++ u) = a := by
 obtain ⟨h1, t, h2, h3⟩ := rd_spec (lg a ++ u)
 obtain ⟨c, hc, ht⟩ := lg_part h1 ha hu h2.symm
 cases c with
 | nil => simpa using hc.symm
 | cons x c =>
  exfalso
  have hx : rok x := ha x (by rw [hc]; simp)
  rw [ht] at h3
  simp only [lg, List.append_assoc] at h3
  rw [one_st hx] at h3
  cases h3
theorem en_le (l : List UInt8) : en l ≤ l.length := by
 obtain ⟨_, t, h, _⟩ := rd_spec l
 have := congrArg List.length h
 rw [List.length_append] at this
 unfold en
 omega
theorem lg_count {a : List (List UInt8)} (h : Rks a) : 4 * a.length ≤ (lg a).length := by
 induction a with
 | nil => exact Nat.zero_le _
 | cons x a ih =>
  have h1 := st_len (h x (by simp))
  have h2 := (h x (by simp)).1
  have := ih (fun z hz => h z (by simp [hz]))
  simp only [lg, List.length_append, List.length_cons]
  omega
theorem rd_take {l : List UInt8} (n : Nat) : ∃ c, rd l = rd (l.take n) ++ c := by
 obtain ⟨h1, t, e, _⟩ := rd_spec (l.take n)
 obtain ⟨h2, u, e2, hu⟩ := rd_spec l
 obtain ⟨c, hc, _⟩ := lg_part (t := t ++ l.drop n) h1 h2 hu (by rw [← List.append_assoc, ← e, List.take_append_drop]; exact e2)
 exact ⟨c, hc⟩
end Go.Proofs.YtckicpnnclbkpaaGreatDoor.sh

namespace Go.Proofs.YtckicpnnclbkpaaGreatDoor.sh
open dc
theorem one_at {l : List UInt8} {i : Nat} (hi : l[i]? = some 58) (hb : ∀ k, k < i → l[k]? ≠ some 58) :
  one l = if sz (l.take i) ≠ 0 ∧ l[i + 1 + sz (l.take i)]? = some 59 then some ((l.drop (i + 1)).take (sz (l.take i)), i + sz (l.take i) + 2) else none := by
 have hl : i < l.length := (List.getElem?_eq_some_iff.1 hi).1
 unfold one
 rw [hd_at hi hb]
 simp only [List.getElem?_drop, List.length_take, Nat.min_eq_left (Nat.le_of_lt hl)]
theorem dl_len2 {n : Nat} (h : n ≤ 60) : (dl (n : Int)).length ≤ 2 := by
 unfold dl
 by_cases hs : n < 10
 ·rw [Lib.decDigits_one (by simpa using hs)]; simp
 ·rw [Lib.decDigits_two (by simpa using hs) (by simp; omega)]; simp
theorem one_no3 {l : List UInt8} (h : ∀ k, k < 3 → l[k]? ≠ some 58) : one l = none := by
 cases e : one l with
 | none => rfl
 | some p =>
  obtain ⟨x, k⟩ := p
  obtain ⟨hx, _, t, hl⟩ := one_some e
  exfalso
  have := dl_len2 hx.2
  apply h (dl (x.length : Int)).length (by omega)
  rw [hl]
  unfold st
  simp
def oneS (l : List UInt8) : ByteArray := match one l with | some (x, _) => str x | none => str []
def oneN (l : List UInt8) : Nat := match one l with | some (_, k) => k | none => 0
theorem oneS_none {l : List UInt8} (h : one l = none) : oneS l = str [] := by unfold oneS; rw [h]
theorem oneN_none {l : List UInt8} (h : one l = none) : oneN l = 0 := by unfold oneN; rw [h]
theorem oneS_some {l x : List UInt8} {k : Nat} (h : one l = some (x, k)) : oneS l = str x := by unfold oneS; rw [h]
theorem oneN_some {l x : List UInt8} {k : Nat} (h : one l = some (x, k)) : oneN l = k := by unfold oneN; rw [h]
theorem ext_take (s : ByteArray) (i : Nat) : (s.extract 0 i).data.toList = s.data.toList.take i := by
 rw [Lib.extract_eq, data_str']
 simp
where data_str' : ∀ {l : List UInt8}, (⟨l.toArray⟩ : ByteArray).data.toList = l := by intro l; simp
end Go.Proofs.YtckicpnnclbkpaaGreatDoor.sh

namespace Go.Proofs.YtckicpnnclbkpaaGreatDoor.sh
open Go.ChangeShapes Go.WideShapes Go.ChangeAt Go.RowKit
open nb ok wd dc
def stS (x : ByteArray) : ByteArray := str (st x.data.toList)
end Go.Proofs.YtckicpnnclbkpaaGreatDoor.sh

namespace Go.Proofs.YtckicpnnclbkpaaGreatDoor.sh
open Go.ChangeShapes Go.WideShapes Go.ChangeAt Go.RowKit
open nb ok wd dc
abbrev lim (v a b : Int) : Value := .agg #[.int .i64 v, .int .i64 a, .int .i64 b]
theorem limRec_any (n : Int) (w : World) :
  Calls Tryz.prog 161 #[.int .i64 n] w fun e w' => e = .returned (lim n 1 60) ∧ Below w.heap.size w w' := by
 go_enter Tryz.func161, Tryz.ntmps161
 go_wp2
 exact bodyPost_ret (v := lim n 1 60) (by simp [results, Tryz.results161, go_sem, lim]) rfl ⟨rfl, (Below.refl _ _).alloc (Nat.le_refl _) _⟩
theorem outside_any (v a b : Int) (w : World) :
  Calls Tryz.prog 125 #[lim v a b] w fun e w' => e = .returned (.bool (!inB v a b)) ∧ Below w.heap.size w w' := by
 unfold lim
 by_cases h1 : v < a
 ·rw [inB_f (.inl h1)]
  go_enter Tryz.func125, Tryz.ntmps125
  go_wp2
  go_ret
  exact ⟨rfl, (Below.refl _ _).alloc (Nat.le_refl _) _⟩
 ·by_cases h2 : b < v
  ·rw [inB_f (.inr h2)]
   go_enter Tryz.func125, Tryz.ntmps125
   go_wp2
   go_ret
   exact ⟨rfl, (Below.refl _ _).alloc (Nat.le_refl _) _⟩
  ·rw [inB_t (by omega) (by omega)]
   go_enter Tryz.func125, Tryz.ntmps125
   go_wp2
   go_ret
   exact ⟨rfl, (Below.refl _ _).alloc (Nat.le_refl _) _⟩
theorem itoa_all (n : Int) (h0 : -9223372036854775808 ≤ n) (h1 : n ≤ 9223372036854775807) (w : World) (h : Tab w) :
  Calls Tryz.prog 160 #[.int .i64 n] w (StrPost w (str (Lib.itoa n))) := by
 refine (Tryz.strconv_Itoa n h0 h1 w h).mono ?_
 rintro e w' ⟨rfl, k, os, rfl⟩
 exact ⟨rfl, below_grow w k os⟩
theorem atoiV_range (l : List UInt8) : -9223372036854775808 ≤ atoiV l ∧ atoiV l ≤ 9223372036854775807 := by
 unfold atoiV
 cases h : Lib.atoiAll l with
 | ok v =>
  simp only
  unfold Lib.atoiAll at h
  cases l with
  | nil => cases h
  | cons c r =>
   simp only at h
   cases hp : Lib.parseMag (if c.toNat = 43 ∨ c.toNat = 45 then r else c :: r) with
   | ok u =>
    rw [hp] at h
    simp only at h
    split at h
    ·cases h
    ·split at h
     ·cases h
     ·injection h with h
      rw [← h]
      split <;> omega
   | _ => rw [hp] at h; cases h
 | range => simp only; unfold Lib.atoiSat; split <;> omega
 | _ => simp only; omega
theorem sz_atoi {d : List UInt8} (h : sz d ≠ 0) : atoiV d = (sz d : Int) ∧ Lib.itoa (atoiV d) = d ∧ 1 ≤ atoiV d ∧ atoiV d ≤ 60 := by
 obtain ⟨h1, h2, h3⟩ := sz_pos h
 have e : atoiV d = (sz d : Int) := by
  have := atoiV_dl (n := (sz d : Int)) (by omega) (by omega)
  rw [← h3] at this
  exact this
 exact ⟨e, by rw [e, itoa_dl (by omega)]; exact h3.symm, by omega, by omega⟩
theorem sz_of_atoi {d : List UInt8} {n : Nat} (h : Lib.itoa (atoiV d) = d) (hn : atoiV d = (n : Int)) (h1 : 1 ≤ n) (h2 : n ≤ 60) : sz d = n := by
 rw [hn, itoa_dl (by omega)] at h
 rw [← h]
 exact sz_dl h1 h2
end Go.Proofs.YtckicpnnclbkpaaGreatDoor.sh

namespace Go.Proofs.YtckicpnnclbkpaaGreatDoor.sh
open Go.ChangeShapes Go.WideShapes Go.ChangeAt Go.RowKit
open nb ok dc
theorem bdrewN {B : Nat} {a w : World} (h : Below B a w) (n : Nat) : Below B a (w.drewN n) := ⟨h.os, h.tape, h.output, h.size, h.block⟩
theorem hd_parts {s : ByteArray} {i : Nat} (hi : s.data.toList[i]? = some 58) (hb : ∀ k, k < i → s.data.toList[k]? ≠ some 58) :
  s.extract 0 i = str (hd s.data.toList).1 ∧ s.extract (i + 1) s.size = str (hd s.data.toList).2 := by
 rw [hd_at hi hb, Lib.extract_eq, Lib.extract_eq]
 refine ⟨by simp [str], ?_⟩
 unfold str
 congr 2
 show List.take (s.size - (i + 1)) (List.drop (i + 1) s.data.toList) = _
 rw [List.take_of_length_le (by rw [List.length_drop, ← Lib.size_eq]; exact Nat.le_refl _)]
theorem hd_whole {s : ByteArray} (h : ∀ k : Nat, s.data.toList[k]? ≠ some 58) : s = str (hd s.data.toList).1 ∧ (⟨#[]⟩ : ByteArray) = str (hd s.data.toList).2 := by
 rw [hd_none h]
 exact ⟨(str_data s).symm, rfl⟩
def Cut58Post (w : World) (s : ByteArray) (e : Ending) (w' : World) : Prop := ∃ b, e = .returned (.tuple #[.string (str (hd s.data.toList).1), .string (str (hd s.data.toList).2), .bool b]) ∧ Below w.heap.size w w'
theorem idx58_any (s : ByteArray) (w : World) : Calls Tryz.prog 210 #[.string s, .string ⟨#[58]⟩] w fun e w' => e = .returned (.int .i64 (Lib.indexByte s.data.toList 58)) ∧ w = w' :=
 (Tryz.stringslite_Index_one s 58 w).mono fun _ _ ⟨a, b⟩ => ⟨a, b.symm⟩
theorem cut58_inner (s : ByteArray) (hs : s.size ≤ 8388608) (w : World) :
  Calls Tryz.prog 186 #[.string s, .string ⟨#[58]⟩] w (Cut58Post w s) := by
 by_cases hneg : Lib.indexByte s.data.toList 58 < 0
 ·have e1 : Lib.indexByte s.data.toList 58 = -1 := by have := Lib.indexByte_ge s.data.toList 58; omega
  have HW := Lib.hid (hd_whole (Lib.indexByte_none e1))
  have HI := Lib.hid (fun W => (idx58_any s W))
  rw [e1] at HI
  clear hneg e1
  go_enter Tryz.func186, Tryz.ntmps186
  go_wp2_with ((go_at_call 210; refine (HI.out _).mono ?_; rintro e w' ⟨rfl, rfl⟩))
  go_ret3
  exact ⟨false, by rw [← HW.out.1, ← HW.out.2]; rfl, Below.refl _ _⟩
 ·obtain ⟨o, ho⟩ := Int.eq_ofNat_of_zero_le (Int.not_lt.1 hneg)
  obtain ⟨h1, h2⟩ := Lib.indexByte_some ho
  have HW := Lib.hid (hd_parts h1 h2)
  have HI := Lib.hid (fun W => (idx58_any s W))
  rw [ho] at HI
  have hlt : o < s.size := by have := (List.getElem?_eq_some_iff.1 h1).1; rwa [← Lib.size_eq] at this
  clear hneg ho h1 h2
  have b0 : (0 : Int) ≤ (o : Int) := by omega
  have b1 : (o : Int) ≤ (s.size : Int) := by omega
  have b2 : IntKind.i64.wrap ((o : Int) + 1) = (o : Int) + 1 := by rw [IntKind.wrap_i64]; omega
  have b3 : (0 : Int) ≤ (o : Int) + 1 := by omega
  have b4 : (o : Int) + 1 ≤ (s.size : Int) := by omega
  have b5 : ((o : Int) + 1).toNat = o + 1 := by omega
  go_enter Tryz.func186, Tryz.ntmps186
  go_wp2_with ((go_at_call 210; refine (HI.out _).mono ?_; rintro e w' ⟨rfl, rfl⟩))
  go_quiet (fail)
  go_wp2
  go_ret3
  exact ⟨true, by rw [← HW.out.1, ← HW.out.2]; rfl, bdrewN (Below.refl _ _) _⟩
theorem cut58_any (s : ByteArray) (hs : s.size ≤ 8388608) (w : World) :
  Calls Tryz.prog 158 #[.string s, .string ⟨#[58]⟩] w (Cut58Post w s) := by
 have H := Lib.hid (fun W => cut58_inner s hs W)
 go_enter Tryz.func158, Tryz.ntmps158
 go_wp2_with fail
 refine (H.out _).mono ?_
 rintro e w1 ⟨b, rfl, hB⟩
 go_wp2
 go_ret3
 exact ⟨b, rfl, hB⟩
end Go.Proofs.YtckicpnnclbkpaaGreatDoor.sh

namespace Go.Proofs.YtckicpnnclbkpaaGreatDoor.dc
open Go.ChangeShapes Go.WideShapes Go.ChangeAt Go.RowKit
open nb ok wd
def Reads (l : List UInt8) (v : Int) : Prop := (v = -1 ∧ ∀ m : Int, 0 ≤ m → m ≤ 9999 → l ≠ dl m) ∨ (0 ≤ v ∧ v ≤ 9999 ∧ l = dl v)
def ReadsPost (w : World) (l : List UInt8) (e : Ending) (w' : World) : Prop := ∃ v : Int, e = .returned (.int .i64 v) ∧ Reads l v ∧ Below w.heap.size w w'
theorem reads_not {l : List UInt8} (h : ∀ m : Int, 0 ≤ m → m ≤ 9999 → l ≠ dl m) : Reads l (-1) := .inl ⟨rfl, h⟩
theorem dl_len4 {m : Int} (h0 : 0 ≤ m) (h1 : m ≤ 9999) : 1 ≤ (dl m).length ∧ (dl m).length ≤ 4 := by
 by_cases h : m < 10
 ·rw [dl_one h0 h]; simp
 ·have := dl_len (n := m / 10) (by omega)
  rw [dl_step (by omega), List.length_append]
  simp
  omega
theorem not_len4 {l : List UInt8} (h : l.length < 1 ∨ 4 < l.length) : ∀ m : Int, 0 ≤ m → m ≤ 9999 → l ≠ dl m := fun m h0 h1 e => by
 have := dl_len4 h0 h1
 rw [← e] at this
 omega
theorem not_digit4 {l : List UInt8} {c : UInt8} (hm : c ∈ l) (h : dg c = false) : ∀ m : Int, 0 ≤ m → m ≤ 9999 → l ≠ dl m := fun m _ _ e => by
 have := List.all_eq_true.1 (dl_all m) c (e ▸ hm)
 rw [h] at this
 cases this
theorem not_val4 {l : List UInt8} (h : dl (val 0 l : Int) ≠ l) : ∀ m : Int, 0 ≤ m → m ≤ 9999 → l ≠ dl m := fun m h0 _ e => by
 apply h
 have : (val 0 l : Int) = m := by
  rw [e]
  unfold dl
  rw [dd_val]
  omega
 rw [this]
 exact e.symm
set_option maxHeartbeats 1000000 in
theorem dec3x_any (s : ByteArray) (hs : s.size ≤ 8388608) (w : World) :
  Calls Tryz.prog 79 #[.string s] w (ReadsPost w s.data.toList) := by
 by_cases h0 : s.size < 1
 ·have R := Lib.hid (reads_not (not_len4 (l := s.data.toList) (.inl (by rw [← Lib.size_eq]; exact h0))))
  have h0' : (s.size : Int) < 1 := by omega
  go_enter Tryz.func79, Tryz.ntmps79
  go_wp2_with fail
  go_ret
  exact ⟨-1, rfl, R.out, Below.refl _ _⟩
 by_cases h1 : 4 < s.size
 ·have R := Lib.hid (reads_not (not_len4 (l := s.data.toList) (.inr (by rw [← Lib.size_eq]; exact h1))))
  have h0' : ¬ (s.size : Int) < 1 := by omega
  have h1' : 4 < (s.size : Int) := by omega
  go_enter Tryz.func79, Tryz.ntmps79
  go_wp2_with fail
  go_ret
  exact ⟨-1, rfl, R.out, Below.refl _ _⟩
 have h0' : ¬ (s.size : Int) < 1 := by omega
 have h1' : ¬ 4 < (s.size : Int) := by omega
 go_enter Tryz.func79, Tryz.ntmps79
 go_wp2_with fail
 go_loop [3, 4] (fun x i => ∃ (k : Nat) (a : Int), k ≤ s.size ∧ i = .int .i64 k ∧ x = .int .i64 a ∧ 0 ≤ a ∧ a ≤ 9999 ∧ Hid (a = (val 0 (s.data.toList.take k) : Int) ∧ (s.data.toList.take k).all dg = true)) (fun _ i => s.size - (intOf i).toNat)
 case atStart => exact ⟨0, 0, by omega, rfl, rfl, by omega, by omega, rfl, rfl⟩
 case round =>
  obtain ⟨k, a, hk, rfl, rfl, a0, a1, HA⟩ := hrel
  by_cases hlt : k < s.size
  ·have HM := Lib.hid (show s[k] ∈ s.data.toList from by show s.data[k] ∈ s.data.toList; simp)
   by_cases d0 : (s[k].toNat : Int) < 48
   ·have R := Lib.hid (reads_not (not_digit4 HM.out (decide_eq_false (by omega))))
    go_wp2
    go_ret
    exact ⟨-1, rfl, R.out, Below.refl _ _⟩
   by_cases d1 : 57 < (s[k].toNat : Int)
   ·have R := Lib.hid (reads_not (not_digit4 HM.out (decide_eq_false (by omega))))
    go_wp2
    go_ret
    exact ⟨-1, rfl, R.out, Below.refl _ _⟩
   have HS : Hid (a * 10 + ((s[k].toNat : Int) - 48) = (val 0 (s.data.toList.take (k + 1)) : Int) ∧ (s.data.toList.take (k + 1)).all dg = true) := by
    obtain ⟨e1, e2⟩ := HA.out
    have hd : dg s[k] = true := decide_eq_true (by omega)
    rw [ok.take_snoc s k hlt, val_snoc, List.all_append, e2]
    refine ⟨by rw [e1]; omega, by simp [hd]⟩
   have hb : a * 10 + ((s[k].toNat : Int) - 48) ≤ 9999 := by
    obtain ⟨e1, e2⟩ := HS.out
    have hv := val_lt _ e2
    have hp : 10 ^ (s.data.toList.take (k + 1)).length ≤ 10 ^ 4 := Nat.pow_le_pow_right (by omega) (by rw [List.length_take]; omega)
    rw [e1]
    have : (10 : Nat) ^ 4 = 10000 := by decide
    omega
   go_wp2
   go_round
   case rel => exact ⟨k + 1, _, by omega, by go_num, rfl, by omega, hb, HS⟩
   case measure => simp [intOf]; omega
  ·have HE : Hid (a = (val 0 s.data.toList : Int)) := by
    have := HA.out.1
    rwa [List.take_of_length_le (by rw [← Lib.size_eq]; omega)] at this
   have HD := Lib.hid (fun W => dec_any a a0 a1 W)
   by_cases hq : str (dl a) = s
   ·have R := Lib.hid (show Reads s.data.toList a from .inr ⟨a0, a1, by rw [← hq, data_str]⟩)
    rw [hq] at HD
    clear HA
    go_wp2_with fail
    refine (HD.out _).mono ?_
    rintro e w2 ⟨rfl, hB⟩
    go_wp2
    go_ret
    exact ⟨a, rfl, R.out, hB⟩
   ·have R := Lib.hid (reads_not (not_val4 (l := s.data.toList) (fun e => hq (by rw [HE.out, e, str_data]))))
    have hne := toList_ne hq
    generalize str (dl a) = x at HD hne
    clear HA hq
    go_wp2_with fail
    refine (HD.out _).mono ?_
    rintro e w2 ⟨rfl, hB⟩
    go_wp2
    go_ret
    exact ⟨-1, rfl, R.out, hB⟩
end Go.Proofs.YtckicpnnclbkpaaGreatDoor.dc

