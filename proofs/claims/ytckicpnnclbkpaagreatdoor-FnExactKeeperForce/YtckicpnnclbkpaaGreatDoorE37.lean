/-
  Merged texts: SNode, HfSpec, HfSpec2, SNode2.
-/
import Derived.Test.YtckicpnnclbkpaaGreatDoorE36
namespace Go.Proofs.YtckicpnnclbkpaaGreatDoor.hf
open Go.ChangeShapes Go.WideShapes Go.ChangeAt Go.RowKit
open wd ow rl ok kp nb sl dc
def HasPost (w : World) (id : Int) (s : ByteArray) (e : Ending) (w' : World) : Prop :=
 ∃ (k : Kp) (b : Bool) (vh vm vi : Value), e = .returned (.tuple #[kpV k.id k.time k.next vh vm vi, .bool b]) ∧ Has id s k b ∧ Sz 14 k ∧ OwnK w w' k vh vm vi
def RdP (V : World) (n : Int) (ls : List ByteArray) (e : Ending) (w' : World) : Prop := ∃ v, e = .returned (.tuple #[v, .int .i64 n]) ∧ ow.Own 9 V w' v (ls.map Value.string)
theorem sread_ls (s : ByteArray) (hs : s.size ≤ 1048576) : ∃ (ls : List ByteArray) (n : Int), txs ls = recsL s ∧ ls.length ≤ 1048576 ∧ (∀ x ∈ ls, x.size ≤ 1048576) ∧ ∀ V, Calls Tryz.prog 30 #[.string s] V (RdP V n ls) := by
 refine ⟨recsS s, (sh.en s.data.toList : Nat), recs_txs s, recs_few hs, recs_small, fun V => ?_⟩
 have h := sh.sread_any s (by omega) V
 unfold sh.ReadPost at h
 rw [sh.recV_str] at h
 exact h
set_option maxRecDepth 100000 in
set_option maxHeartbeats 3200000 in
theorem shas_any (w : World) (id : Int) (up : Bool) (s : ByteArray) (f : Int) (A : Option Addr) (m c : Nat) (hs : s.size ≤ 1048576) :
  Calls Tryz.prog 32 #[nodeV id up s f (.slice A m c)] w (HasPost w id s) := by
 have k1 := (Blk.new w 32 (nodeC id up s f (.slice A m c))).alloc (.cells #[.int .i64 0, .int .i64 0, .int .i64 0, .slice none 0 0, .slice none 0 0, .slice none 0 0] 39)
 have k2 := Blk.new (w.alloc (.cells (nodeC id up s f (.slice A m c)) 32)) 39 #[.int .i64 0, .int .i64 0, .int .i64 0, .slice none 0 0, .slice none 0 0, .slice none 0 0]
 have B0 := ((Below.refl w.heap.size w).alloc (Nat.le_refl _) (.cells (nodeC id up s f (.slice A m c)) 32)).alloc (by simp) (.cells #[.int .i64 0, .int .i64 0, .int .i64 0, .slice none 0 0, .slice none 0 0, .slice none 0 0] 39)
 simp only [World.size_alloc] at k2
 have HR := Lib.hid (fun V => sh.sread_any s (by omega) V)
 unfold sh.ReadPost at HR
 rw [sh.recV_str] at HR
 generalize sh.en s.data.toList = n at HR
 have hq1 := recs_txs s
 have hq2 := recs_few hs
 have hq3 := recs_small (s := s)
 change Hid (∀ V, Calls _ _ _ V (fun e w' => ∃ v, e = .returned (.tuple #[v, .int .i64 n]) ∧ ow.Own _ V w' v ((recsS s).map Value.string))) at HR
 generalize recsS s = ls at HR hq1 hq2 hq3
 have HQ1 := Lib.hid hq1
 have HQ3 := Lib.hid hq3
 clear hq1 hq3
 go_enter Tryz.func32, Tryz.ntmps32
 go_wp2_with fail
 generalize (w.alloc (.cells (nodeC id up s f (.slice A m c)) 32)).alloc (.cells #[.int .i64 0, .int .i64 0, .int .i64 0, .slice none 0 0, .slice none 0 0, .slice none 0 0] 39) = V at k1 k2 B0 ⊢
 refine (HR.out _).mono ?_
 rintro e w1 ⟨v, rfl, hO⟩
 have hS : SeesS w1 v ls := sees_of_own hO
 have hB1 := hO.2
 have HS := Lib.hid hS
 obtain ⟨A1, c1, rfl, _⟩ := hS
 have HB1 := Lib.hid (B0.trans (hB1.mono B0.size))
 have j1 := k1.below hB1 k1.lt
 have J2 := Lib.hid (k2.below hB1 k2.lt)
 obtain ⟨a0, _⟩ := five5 j1
 clear k1 k2 B0 hB1 hO HR j1
 go_wp2_with fail
 refine (keepOf_any _ id _ ls HS.out hq2 HQ3.out).mono ?_
 rintro e w2 ⟨k, b, vh, vm, vi, rfl, hd, hsz, o⟩
 rw [HQ1.out] at hd
 obtain ⟨Ah, ch, rfl⟩ := OwnR.form o.held
 obtain ⟨Am, cm, rfl⟩ := OwnR.form o.marks
 obtain ⟨Ai, ci, rfl⟩ := OwnR.form o.inbox
 have z := J2.out.below o.bel J2.out.lt
 have hlt : w.heap.size + 1 < w1.heap.size := J2.out.lt
 obtain ⟨r0, r1, r2, r3, r4, r5, f0, f1, f2, f3, f4, f5⟩ := res_cells z
 have HC := Lib.hid (put6_blk (a' := .int .i64 k.id) (b' := .int .i64 k.time) (c' := .int .i64 k.next) (d' := .slice Ah k.held.length ch) (e' := .slice Am k.marks.length cm) (f' := .slice Ai k.inbox.length ci) z)
 have HE := Lib.hid (put6_below (B := w.heap.size) (R := w.heap.size + 1) (Nat.le_succ _) (HB1.out.trans (o.bel.mono HB1.out.size)) (.int .i64 k.id) (.int .i64 k.time) (.int .i64 k.next) (.slice Ah k.held.length ch) (.slice Am k.marks.length cm) (.slice Ai k.inbox.length ci))
 have o1 : OwnAt ntS 105 w1.heap.size w2 (.slice Ah k.held.length ch) k.held := o.held.1
 have o2 : OwnAt mkS 108 w1.heap.size w2 (.slice Am k.marks.length cm) k.marks := o.marks.1
 have o3 : OwnAt ntS 105 w1.heap.size w2 (.slice Ai k.inbox.length ci) k.inbox := o.inbox.1
 have H1 := Lib.hid (o1.put6 (R := w.heap.size + 1) hlt (.int .i64 k.id) (.int .i64 k.time) (.int .i64 k.next) (.slice Ah k.held.length ch) (.slice Am k.marks.length cm) (.slice Ai k.inbox.length ci))
 have H2 := Lib.hid (o2.put6 (R := w.heap.size + 1) hlt (.int .i64 k.id) (.int .i64 k.time) (.int .i64 k.next) (.slice Ah k.held.length ch) (.slice Am k.marks.length cm) (.slice Ai k.inbox.length ci))
 have H3 := Lib.hid (o3.put6 (R := w.heap.size + 1) hlt (.int .i64 k.id) (.int .i64 k.time) (.int .i64 k.next) (.slice Ah k.held.length ch) (.slice Am k.marks.length cm) (.slice Ai k.inbox.length ci))
 have HQ := Lib.hid (And.intro o.hm (And.intro o.hi o.mi))
 have HD := Lib.hid (show Has id s k b from hd)
 have HZ := Lib.hid hsz
 have hle : w.heap.size ≤ w1.heap.size := by omega
 clear z o o1 o2 o3 hd hsz a0
 go_wp2
 obtain ⟨x0, x1, x2, x3, x4, x5, _⟩ := res_cells HC.out
 refine bodyPost_ret (v := .tuple #[kpV k.id k.time k.next (.slice Ah k.held.length ch) (.slice Am k.marks.length cm) (.slice Ai k.inbox.length ci), .bool b]) (by simp [results, Tryz.results32, go_sem, x0, x1, x2, x3, x4, x5]) rfl ⟨k, b, _, _, _, rfl, HD.out, HZ.out, ⟨OwnAt.down H1.out hle, HE.out⟩, ⟨OwnAt.down H2.out hle, HE.out⟩, ⟨OwnAt.down H3.out hle, HE.out⟩, HQ.out.1, HQ.out.2.1, HQ.out.2.2⟩
end Go.Proofs.YtckicpnnclbkpaaGreatDoor.hf

namespace Go.Proofs.YtckicpnnclbkpaaGreatDoor.hf
open Go.ChangeShapes Go.WideShapes Go.ChangeAt Go.RowKit
open wd ow rl ok kp nb
def Bw (w : World) (b : Bool) (e : Ending) (w' : World) : Prop := e = .returned (.bool b) ∧ w = w'
theorem l1ok_any (b n : Int) (w : World) : Calls Tryz.prog 83 #[.int .i64 b, .int .i64 n] w (Bw w (inB b 1 6 && inB n 0 999)) := by
 cases hb : inB b 1 6 with
 | false =>
  have H1 := Lib.hid (in_any b 1 6 w)
  rw [hb] at H1
  go_enter Tryz.func83, Tryz.ntmps83
  go_wp2_with fail
  refine H1.out.mono ?_
  rintro e w1 ⟨rfl, rfl⟩
  go_wp2
  go_ret
  exact ⟨rfl, rfl⟩
 | true =>
  have H1 := Lib.hid (in_any b 1 6 w)
  have H2 := Lib.hid (in_any n 0 999 w)
  rw [hb] at H1
  generalize inB n 0 999 = c at H2 ⊢
  go_enter Tryz.func83, Tryz.ntmps83
  go_wp2_with fail
  refine H1.out.mono ?_
  rintro e w1 ⟨rfl, rfl⟩
  go_wp2_with fail
  refine H2.out.mono ?_
  rintro e w1 ⟨rfl, rfl⟩
  go_wp2
  go_ret
  exact ⟨by simp, rfl⟩
theorem sblocks_any (z : Int) (h0 : 1 ≤ z) (h1 : z ≤ 24) (w : World) : Calls Tryz.prog 61 #[.int .i64 z] w fun e w' => (∃ b : Int, e = .returned (.int .i64 b) ∧ inB b 1 6 = true) ∧ w = w' := by
 have hr : IntKind.i64.wrap (z + 4) = z + 4 := by rw [IntKind.wrap_i64]; omega
 go_enter Tryz.func61, Tryz.ntmps61
 go_wp2
 go_ret
 refine ⟨⟨_, rfl, ?_⟩, rfl⟩
 rw [inB_iff]
 omega
theorem smb_any (b : Int) (n : Int) (d : ByteArray) (hb : inB b 1 6 = true) (w : World) : Calls Tryz.prog 60 #[.int .i64 b, .agg #[.int .i64 n, .string d]] w (BoolK w (okMb (n, d))) := by
 have B0 := (Below.refl w.heap.size w).alloc (Nat.le_refl _) (.cells #[.int .i64 n, .string d] 97)
 have H1 := Lib.hid (fun V => l1ok_any b n V)
 rw [hb] at H1
 have hq : ((d.size : Int) == 4) = decide (d.size = 4) := by
  rw [Bool.eq_iff_iff, beq_iff_eq, decide_eq_true_eq]; omega
 unfold okMb
 dsimp only
 unfold Bw at H1
 have k0 := Blk.new w 97 #[.int .i64 n, .string d]
 cases hn : inB n 0 999 with
 | false =>
  rw [hn] at H1
  go_enter Tryz.func60, Tryz.ntmps60
  go_wp2_with fail
  refine (H1.out _).mono ?_
  rintro e w1 ⟨rfl, rfl⟩
  go_wp2
  go_ret
  exact ⟨rfl, B0⟩
 | true =>
  rw [hn] at H1
  go_enter Tryz.func60, Tryz.ntmps60
  go_wp2_with fail
  refine (H1.out _).mono ?_
  rintro e w1 ⟨rfl, rfl⟩
  go_wp2
  go_ret
  exact ⟨by simp, B0⟩
end Go.Proofs.YtckicpnnclbkpaaGreatDoor.hf

namespace Go.Proofs.YtckicpnnclbkpaaGreatDoor.hf
open Go.ChangeShapes Go.WideShapes Go.ChangeAt Go.RowKit
open wd ow rl ok kp nb
set_option maxRecDepth 100000 in
set_option maxHeartbeats 3200000 in
theorem shf_any (w : World) (h : Hf) (g0 : Value) (hg : SeesR mbS w g0 h.got) (hl : h.got.length ≤ 1048576) :
  Calls Tryz.prog 33 #[hfV h g0] w (BoolK w (okHf h)) := by
 have HS := Lib.hid hg
 obtain ⟨A, c, rfl, _⟩ := hg
 have K0 := Lib.hid (Blk.new w 62 #[.int .i64 h.f, .int .i64 h.n, .int .i64 h.t, .int .i64 h.u, .int .i64 h.z, .slice A h.got.length c])
 have B0 := (Below.refl w.heap.size w).alloc (Nat.le_refl _) (.cells #[.int .i64 h.f, .int .i64 h.n, .int .i64 h.t, .int .i64 h.u, .int .i64 h.z, .slice A h.got.length c] 62)
 have BV := Lib.hid B0
 go_enter Tryz.func33, Tryz.ntmps33
 go_wp2_with fail
 generalize w.alloc (.cells #[.int .i64 h.f, .int .i64 h.n, .int .i64 h.t, .int .i64 h.u, .int .i64 h.z, .slice A h.got.length c] 62) = V at K0 B0 BV ⊢
 obtain ⟨c0, c1, c2, c3, c4, c5, _⟩ := sixh K0.out
 refine (keeper_any h.f _).mono ?_
 rintro e w0 ⟨rfl, rfl⟩
 cases b0 : inB h.f 0 3 with
 | false =>
  have HF := Lib.hid (okHf_head (h := h) (by unfold hfHead; rw [b0]; simp))
  go_wp2
  go_ret
  exact ⟨nb.ret_bool HF.out.symm, B0⟩
 | true =>
  go_wp2_with fail
  refine (keeper_any h.t _).mono ?_
  rintro e w1 ⟨rfl, rfl⟩
  cases b1 : inB h.t 0 3 with
  | false =>
   have HF := Lib.hid (okHf_head (h := h) (by unfold hfHead; rw [b1]; simp))
   go_wp2
   go_ret
   exact ⟨nb.ret_bool HF.out.symm, B0⟩
  | true =>
   go_wp2_with fail
   refine (in_any h.n 1 99 _).mono ?_
   rintro e w2 ⟨rfl, rfl⟩
   cases b2 : inB h.n 1 99 with
   | false =>
    have HF := Lib.hid (okHf_head (h := h) (by unfold hfHead; rw [b2]; simp))
    go_wp2
    go_ret
    exact ⟨nb.ret_bool HF.out.symm, B0⟩
   | true =>
    go_wp2_with fail
    refine (in_any h.u 1 999 _).mono ?_
    rintro e w3 ⟨rfl, rfl⟩
    cases b3 : inB h.u 1 999 with
    | false =>
     have HF := Lib.hid (okHf_head (h := h) (by unfold hfHead; rw [b3]; simp))
     go_wp2
     go_ret
     exact ⟨nb.ret_bool HF.out.symm, B0⟩
    | true =>
     go_wp2_with fail
     refine (in_any h.z 1 24 _).mono ?_
     rintro e w4 ⟨rfl, rfl⟩
     cases b4 : inB h.z 1 24 with
     | false =>
      have HF := Lib.hid (okHf_head (h := h) (by unfold hfHead; rw [b4]; simp))
      go_wp2
      go_ret
      exact ⟨nb.ret_bool HF.out.symm, B0⟩
     | true =>
      by_cases hlen : 14 < h.got.length
      ·have HF := Lib.hid (okHf_head (h := h) (by unfold hfHead; rw [show inB h.got.length 0 14 = false from inB_f (.inr (by omega))]; simp))
       have hlen' : (14 : Int) < (h.got.length : Int) := by omega
       go_wp2
       go_ret
       exact ⟨nb.ret_bool HF.out.symm, B0⟩
      have hlen' : ¬ (14 : Int) < (h.got.length : Int) := by omega
      have HH := Lib.hid (okHf_rest (h := h) (by unfold hfHead; rw [b0, b1, b2, b3, b4, show inB h.got.length 0 14 = true from inB_t (by omega) (by omega)]; rfl))
      have hz := inB_iff.1 b4
      clear b0 b1 b2 b3 b4
      go_wp2
      go_loopw [3] (fun i wr => ∃ k : Nat, k ≤ h.got.length ∧ i = .int .i64 k ∧ Hid (allI k (mbAt h.got) = true) ∧ Hid (Below V.heap.size V wr)) (fun i _ => (h.got.length + 1 : Nat) - (intOf i).toNat)
      case atStart => exact ⟨0, by omega, rfl, rfl, Below.refl _ _⟩
      case round =>
       obtain ⟨k, hk, rfl, HA, HB⟩ := hrel
       obtain ⟨_, _, _, _, z4, z5, _⟩ := sixh (K0.out.below HB.out K0.out.lt)
       have hvl := K0.out.lt
       by_cases hkl : k < h.got.length
       ·have hx : h.got[k]? = some h.got[k] := List.getElem?_eq_getElem hkl
        obtain ⟨g, c', e, hg, _, t0, t1⟩ := mb_at (HS.out.later (BV.out.trans (HB.out.mono BV.out.size))) hx
        injection e with e1 e2 e3
        subst e1; subst e3
        have HX := Lib.hid hx
        generalize h.got[k] = m at HX t0 t1
        obtain ⟨num, d⟩ := m
        have hk0 : (0 : Int) ≤ (k : Int) := by omega
        have hk1 : (k : Int) < (h.got.length : Int) := by omega
        have HD := Lib.hid ((Below.refl wr.heap.size wr).drew)
        clear hx
        go_wp2_with fail
        go_region_held3 (fun w' => w'.cell? ⟨w.heap.size, 4, none⟩ = some (.int .i64 h.z) ∧ w'.cell? ⟨w.heap.size, 5, none⟩ = some (.slice (some ⟨g, 0, none⟩) h.got.length c) ∧ w'.cell? ⟨g, k * 2, none⟩ = some (.int .i64 num) ∧ w'.cell? ⟨g, k * 2 + 1, none⟩ = some (.string d)) (first | exact ⟨z4, z5, t0, t1⟩ | exact ⟨s0, s1, s2, s3⟩ | go_keep) ((first | (go_at_call 61; refine (sblocks_any h.z hz.1 hz.2 _).mono ?_; rintro e w2 ⟨⟨b, rfl, hb⟩, hw2⟩; subst hw2; have s0 := z4; have s1 := z5; have s2 := t0; have s3 := t1) | (go_at_call 60; refine (smb_any b num d hb _).mono ?_; rintro e w3 ⟨rfl, hB3⟩; have s0 := (hB3.cell (p := ⟨w.heap.size, 4, none⟩) (Nat.lt_of_lt_of_le hvl HB.out.size)).trans z4; have s1 := (hB3.cell (p := ⟨w.heap.size, 5, none⟩) (Nat.lt_of_lt_of_le hvl HB.out.size)).trans z5; have s2 := (hB3.cell (p := ⟨g, k * 2, none⟩) hg).trans t0; have s3 := (hB3.cell (p := ⟨g, k * 2 + 1, none⟩) hg).trans t1)))
        have HB3 := Lib.hid (HB.out.trans (show Below V.heap.size wr w3 from (HD.out.trans (hB3.mono HD.out.size)).mono HB.out.size))
        cases hq : okMb (num, d) with
        | false =>
         have HF := Lib.hid (show okHf h = false from HH.out.trans (allI_bad hkl (mbAt_bad HX.out hq)))
         clear t0 t1 hB3
         go_wp2
         go_ret
         exact ⟨nb.ret_bool HF.out.symm, BV.out.trans (HB3.out.mono BV.out.size)⟩
        | true =>
         clear t0 t1 hB3 s0 s1 s2 s3 z4 z5
         go_wp2
         go_loopw [4] (fun j wr2 => ∃ n : Nat, n ≤ k ∧ j = .int .i64 n ∧ Hid ((h.got.take n).any (fun x => x.1 == num) = false) ∧ Hid (Below V.heap.size V wr2)) (fun j _ => (k + 1 : Nat) - (intOf j).toNat)
         case atStart => exact ⟨0, by omega, rfl, (by show (h.got.take 0).any _ = false; simp), HB3.out⟩
         case round =>
          obtain ⟨n, hn, rfl, HN, HB4⟩ := hrel
          by_cases hnk : n < k
          ·obtain ⟨_, _, _, _, _, z5, _⟩ := sixh (K0.out.below HB4.out K0.out.lt)
           have hy : h.got[n]? = some (h.got[n]'(by omega)) := List.getElem?_eq_getElem (by omega)
           obtain ⟨g', c', e, _, _, t0, _⟩ := mb_at (HS.out.later (BV.out.trans (HB4.out.mono BV.out.size))) HX.out
           injection e with e1 e2 e3
           injection e1 with e1
           injection e1 with e1 _ _
           subst e1; clear e2 e3
           obtain ⟨g', c', e, _, _, r0, _⟩ := mb_at (HS.out.later (BV.out.trans (HB4.out.mono BV.out.size))) hy
           injection e with e1 e2 e3
           injection e1 with e1
           injection e1 with e1 _ _
           subst e1; clear e2 e3
           have HY := Lib.hid hy
           generalize h.got[n]'(by omega) = y at HY r0
           obtain ⟨ynum, yd⟩ := y
           have hn0 : (0 : Int) ≤ (n : Int) := by omega
           have hn1 : (n : Int) < (h.got.length : Int) := by omega
           have hnk' : (n : Int) < (k : Int) := by omega
           have t0' : wr.cell? ⟨g, k * 2, none⟩ = some (.int .i64 num) := t0
           have r0' : wr.cell? ⟨g, n * 2, none⟩ = some (.int .i64 ynum) := r0
           clear hy t0 r0
           by_cases he : ynum = num
           ·have HF := Lib.hid (show okHf h = false from HH.out.trans (allI_bad hkl (mbAt_twice HX.out (any_take_on hnk HY.out (by simp [he])))))
            subst he
            go_wp2
            go_quiet (fail)
            go_wp2
            go_ret
            exact ⟨nb.ret_bool HF.out.symm, BV.out.trans ((ow.below_drewN' HB4.out _).mono BV.out.size)⟩
           ·have he' : (ynum == num) = false := by simpa using he
            have HN2 := Lib.hid (none_on HN.out HY.out he')
            go_wp2
            go_quiet (fail)
            go_wp2
            refine ⟨?_, ?measure⟩
            repeat apply Exists.intro
            refine ⟨?rel, rfl⟩
            case rel => exact ⟨n + 1, by omega, by go_num, HN2.out, ow.below_drewN' HB4.out _⟩
            case measure => simp [intOf]; omega
          ·obtain rfl : n = k := by omega
           have HA2 := Lib.hid (allI_on HA.out (mbAt_ok HX.out hq HN.out))
           go_wp2
           go_roundw
           case rel => exact ⟨n + 1, by omega, by go_num, HA2.out, HB4.out⟩
           case measure => simp [intOf]; omega
       ·obtain rfl : k = h.got.length := by omega
        have HF := Lib.hid (show okHf h = true from HH.out.trans HA.out)
        go_wp2
        go_ret
        exact ⟨nb.ret_bool HF.out.symm, BV.out.trans (HB.out.mono BV.out.size)⟩
end Go.Proofs.YtckicpnnclbkpaaGreatDoor.hf

namespace Go.Proofs.YtckicpnnclbkpaaGreatDoor.hf
open Go.ChangeShapes Go.WideShapes Go.ChangeAt Go.RowKit
open wd ow rl ok kp nb sl dc sh
def OkPost (w : World) (id : Int) (up : Bool) (s : ByteArray) (f : Int) (l : List Hf) (e : Ending) (w' : World) : Prop :=
 ∃ b : Bool, e = .returned (.bool b) ∧ NodeOk id up s f l b ∧ Below w.heap.size w w'
theorem up_of {up : Bool} {l : List Hf} (h : ¬ (up = false ∧ 0 < l.length)) : up = true ∨ l.length = 0 := by
 cases up
 ·exact .inr (by have h0 : ¬ 0 < l.length := fun h0 => h ⟨rfl, h0⟩; omega)
 ·exact .inl rfl
set_option maxRecDepth 100000 in
set_option maxHeartbeats 3200000 in
theorem snode_any (w : World) (id : Int) (up : Bool) (s : ByteArray) (f : Int) (g : Value) (l : List Hf) (hs : s.size ≤ 1048576) (h : SeesH w g l) (hl : FewH l) :
  Calls Tryz.prog 9 #[nodeV id up s f g] w (OkPost w id up s f l) := by
 have HS := Lib.hid h
 obtain ⟨A, c, rfl⟩ := h.form
 have K0 := Lib.hid (Blk.new w 32 (nodeC id up s f (.slice A l.length c)))
 have BV := Lib.hid ((Below.refl w.heap.size w).alloc (Nat.le_refl _) (.cells (nodeC id up s f (.slice A l.length c)) 32))
 clear h
 go_enter Tryz.func9, Tryz.ntmps9
 go_wp2_with fail
 generalize w.alloc (.cells (nodeC id up s f (.slice A l.length c)) 32) = V at K0 BV ⊢
 obtain ⟨c0, c1, c2, c3, c4, _⟩ := five5 K0.out
 refine (keeper_any id _).mono ?_
 rintro e w0 ⟨rfl, rfl⟩
 cases bi : inB id 0 3 with
 | false =>
  have HF := Lib.hid (show NodeOk id up s f l false from .inr ⟨rfl, .inr (.inr ⟨zeroK, .inr ⟨rfl, rfl, .inl bi⟩⟩)⟩)
  go_wp2
  go_ret
  exact ⟨false, rfl, HF.out, BV.out⟩
 | true =>
  go_wp2_with fail
  refine (sok_any s f _ (by omega)).mono ?_
  rintro e w1 ⟨rfl, B1⟩
  have HB1 := Lib.hid (BV.out.trans (B1.mono BV.out.size))
  have K1 := Lib.hid (K0.out.below B1 K0.out.lt)
  clear B1 c0 c1 c2 c3 c4
  obtain ⟨c0, c1, c2, c3, c4, _⟩ := five5 K1.out
  cases bs : okSh s f with
  | false =>
   have HF := Lib.hid (show NodeOk id up s f l false from .inr ⟨rfl, .inl bs⟩)
   go_wp2
   go_ret
   exact ⟨false, rfl, HF.out, HB1.out⟩
  | true =>
   by_cases h3 : 3 < l.length
   ·have HF := Lib.hid (show NodeOk id up s f l false from .inr ⟨rfl, .inr (.inl (hfs_many h3))⟩)
    have h3' : (3 : Int) < (l.length : Int) := by omega
    go_wp2
    go_ret
    exact ⟨false, rfl, HF.out, HB1.out⟩
   ·have h3' : ¬ (3 : Int) < (l.length : Int) := by omega
    by_cases h4 : up = false ∧ 0 < l.length
    ·obtain ⟨rfl, h0⟩ := h4
     have HF := Lib.hid (show NodeOk id false s f l false from .inr ⟨rfl, .inr (.inl (hfs_down h0))⟩)
     have h0' : (0 : Int) < (l.length : Int) := by omega
     go_wp2
     go_ret
     exact ⟨false, rfl, HF.out, HB1.out⟩
    ·have HR := Lib.hid (hfs_rest (up := up) (l := l) (by omega) (up_of h4))
     obtain ⟨m, rfl, hm, hs2, _, _⟩ := ok_nat bs
     cases up with
     | true =>
      obtain ⟨ls, n1, q1, q2, q3, hrd⟩ := sread_ls (s.extract 0 m) (by rw [ByteArray.size_extract]; omega)
      have HRd := Lib.hid hrd
      have HSafe := Lib.hid (fun k4 k b (h4 : Has id s k4 true) (h : OfK id (txs ls) k b) => @has_safe id s m m k4 k b rfl h4 (by unfold Has; rw [← q1]; exact h))
      have HQ3 := Lib.hid q3
      have HH := Lib.hid (fun V => shas_any V id true s m A l.length c (by omega))
      unfold RdP at HRd
      unfold HasPost at HH
      have hm0 : (0 : Int) ≤ (m : Int) := by omega
      have hm1 : (m : Int) ≤ (s.size : Int) := by omega
      clear hrd q1 q3 h4
      go_wp2_with fail
      refine (HRd.out _).mono ?_
      rintro e w2 ⟨v, rfl, hO⟩
      have HB2 := Lib.hid (HB1.out.trans (hO.2.mono HB1.out.size))
      have K2 := Lib.hid (K1.out.below hO.2 K1.out.lt)
      have HS1 := Lib.hid (sees_of_own hO)
      obtain ⟨A1, d1, rfl, _⟩ := HS1.out
      clear hO c0 c1 c2 c3 c4
      obtain ⟨c0, c1, c2, c3, c4, _⟩ := five5 K2.out
      go_wp2_with fail
      refine (keepOf_any _ id _ ls HS1.out q2 HQ3.out).mono ?_
      rintro e w3 ⟨k, b, vh, vm, vi, rfl, hd, _, o⟩
      have HD := Lib.hid hd
      generalize s.extract 0 m = t0
      obtain ⟨A3, s3, rfl⟩ := OwnR.form o.held
      obtain ⟨M3, t3, rfl⟩ := OwnR.form o.marks
      obtain ⟨I3, u3, rfl⟩ := OwnR.form o.inbox
      have BA := o.bel.trans (((Below.refl w3.heap.size w3).alloc (Nat.le_refl _) (.cells #[.int .i64 k.id, .int .i64 k.time, .int .i64 k.next, .slice A3 k.held.length s3, .slice M3 k.marks.length t3, .slice I3 k.inbox.length u3] 39)).mono o.bel.size)
      have HB3 := Lib.hid (HB2.out.trans (BA.mono HB2.out.size))
      have K3' := Lib.hid (K2.out.below BA K2.out.lt)
      have y3 := K2.out.below o.bel K2.out.lt
      clear hd o BA c0 c1 c2 c3 c4
      obtain ⟨c0, c1, c2, c3, c4, _⟩ := five5 y3
      have l3 := y3.lt
      clear y3
      go_upto_region 5 with (fail)
      clear c0 c1 c2 c3 c4 l3
      generalize w3.alloc (.cells #[.int .i64 k.id, .int .i64 k.time, .int .i64 k.next, .slice A3 k.held.length s3, .slice M3 k.marks.length t3, .slice I3 k.inbox.length u3] 39) = V3 at HB3 K3' ⊢
      obtain ⟨c0, c1, c2, c3, c4, _⟩ := five5 K3'.out
      go_wp2_with fail
      refine (HH.out _).mono ?_
      rintro e w4 ⟨k4, b4, vh, vm, vi, rfl, hd, _, o⟩
      have HD4 := Lib.hid hd
      obtain ⟨A4, s4, rfl⟩ := OwnR.form o.held
      obtain ⟨M4, t4, rfl⟩ := OwnR.form o.marks
      obtain ⟨I4, u4, rfl⟩ := OwnR.form o.inbox
      have BA := o.bel.trans (((Below.refl w4.heap.size w4).alloc (Nat.le_refl _) (.cells #[.int .i64 k4.id, .int .i64 k4.time, .int .i64 k4.next, .slice A4 k4.held.length s4, .slice M4 k4.marks.length t4, .slice I4 k4.inbox.length u4] 39)).mono o.bel.size)
      have HB4 := Lib.hid (HB3.out.trans (BA.mono HB3.out.size))
      have BV4 := Lib.hid (show Below V.heap.size V V from Below.refl _ _)
      have K4' := Lib.hid (K3'.out.below BA K3'.out.lt)
      clear hd o BA c0 c1 c2 c3 c4
      go_upto_region 6 with (fail)
      generalize w4.alloc (.cells #[.int .i64 k4.id, .int .i64 k4.time, .int .i64 k4.next, .slice A4 k4.held.length s4, .slice M4 k4.marks.length t4, .slice I4 k4.inbox.length u4] 39) = V4 at HB4 K4' ⊢
      cases b4 with
      | false =>
       have HF := Lib.hid (show NodeOk id true s m l false from .inr ⟨rfl, .inr (.inr ⟨k4, HD4.out⟩)⟩)
       go_wp2
       go_ret
       exact ⟨false, rfl, HF.out, HB4.out⟩
      | true =>
       have hb : b = true := HSafe.out k4 k b HD4.out HD.out
       subst hb
       have HN := Lib.hid (fun (h : okHfs true l = false) => show NodeOk id true s m l false from .inr ⟨rfl, .inr (.inl h)⟩)
       have HY := Lib.hid (fun (h : okHfs true l = true) => show NodeOk id true s m l true from .inl ⟨rfl, bs, h, k4, HD4.out⟩)
       have HLl := Lib.hid hl.2
       clear bs
       go_wp2
       go_loopw [9] (fun i wr => ∃ j : Nat, j ≤ l.length ∧ i = .int .i64 j ∧ Hid (allI j (hfAt l) = true) ∧ Hid (Below V4.heap.size V4 wr)) (fun i _ => (l.length + 1 : Nat) - (intOf i).toNat)
       case atStart => exact ⟨0, by omega, rfl, rfl, Below.refl _ _⟩
       case round =>
        obtain ⟨j, hj, rfl, HA, HB⟩ := hrel
        have KR := Lib.hid (K4'.out.below HB.out K4'.out.lt)
        have HBw := Lib.hid (HB4.out.trans (HB.out.mono HB4.out.size))
        obtain ⟨_, _, _, _, c4, _⟩ := five5 KR.out
        by_cases hjl : j < l.length
        ·have hx : l[j]? = some l[j] := List.getElem?_eq_getElem hjl
         obtain ⟨g, c', A', c2, e, hg, _, t0, t1, t2, t3, t4, t5, hsm⟩ := (HS.out.later HBw.out).at hx
         injection e with e1 e2 e3
         subst e1; clear e2; subst e3
         have HX := Lib.hid hx
         have hgl := HLl.out l[j] (List.getElem_mem hjl)
         generalize l[j] = y at HX t0 t1 t2 t3 t4 t5 hsm hgl
         have hj0 : (0 : Int) ≤ (j : Int) := by omega
         have hj1 : (j : Int) < (l.length : Int) := by omega
         have HC := Lib.hid (shf_any wr y _ hsm hgl)
         unfold BoolK at HC
         clear hx hsm hgl
         go_wp2_with fail
         refine HC.out.mono ?_
         rintro e w5 ⟨rfl, B5⟩
         have HB5 := Lib.hid (HB.out.trans (B5.mono HB.out.size))
         clear B5 t0 t1 t2 t3 t4 t5 c4
         cases hq : okHf y with
         | false =>
          have HF := Lib.hid (HN.out (HR.out.trans (allI_bad hjl (hfAt_bad HX.out hq))))
          go_wp2
          go_ret
          exact ⟨false, rfl, HF.out, HB4.out.trans (HB5.out.mono HB4.out.size)⟩
         | true =>
          go_wp2
          go_loopw [10] (fun p wr2 => ∃ n : Nat, n ≤ j ∧ p = .int .i64 n ∧ Hid ((l.take n).any (sameHf y.f y.n) = false) ∧ Hid (Below V4.heap.size V4 wr2)) (fun p _ => (j + 1 : Nat) - (intOf p).toNat)
          case atStart => exact ⟨0, by omega, rfl, (by show (l.take 0).any _ = false; simp), HB5.out⟩
          case round =>
           obtain ⟨n, hn, rfl, HN1, HB6⟩ := hrel
           by_cases hnj : n < j
           ·obtain ⟨_, _, _, _, c4, _⟩ := five5 (K4'.out.below HB6.out K4'.out.lt)
            have hy : l[n]? = some (l[n]'(by omega)) := List.getElem?_eq_getElem (by omega)
            obtain ⟨g', c', A5, c5, e, hg5, _, t0, t1, _⟩ := (HS.out.later (HB4.out.trans (HB6.out.mono HB4.out.size))).at HX.out
            injection e with e1 e2 e3
            injection e1 with e1
            injection e1 with e1 _ _
            subst e1; clear e2 e3
            obtain ⟨g', c', A6, c6, e, _, _, r0, r1, _⟩ := (HS.out.later (HB4.out.trans (HB6.out.mono HB4.out.size))).at hy
            injection e with e1 e2 e3
            injection e1 with e1
            injection e1 with e1 _ _
            subst e1; clear e2 e3
            have HZ := Lib.hid hy
            generalize l[n]'(by omega) = z at HZ r0 r1
            have hn0 : (0 : Int) ≤ (n : Int) := by omega
            have hn1 : (n : Int) < (l.length : Int) := by omega
            have hnj' : (n : Int) < (j : Int) := by omega
            clear hy
            have t0' : wr.cell? ⟨g, j * 6, none⟩ = some (.int .i64 y.f) := t0
            have t1' : wr.cell? ⟨g, j * 6 + 1, none⟩ = some (.int .i64 y.n) := t1
            have r0' : wr.cell? ⟨g, n * 6, none⟩ = some (.int .i64 z.f) := r0
            have r1' : wr.cell? ⟨g, n * 6 + 1, none⟩ = some (.int .i64 z.n) := r1
            clear t0 t1 r0 r1
            by_cases hf : z.f = y.f
            ·by_cases hn2 : z.n = y.n
             ·have HF := Lib.hid (HN.out (HR.out.trans (allI_bad hjl (hfAt_twice HX.out (any_take_on hnj HZ.out (by simp [sameHf, hf, hn2]))))))
              rw [hf] at r0'
              rw [hn2] at r1'
              clear hf hn2
              go_wp2
              go_quiet (fail)
              go_wp2
              go_ret
              exact ⟨false, rfl, HF.out, HB4.out.trans ((ow.below_drewN' HB6.out _).mono HB4.out.size)⟩
             ·have HN2 := Lib.hid (none_on HN1.out HZ.out (show sameHf y.f y.n z = false by simp [sameHf, hn2]))
              rw [hf] at r0'
              clear hf
              go_wp2
              go_quiet (fail)
              go_wp2
              exact ⟨⟨n + 1, by omega, by go_num, HN2.out, ow.below_drewN' HB6.out _⟩, by simp [intOf]; omega⟩
            ·have HN2 := Lib.hid (none_on HN1.out HZ.out (show sameHf y.f y.n z = false by simp [sameHf, hf]))
             go_wp2
             go_quiet (fail)
             go_wp2
             exact ⟨⟨n + 1, by omega, by go_num, HN2.out, ow.below_drewN' HB6.out _⟩, by simp [intOf]; omega⟩
           ·obtain rfl : n = j := by omega
            have HA2 := Lib.hid (allI_on HA.out (hfAt_ok HX.out hq HN1.out))
            go_wp2
            go_roundw
            case rel => exact ⟨n + 1, by omega, by go_num, HA2.out, HB6.out⟩
            case measure => simp [intOf]; omega
        ·obtain rfl : j = l.length := by omega
         have HF := Lib.hid (HY.out (HR.out.trans HA.out))
         go_wp2
         go_ret
         exact ⟨true, rfl, HF.out, HBw.out⟩
     | false =>
      have h02 : ¬ 0 < l.length := fun h0 => h4 ⟨rfl, h0⟩
      have h01 : ¬ (0 : Int) < (l.length : Int) := by omega
      obtain ⟨ls, n1, q1, q2, q3, hrd⟩ := sread_ls (s.extract 0 m) (by rw [ByteArray.size_extract]; omega)
      have HRd := Lib.hid hrd
      have HSafe := Lib.hid (fun k4 k b (h4 : Has id s k4 true) (h : OfK id (txs ls) k b) => @has_safe id s m m k4 k b rfl h4 (by unfold Has; rw [← q1]; exact h))
      have HQ3 := Lib.hid q3
      have HH := Lib.hid (fun V => shas_any V id false s m A l.length c (by omega))
      unfold RdP at HRd
      unfold HasPost at HH
      have hm0 : (0 : Int) ≤ (m : Int) := by omega
      have hm1 : (m : Int) ≤ (s.size : Int) := by omega
      clear hrd q1 q3 h4
      go_wp2_with fail
      refine (HRd.out _).mono ?_
      rintro e w2 ⟨v, rfl, hO⟩
      have HB2 := Lib.hid (HB1.out.trans (hO.2.mono HB1.out.size))
      have K2 := Lib.hid (K1.out.below hO.2 K1.out.lt)
      have HS1 := Lib.hid (sees_of_own hO)
      obtain ⟨A1, d1, rfl, _⟩ := HS1.out
      clear hO c0 c1 c2 c3 c4
      obtain ⟨c0, c1, c2, c3, c4, _⟩ := five5 K2.out
      go_wp2_with fail
      refine (keepOf_any _ id _ ls HS1.out q2 HQ3.out).mono ?_
      rintro e w3 ⟨k, b, vh, vm, vi, rfl, hd, _, o⟩
      have HD := Lib.hid hd
      generalize s.extract 0 m = t0
      obtain ⟨A3, s3, rfl⟩ := OwnR.form o.held
      obtain ⟨M3, t3, rfl⟩ := OwnR.form o.marks
      obtain ⟨I3, u3, rfl⟩ := OwnR.form o.inbox
      have BA := o.bel.trans (((Below.refl w3.heap.size w3).alloc (Nat.le_refl _) (.cells #[.int .i64 k.id, .int .i64 k.time, .int .i64 k.next, .slice A3 k.held.length s3, .slice M3 k.marks.length t3, .slice I3 k.inbox.length u3] 39)).mono o.bel.size)
      have HB3 := Lib.hid (HB2.out.trans (BA.mono HB2.out.size))
      have K3' := Lib.hid (K2.out.below BA K2.out.lt)
      have y3 := K2.out.below o.bel K2.out.lt
      clear hd o BA c0 c1 c2 c3 c4
      obtain ⟨c0, c1, c2, c3, c4, _⟩ := five5 y3
      have l3 := y3.lt
      clear y3
      go_upto_region 5 with (fail)
      clear c0 c1 c2 c3 c4 l3
      generalize w3.alloc (.cells #[.int .i64 k.id, .int .i64 k.time, .int .i64 k.next, .slice A3 k.held.length s3, .slice M3 k.marks.length t3, .slice I3 k.inbox.length u3] 39) = V3 at HB3 K3' ⊢
      obtain ⟨c0, c1, c2, c3, c4, _⟩ := five5 K3'.out
      go_wp2_with fail
      refine (HH.out _).mono ?_
      rintro e w4 ⟨k4, b4, vh, vm, vi, rfl, hd, _, o⟩
      have HD4 := Lib.hid hd
      obtain ⟨A4, s4, rfl⟩ := OwnR.form o.held
      obtain ⟨M4, t4, rfl⟩ := OwnR.form o.marks
      obtain ⟨I4, u4, rfl⟩ := OwnR.form o.inbox
      have BA := o.bel.trans (((Below.refl w4.heap.size w4).alloc (Nat.le_refl _) (.cells #[.int .i64 k4.id, .int .i64 k4.time, .int .i64 k4.next, .slice A4 k4.held.length s4, .slice M4 k4.marks.length t4, .slice I4 k4.inbox.length u4] 39)).mono o.bel.size)
      have HB4 := Lib.hid (HB3.out.trans (BA.mono HB3.out.size))
      have BV4 := Lib.hid (show Below V.heap.size V V from Below.refl _ _)
      have K4' := Lib.hid (K3'.out.below BA K3'.out.lt)
      clear hd o BA c0 c1 c2 c3 c4
      go_upto_region 6 with (fail)
      generalize w4.alloc (.cells #[.int .i64 k4.id, .int .i64 k4.time, .int .i64 k4.next, .slice A4 k4.held.length s4, .slice M4 k4.marks.length t4, .slice I4 k4.inbox.length u4] 39) = V4 at HB4 K4' ⊢
      cases b4 with
      | false =>
       have HF := Lib.hid (show NodeOk id false s m l false from .inr ⟨rfl, .inr (.inr ⟨k4, HD4.out⟩)⟩)
       go_wp2
       go_ret
       exact ⟨false, rfl, HF.out, HB4.out⟩
      | true =>
       have hb : b = true := HSafe.out k4 k b HD4.out HD.out
       subst hb
       have HN := Lib.hid (fun (h : okHfs false l = false) => show NodeOk id false s m l false from .inr ⟨rfl, .inr (.inl h)⟩)
       have HY := Lib.hid (fun (h : okHfs false l = true) => show NodeOk id false s m l true from .inl ⟨rfl, bs, h, k4, HD4.out⟩)
       have HLl := Lib.hid hl.2
       clear bs
       go_wp2
       go_loopw [9] (fun i wr => ∃ j : Nat, j ≤ l.length ∧ i = .int .i64 j ∧ Hid (allI j (hfAt l) = true) ∧ Hid (Below V4.heap.size V4 wr)) (fun i _ => (l.length + 1 : Nat) - (intOf i).toNat)
       case atStart => exact ⟨0, by omega, rfl, rfl, Below.refl _ _⟩
       case round =>
        obtain ⟨j, hj, rfl, HA, HB⟩ := hrel
        have KR := Lib.hid (K4'.out.below HB.out K4'.out.lt)
        have HBw := Lib.hid (HB4.out.trans (HB.out.mono HB4.out.size))
        obtain ⟨_, _, _, _, c4, _⟩ := five5 KR.out
        by_cases hjl : j < l.length
        ·exact absurd hjl (by omega)
        ·obtain rfl : j = l.length := by omega
         have HF := Lib.hid (HY.out (HR.out.trans HA.out))
         go_wp2
         go_ret
         exact ⟨true, rfl, HF.out, HBw.out⟩
end Go.Proofs.YtckicpnnclbkpaaGreatDoor.hf

