/-
  Merged texts: HfImpl4, IOpen, NForce.
-/
import Derived.Test.YtckicpnnclbkpaaGreatDoorE40
namespace Go.Proofs.YtckicpnnclbkpaaGreatDoor.hf
open Go.ChangeShapes Go.WideShapes Go.ChangeAt Go.RowKit
open wd ow rl ok kp nb
def FitsH (w : World) (v : Value) (l : List Hf) : Prop :=
 (∀ A n c, v = .slice A n c → n ≤ c) ∧ ∀ (i : Nat) (h : Hf) (g c : Nat) (A : Option Addr) (c2 : Nat), l[i]? = some h → v = .slice (some ⟨g, 0, none⟩) l.length c → w.cell? ⟨g, i * 6 + 5, none⟩ = some (.slice A h.got.length c2) → h.got.length ≤ c2
theorem FitsH.later {w w' : World} {v : Value} {l : List Hf} (h : FitsH w v l) (hs : SeesH w v l) (hB : Below w.heap.size w w') : FitsH w' v l :=
 ⟨h.1, fun i x g c A c2 hx hv hc => by
  obtain ⟨g', c', _, _, e, hg, _⟩ := hs.at hx
  rw [hv] at e
  injection e with e1 _ _
  injection e1 with e1
  injection e1 with e1 _ _
  subst e1
  exact h.2 i x g c A c2 hx hv ((hB.cell (p := ⟨g, i * 6 + 5, none⟩) hg).symm.trans hc)⟩
theorem own_room {α : Type} {S : Shape α} {t : TypeId} {B : Nat} {w : World} {A : Option Addr} {n c : Nat} {l : List α} (h : OwnAt S t B w (.slice A n c) l) : n ≤ c := by
 rcases h.2 with ⟨e, h0⟩ | ⟨g, cap, cur, e, hb, hh, hn, hm, hs, ht⟩
 ·injection e with _ e2 _
  omega
 ·injection e with _ e2 e3
  omega
theorem OwnHs.fits {w0 w : World} {v : Value} {lr : List Hr} {l : List Hf} (h : OwnHs w0 w v lr l) : FitsH w v l := by
 refine ⟨fun A n c e => ?_, fun i x g c A c2 hx hv hc => ?_⟩
 ·subst e; exact own_room h.row.1
 ·have hi := (List.getElem?_eq_some_iff.1 hx).1
  have hr : lr[i]? = some (lr[i]'(by rw [h.len]; exact hi)) := List.getElem?_eq_getElem _
  obtain ⟨g', c', e, _, _, hcell⟩ := h.row.sees.at hr
  rw [hv] at e
  injection e with e1 _ _
  injection e1 with e1
  injection e1 with e1 _ _
  subst e1
  have h5 := hcell 5 _ rfl
  rw [show i * hrS.n + 5 = i * 6 + 5 from rfl, hc] at h5
  injection h5 with h5
  have ho := (h.got i _ x hr hx).2
  rw [show (lr[i]'(by rw [h.len]; exact hi)).v = .slice A x.got.length c2 from h5.symm] at ho
  exact own_room ho
set_option maxRecDepth 100000 in
set_option maxHeartbeats 6400000 in
theorem aho_h (w : World) (id : Int) (up : Bool) (s : ByteArray) (f : Int) (g : Value) (l : List Hf) (h : SeesH w g l) (hl : FewH l) (hft : FitsH w g l) :
  Calls Tryz.prog 64 #[nodeV id up s f g] w (BoolK w (okHfs up l)) := by
 have HS := Lib.hid h
 have HFt := Lib.hid hft
 have HLl := Lib.hid hl.2
 obtain ⟨A, c, rfl⟩ := h.form
 have hlc := hft.1 _ _ _ rfl
 have K0 := Lib.hid (Blk.new w 32 (nodeC id up s f (.slice A l.length c)))
 have BV := Lib.hid ((Below.refl w.heap.size w).alloc (Nat.le_refl _) (.cells (nodeC id up s f (.slice A l.length c)) 32))
 clear h hft
 by_cases h3 : 3 < l.length
 ·have HF := Lib.hid (hfs_many (up := up) h3)
  have h3' : (3 : Int) < (l.length : Int) := by omega
  go_enter Tryz.func64, Tryz.ntmps64
  go_wp2
  go_ret
  exact ⟨nb.ret_bool HF.out.symm, BV.out⟩
 have h3' : ¬ (3 : Int) < (l.length : Int) := by omega
 by_cases h4 : up = false ∧ 0 < l.length
 ·obtain ⟨rfl, h0⟩ := h4
  have HF := Lib.hid (hfs_down h0)
  have h0' : (0 : Int) < (l.length : Int) := by omega
  go_enter Tryz.func64, Tryz.ntmps64
  go_wp2
  go_ret
  exact ⟨nb.ret_bool HF.out.symm, BV.out⟩
 have HR := Lib.hid (hfs_rest (up := up) (l := l) (by omega) (by cases up with | true => exact .inl rfl | false => exact .inr (by have h0 : ¬ 0 < l.length := fun h0 => h4 ⟨rfl, h0⟩; omega)))
 cases up with
 | true =>
  by_cases h0 : 0 < l.length
  ·have h0' : (0 : Int) < (l.length : Int) := by omega
   clear h4
   go_enter Tryz.func64, Tryz.ntmps64
   go_upto_region 3 with (fail)
   generalize w.alloc (.cells (nodeC id true s f (.slice A l.length c)) 32) = V at K0 BV ⊢
   obtain ⟨n0, n1, n2, n3, n4, _⟩ := five5 K0.out
   go_wp2
   go_loopw [23] (fun i wr => ∃ k : Nat, k ≤ l.length ∧ i = .int .i64 k ∧ Hid (allI k (hfAt l) = true) ∧ Hid (Below V.heap.size V wr)) (fun i _ => (l.length + 1 : Nat) - (intOf i).toNat)
   case atStart => exact ⟨0, by omega, rfl, rfl, Below.refl _ _⟩
   case round =>
    obtain ⟨k, hk, rfl, HA, HB⟩ := hrel
    have HBw := Lib.hid (BV.out.trans (HB.out.mono BV.out.size))
    by_cases hkl : k < l.length
    ·have hx : l[k]? = some l[k] := List.getElem?_eq_getElem hkl
     obtain ⟨g, c', A', c2, e, hg, _, t0, t1, t2, t3, t4, t5, hsm⟩ := (HS.out.later HBw.out).at hx
     injection e with e1 e2 e3
     subst e1; clear e2; subst e3
     have hfit := (HFt.out.later HS.out HBw.out).2 k _ g c A' c2 hx rfl t5
     have HX := Lib.hid hx
     have hgl := HLl.out l[k] (List.getElem_mem hkl)
     generalize l[k] = y at HX t0 t1 t2 t3 t4 t5 hsm hgl hfit
     have hk0 : (0 : Int) ≤ (k : Int) := by omega
     have hk1 : (k : Int) < (l.length : Int) := by omega
     have hkc : k ≤ c := by omega
     have hA1 := (Below.refl wr.heap.size wr).alloc (Nat.le_refl _) (.cells #[.int .i64 y.f, .int .i64 y.n, .int .i64 y.t, .int .i64 y.u, .int .i64 y.z, .slice A' y.got.length c2] 62)
     have KY := Lib.hid (Blk.new wr 62 #[.int .i64 y.f, .int .i64 y.n, .int .i64 y.t, .int .i64 y.u, .int .i64 y.z, .slice A' y.got.length c2])
     have KN := Lib.hid ((K0.out.below HB.out K0.out.lt).below hA1 (K0.out.below HB.out K0.out.lt).lt)
     have HB1 := Lib.hid (HB.out.trans (hA1.mono HB.out.size))
     have HG := Lib.hid (hsm.later hA1)
     clear hx hsm hA1
     go_upto_region 6 with (fail)
     generalize hV : wr.alloc (.cells #[.int .i64 y.f, .int .i64 y.n, .int .i64 y.t, .int .i64 y.u, .int .i64 y.z, .slice A' y.got.length c2] 62) = W1 at KY KN HB1 HG ⊢
     generalize wr.heap.size = r at KY ⊢
     clear hV t0 t1 t2 t3 t4 t5
     have h0 := (Below.refl W1.heap.size W1).drew
     refine wp_region_held_drew (S := (fun w' : World => Blk w' r 62 #[.int .i64 y.f, .int .i64 y.n, .int .i64 y.t, .int .i64 y.u, .int .i64 y.z, .slice A' y.got.length c2] ∧ Blk w' w.heap.size 32 #[.int .i64 id, .bool true, .string s, .int .i64 f, .slice (some ⟨g, 0, none⟩) l.length c])) (by kernel_rfl) ⟨KY.out.below h0 KY.out.lt, KN.out.below h0 KN.out.lt⟩ (fun hHeld => ?_)
     clear hHeld
     have HBd := Lib.hid (HB1.out.trans (h0.mono HB1.out.size))
     have HGd := Lib.hid (HG.out.later h0)
     have KYd := Lib.hid (KY.out.below h0 KY.out.lt)
     have KNd := Lib.hid (KN.out.below h0 KN.out.lt)
     clear h0 KY KN HG HB1
     generalize W1.drew = Z at HBd HGd KYd KNd ⊢
     have hKd := And.intro KYd.out KNd.out
     refine wpAnyH_ready (rs := [0]) (by kernel_rfl) (by simp) ?_
     refine AllReadyH.cons rfl (fun K hK => ?_) AllReadyH.nil
     go_simp
     refine (irange_h _ r y A' c2 KYd.out HGd.out hgl hfit).mono ?_
     rintro e u1 ⟨rfl, hB2⟩
     have KY1 := Lib.hid (KYd.out.below hB2 KYd.out.lt)
     have KN1 := Lib.hid (KNd.out.below hB2 KNd.out.lt)
     have HB2 := Lib.hid (HBd.out.trans (hB2.mono HBd.out.size))
     clear hB2 hKd
     have hKd := And.intro KY1.out KN1.out
     refine hK.out _ _ hKd (fun hHeld => ?_)
     clear hK K hHeld
     cases hq : okHf y with
     | false =>
      have HF := Lib.hid (show okHfs true l = false from HR.out.trans (allI_bad hkl (hfAt_bad HX.out hq)))
      refine rs.w 1 29 ?_ rfl ?_ ?_
      rotate_left 1
      ·(intro w' hSw; obtain ⟨k0, k1, k2, k3, k4, k5, _⟩ := sixh hSw.1; obtain ⟨m0, m1, m2, m3, m4, _⟩ := five5 hSw.2; go_simp; try with_reducible rfl)
      simp only [rs.a, rs.b, rs.c]
      refine rs.w 2 30 ?_ rfl ?_ ?_
      rotate_left 1
      ·(intro w' hSw; obtain ⟨k0, k1, k2, k3, k4, k5, _⟩ := sixh hSw.1; obtain ⟨m0, m1, m2, m3, m4, _⟩ := five5 hSw.2; go_simp; try with_reducible rfl)
      simp only [rs.a, rs.b, rs.c]
      refine rs.skip_take (i := 3) 31 rfl (by kernel_rfl) (by kernel_rfl) (by kernel_rfl) (fun _ _ _ _ h => h) rfl (by assumption) ?_
      simp only [rs.a, rs.b, rs.c]
      refine rs.skip_take (i := 4) 32 rfl (by kernel_rfl) (by kernel_rfl) (by kernel_rfl) (fun _ _ _ _ h => h) rfl (by assumption) ?_
      simp only [rs.a, rs.b, rs.c]
      refine rs.skip_take (i := 5) 33 rfl (by kernel_rfl) (by kernel_rfl) (by kernel_rfl) (fun _ _ _ _ h => h) rfl (by assumption) ?_
      simp only [rs.a, rs.b, rs.c]
      refine rs.skip_take (i := 6) 34 rfl (by kernel_rfl) (by kernel_rfl) (by kernel_rfl) (fun _ _ _ _ h => h) rfl (by assumption) ?_
      simp only [rs.a, rs.b, rs.c]
      refine rs.skip_take (i := 7) 35 rfl (by kernel_rfl) (by kernel_rfl) (by kernel_rfl) (fun _ _ _ _ h => h) rfl (by assumption) ?_
      simp only [rs.a, rs.b, rs.c]
      refine rs.skip_take (i := 8) 36 rfl (by kernel_rfl) (by kernel_rfl) (by kernel_rfl) (fun _ _ _ _ h => h) rfl (by assumption) ?_
      simp only [rs.a, rs.b, rs.c]
      refine rs.skip_take (i := 9) 37 rfl (by kernel_rfl) (by kernel_rfl) (by kernel_rfl) (fun _ _ _ _ h => h) rfl (by assumption) ?_
      simp only [rs.a, rs.b, rs.c]
      refine rs.w 10 38 ?_ rfl ?_ ?_
      rotate_left 1
      ·(intro w' hSw; obtain ⟨k0, k1, k2, k3, k4, k5, _⟩ := sixh hSw.1; obtain ⟨m0, m1, m2, m3, m4, _⟩ := five5 hSw.2; go_simp; try with_reducible rfl)
      simp only [rs.a, rs.b, rs.c]
      refine wpAnyH_done (by kernel_rfl) ?_ _
      clear hKd
      go_wp2
      go_ret
      exact ⟨nb.ret_bool HF.out.symm, BV.out.trans (HB2.out.mono BV.out.size)⟩
     | true =>
      refine rs.w 1 29 ?_ rfl ?_ ?_
      rotate_left 1
      ·(intro w' hSw; obtain ⟨k0, k1, k2, k3, k4, k5, _⟩ := sixh hSw.1; obtain ⟨m0, m1, m2, m3, m4, _⟩ := five5 hSw.2; go_simp; try with_reducible rfl)
      simp only [rs.a, rs.b, rs.c]
      refine rs.w 2 30 ?_ rfl ?_ ?_
      rotate_left 1
      ·(intro w' hSw; obtain ⟨k0, k1, k2, k3, k4, k5, _⟩ := sixh hSw.1; obtain ⟨m0, m1, m2, m3, m4, _⟩ := five5 hSw.2; go_simp; try with_reducible rfl)
      simp only [rs.a, rs.b, rs.c]
      refine rs.w 3 31 ?_ rfl ?_ ?_
      rotate_left 1
      ·(intro w' hSw; obtain ⟨k0, k1, k2, k3, k4, k5, _⟩ := sixh hSw.1; obtain ⟨m0, m1, m2, m3, m4, _⟩ := five5 hSw.2; go_simp; try with_reducible rfl)
      simp only [rs.a, rs.b, rs.c]
      refine rs.w 4 32 ?_ rfl ?_ ?_
      rotate_left 1
      ·(intro w' hSw; obtain ⟨k0, k1, k2, k3, k4, k5, _⟩ := sixh hSw.1; obtain ⟨m0, m1, m2, m3, m4, _⟩ := five5 hSw.2; go_simp; try with_reducible rfl)
      simp only [rs.a, rs.b, rs.c]
      refine rs.w 5 33 ?_ rfl ?_ ?_
      rotate_left 1
      ·(intro w' hSw; obtain ⟨k0, k1, k2, k3, k4, k5, _⟩ := sixh hSw.1; obtain ⟨m0, m1, m2, m3, m4, _⟩ := five5 hSw.2; go_simp; try with_reducible rfl)
      simp only [rs.a, rs.b, rs.c]
      refine rs.w 6 34 ?_ rfl ?_ ?_
      rotate_left 1
      ·(intro w' hSw; obtain ⟨k0, k1, k2, k3, k4, k5, _⟩ := sixh hSw.1; obtain ⟨m0, m1, m2, m3, m4, _⟩ := five5 hSw.2; go_simp; try with_reducible rfl)
      simp only [rs.a, rs.b, rs.c]
      refine rs.w 7 35 ?_ rfl ?_ ?_
      rotate_left 1
      ·(intro w' hSw; obtain ⟨k0, k1, k2, k3, k4, k5, _⟩ := sixh hSw.1; obtain ⟨m0, m1, m2, m3, m4, _⟩ := five5 hSw.2; go_simp; try with_reducible rfl)
      simp only [rs.a, rs.b, rs.c]
      refine wpAnyH_ready (rs := [8]) (by kernel_rfl) (by simp) ?_
      refine AllReadyH.cons rfl (fun K hK => ?_) AllReadyH.nil
      go_simp
      refine (hmark_any y A' _ c2 _).mono ?_
      rintro e u2' ⟨rfl, hB3⟩
      have KY2 := Lib.hid (KY1.out.below hB3 KY1.out.lt)
      have KN2 := Lib.hid (KN1.out.below hB3 KN1.out.lt)
      have HB3 := Lib.hid (HB2.out.trans (hB3.mono HB2.out.size))
      clear hB3 hKd
      have hKd := And.intro KY2.out KN2.out
      refine hK.out _ _ hKd (fun hHeld => ?_)
      clear hK K hHeld
      refine wpAnyH_ready (rs := [9]) (by kernel_rfl) (by simp) ?_
      refine AllReadyH.cons rfl (fun K hK => ?_) AllReadyH.nil
      go_simp
      refine (hasH_any _ _ (l.take k) (seesH_first (HS.out.later (BV.out.trans (HB3.out.mono BV.out.size))) hk) (by rw [List.length_take]; omega) y.f y.n y.u).mono ?_
      rintro e u3' ⟨rfl, hB4⟩
      have KY3 := Lib.hid (KY2.out.below hB4 KY2.out.lt)
      have KN3 := Lib.hid (KN2.out.below hB4 KN2.out.lt)
      have HB4 := Lib.hid (HB3.out.trans (hB4.mono HB3.out.size))
      clear hB4 hKd
      have hKd := And.intro KY3.out KN3.out
      refine hK.out _ _ hKd (fun hHeld => ?_)
      clear hK K hHeld
      cases ha : (l.take k).any (sameHf y.f y.n) with
      | true =>
       have HF := Lib.hid (show okHfs true l = false from HR.out.trans (allI_bad hkl (hfAt_twice HX.out ha)))
       refine rs.w 10 38 ?_ rfl ?_ ?_
       rotate_left 1
       ·(intro w' hSw; obtain ⟨k0, k1, k2, k3, k4, k5, _⟩ := sixh hSw.1; obtain ⟨m0, m1, m2, m3, m4, _⟩ := five5 hSw.2; go_simp; try with_reducible rfl)
       simp only [rs.a, rs.b, rs.c]
       refine wpAnyH_done (by kernel_rfl) ?_ _
       clear hKd
       go_wp2
       go_ret
       exact ⟨nb.ret_bool HF.out.symm, BV.out.trans (HB4.out.mono BV.out.size)⟩
      | false =>
       have HA2 := Lib.hid (allI_on HA.out (hfAt_ok HX.out hq ha))
       refine rs.w 10 38 ?_ rfl ?_ ?_
       rotate_left 1
       ·(intro w' hSw; obtain ⟨k0, k1, k2, k3, k4, k5, _⟩ := sixh hSw.1; obtain ⟨m0, m1, m2, m3, m4, _⟩ := five5 hSw.2; go_simp; try with_reducible rfl)
       simp only [rs.a, rs.b, rs.c]
       refine wpAnyH_done (by kernel_rfl) ?_ _
       clear hKd
       go_wp2
       go_roundw
       case rel => exact ⟨k + 1, by omega, by go_num, HA2.out, HB4.out⟩
       case measure => simp [intOf]; omega
    ·obtain rfl : k = l.length := by omega
     have HF := Lib.hid (show okHfs true l = true from HR.out.trans HA.out)
     go_wp2
     go_ret
     exact ⟨nb.ret_bool HF.out.symm, HBw.out⟩
  ·have h0' : ¬ (0 : Int) < (l.length : Int) := by omega
   have HF := Lib.hid (show okHfs true l = true by rw [HR.out, show l.length = 0 by omega]; rfl)
   clear h4
   go_enter Tryz.func64, Tryz.ntmps64
   go_wp2
   go_loopw [23] (fun i wr => i = .int .i64 0 ∧ Below w.heap.size w wr) (fun _ _ => 0)
   case atStart => exact ⟨rfl, BV.out⟩
   case round =>
    obtain ⟨rfl, hBr⟩ := hrel
    go_wp2
    go_ret
    exact ⟨nb.ret_bool HF.out.symm, hBr⟩
 | false =>
  have h0 : ¬ 0 < l.length := fun h0 => h4 ⟨rfl, h0⟩
  have h0' : ¬ (0 : Int) < (l.length : Int) := by omega
  have HF := Lib.hid (show okHfs false l = true by rw [HR.out, show l.length = 0 by omega]; rfl)
  clear h4
  go_enter Tryz.func64, Tryz.ntmps64
  go_wp2
  go_loopw [23] (fun i wr => i = .int .i64 0 ∧ Below w.heap.size w wr) (fun _ _ => 0)
  case atStart => exact ⟨rfl, BV.out⟩
  case round =>
   obtain ⟨rfl, hBr⟩ := hrel
   go_wp2
   go_ret
   exact ⟨nb.ret_bool HF.out.symm, hBr⟩
end Go.Proofs.YtckicpnnclbkpaaGreatDoor.hf

namespace Go.Proofs.YtckicpnnclbkpaaGreatDoor.hf
open Go.ChangeShapes Go.WideShapes Go.ChangeAt Go.RowKit
open wd ow rl ok kp nb sl dc
theorem iread_ls (s : ByteArray) (hs : s.size ≤ 1048576) : ∃ (ls : List ByteArray) (n : Int), txs ls = recsL s ∧ ls.length ≤ 1048576 ∧ (∀ x ∈ ls, x.size ≤ 1048576) ∧ ∀ V, sh.Env V → Calls Tryz.prog 65 #[.string s] V (RdP V n ls) := by
 refine ⟨recsS s, (sh.en s.data.toList : Nat), recs_txs s, recs_few hs, recs_small, fun V hV => ?_⟩
 have h := sh.iread_any s (by omega) V hV.tab hV.errs hV.errT
 unfold sh.ReadPost at h
 rw [sh.recV_str] at h
 exact h
def LogP (w : World) (e : Ending) (w' : World) : Prop := ∃ g : Nat, e = .returned (.func (.func 97) #[] #[.pointer (some ⟨g, 0, none⟩)]) ∧ Below w.heap.size w w'
theorem logger_h (nb : Nat) (w : World) : Calls Tryz.prog 69 #[.pointer (some ⟨nb, 0, none⟩)] w (LogP w) := by
 have hmf := mkfn
 go_enter Tryz.func69, Tryz.ntmps69
 go_wp2
 go_ret
 exact ⟨w.heap.size, rfl, (Below.refl _ _).alloc (Nat.le_refl _) _⟩
theorem RingAt.later {W W' : World} {nb k : Nat} {hd : List Value} {lr : List Hr} (h : RingAt W nb k hd lr) (hB : Below W.heap.size W W') : RingAt W' nb k hd lr := by
 obtain ⟨cs, h1, h2⟩ := h
 exact ⟨cs, h1.below hB h1.lt, h2⟩
theorem RingAt.lt {W : World} {nb k : Nat} {hd : List Value} {lr : List Hr} (h : RingAt W nb k hd lr) : nb < W.heap.size := by obtain ⟨cs, h1, _⟩ := h; exact h1.lt
theorem gtrans {a b c : World} {r : Option Nat} (h1 : a.grownBy b r) (h2 : b.grownBy c r) : a.grownBy c r :=
 ⟨h2.os.trans h1.os, h2.tape.trans h1.tape, h2.output.trans h1.output, Nat.le_trans h1.size h2.size, fun i hi hn => (h2.block i (Nat.lt_of_lt_of_le hi h1.size) hn).trans (h1.block i hi hn)⟩
theorem gbelow {B nb : Nat} {w w' : World} (h : w.grownBy w' (some nb)) (hb : B ≤ nb) (hw : B ≤ w.heap.size) : Below B w w' :=
 ⟨h.os, h.tape, h.output, h.size, fun i hi => h.block i (Nat.lt_of_lt_of_le hi hw) (fun e => by have e2 : i = nb := (by injection e); omega)⟩
theorem own_kept {α : Type} {S : Shape α} {t : TypeId} {B nb : Nat} {w w' : World} {v : Value} {l : List α} (h : OwnAt S t B w v l) (hG : w.grownBy w' (some nb)) (hn : nb < B) : OwnAt S t B w' v l := by
 refine World.ownsRow.kept h hG ?_
 cases hv : v.ownBlock with
 | none => exact .inl rfl
 | some b => exact .inr (fun e => by have h1 := (h.lt hv).1; have e2 : b = nb := (by injection e); omega)
theorem OwnHAt.kept {B nb : Nat} {w w' : World} {v : Value} {lr : List Hr} {l : List Hf} (h : OwnHAt B w v lr l) (hG : w.grownBy w' (some nb)) (hn : nb < B) : OwnHAt B w' v lr l :=
 ⟨own_kept h.row hG hn, h.len, fun i r x hr hx => ⟨(h.got i r x hr hx).1, own_kept (h.got i r x hr hx).2 hG hn⟩, h.far, h.apart⟩
theorem OwnHAt.sees {B : Nat} {w : World} {v : Value} {lr : List Hr} {l : List Hf} (h : OwnHAt B w v lr l) : SeesH w v l :=
 ⟨lr, h.row.sees, h.len, fun i r x hr hx => ⟨(h.got i r x hr hx).1, (h.got i r x hr hx).2.sees⟩⟩
structure NodeAt (B : Nat) (W : World) (nb : Nat) (s : ByteArray) (f : Int) (k : Kp) (a b c : Value) (lr : List Hr) (l : List Hf) : Prop where
 ring : RingAt W nb l.length [.string s, .int .i64 f, .int .i64 k.id, .int .i64 k.time, .int .i64 k.next, a, b, c] lr
 keep : Own3 B W k a b c
 half : ∃ v, OwnHAt B W v lr l
 lo : B ≤ nb
theorem RingAt.put28 {W : World} {nb k : Nat} {hd : List Value} {lr : List Hr} (h : RingAt W nb k hd lr) (hk : k ≤ 3) (x : Value) : RingAt (W.setCell ⟨nb, 28, none⟩ x) nb k hd lr := by
 obtain ⟨cs, h1, h2, h3, h4, h5, h6⟩ := h
 refine ⟨_, h1.put 28 x, by simpa using h2, by rw [Array.getElem?_setIfInBounds, if_neg (by omega)]; exact h3, by rw [Array.getElem?_setIfInBounds, if_neg (by omega)]; exact h4, fun i hi => by rw [Array.getElem?_setIfInBounds, if_neg (by omega)]; exact h5 i hi, fun i r hi hr j u hu => ?_⟩
 have hj : j < 6 := (List.getElem?_eq_some_iff.1 hu).1
 rw [Array.getElem?_setIfInBounds, if_neg (by omega)]
 exact h6 i r hi hr j u hu
theorem own3_at {B B' : Nat} {W W' : World} {k : Kp} {a b c : Value} (h : Own3 B W k a b c) (hB : B' ≤ B) (hW : Below W.heap.size W W') : Own3 B' W' k a b c :=
 ⟨(h.held.later hW).down hB, (h.marks.later hW).down hB, (h.inbox.later hW).down hB, h.hm, h.hi, h.mi⟩
def OpenP (w : World) (id : Int) (up : Bool) (s : ByteArray) (f : Int) (l : List Hf) (e : Ending) (w' : World) : Prop :=
 ∃ (p : Option Addr) (b : Bool), e = .returned (.tuple #[.pointer p, .bool b]) ∧ NodeOk id up s f l b ∧ Below w.heap.size w w' ∧ (b = true → ∃ (nb : Nat) (k : Kp) (vh vm vi : Value) (lr : List Hr), p = some ⟨nb, 0, none⟩ ∧ Has id s k true ∧ NodeAt w.heap.size w' nb s f k vh vm vi lr l)
set_option maxRecDepth 100000 in
set_option maxHeartbeats 6400000 in
theorem open_h (w : World) (id : Int) (up : Bool) (s : ByteArray) (f : Int) (g : Value) (l : List Hf) (hs : s.size ≤ 1048576) (h : SeesH w g l) (hl : FewH l) (hft : FitsH w g l) (hE : sh.Env w) :
    Calls Tryz.prog 36 #[nodeV id up s f g] w (OpenP w id up s f l) := by
  have HS := Lib.hid h
  have HFt := Lib.hid hft
  have HLl := Lib.hid hl
  have HE := Lib.hid hE
  obtain ⟨A, c, rfl⟩ := h.form
  have K0 := Lib.hid (Blk.new w 32 (nodeC id up s f (.slice A l.length c)))
  have BV := Lib.hid ((Below.refl w.heap.size w).alloc (Nat.le_refl _) (.cells (nodeC id up s f (.slice A l.length c)) 32))
  have HA := Lib.hid (fun V (hV : Below w.heap.size w V) => aho_h V id up s f _ l (HS.out.later hV) HLl.out (HFt.out.later HS.out hV))
  unfold BoolK at HA
  have HSh := Lib.hid (fun V (hV : Below w.heap.size w V) => sh.iok_any s f V (HE.out.later hV))
  clear h hft hl hE
  go_enter Tryz.func36, Tryz.ntmps36
  go_wp2_with fail
  generalize w.alloc (.cells (nodeC id up s f (.slice A l.length c)) 32) = V at K0 BV ⊢
  refine (HSh.out _ BV.out).mono ?_
  rintro e w1 ⟨rfl, B1⟩
  have HB1 := Lib.hid (BV.out.trans (B1.mono BV.out.size))
  have K1 := Lib.hid (K0.out.below B1 K0.out.lt)
  clear B1 K0 BV HSh
  obtain ⟨c0, c1, c2, c3, c4, _⟩ := five5 K1.out
  cases bs : sh.okSh s f with
  | false =>
    have HF := Lib.hid (show NodeOk id up s f l false from .inr ⟨rfl, .inl bs⟩)
    go_wp2
    go_ret2
    exact ⟨none, false, rfl, HF.out, HB1.out, fun h => by cases h⟩
  | true =>
    have hs2 : s.size ≤ 2400 := by obtain ⟨_, _, _, h, _⟩ := sh.ok_nat bs; exact h
    have HBs := Lib.hid bs
    clear bs
    go_wp2_with fail
    refine (HA.out _ HB1.out).mono ?_
    rintro e w2 ⟨rfl, B2⟩
    have HB2 := Lib.hid (HB1.out.trans (B2.mono HB1.out.size))
    have K2 := Lib.hid (K1.out.below B2 K1.out.lt)
    clear B2 K1 HB1 HA c0 c1 c2 c3 c4
    obtain ⟨c0, c1, c2, c3, c4, _⟩ := five5 K2.out
    cases bh : okHfs up l with
    | false =>
      have HF := Lib.hid (show NodeOk id up s f l false from .inr ⟨rfl, .inr (.inl bh)⟩)
      go_wp2
      go_ret2
      exact ⟨none, false, rfl, HF.out, HB2.out, fun h => by cases h⟩
    | true =>
      have HBh := Lib.hid bh
      clear bh
      obtain ⟨ls, n1, q1, q2, q3, hrd⟩ := iread_ls s hs
      have HRd := Lib.hid hrd
      have HQ1 := Lib.hid q1
      have HQ3 := Lib.hid q3
      unfold RdP at HRd
      clear hrd q1 q3
      go_wp2_with fail
      refine (HRd.out _ (HE.out.later HB2.out)).mono ?_
      rintro e w3 ⟨v, rfl, hO⟩
      have HB3 := Lib.hid (HB2.out.trans (hO.2.mono HB2.out.size))
      have K3 := Lib.hid (K2.out.below hO.2 K2.out.lt)
      have HS1 := Lib.hid (sees_of_own hO)
      obtain ⟨A1, d1, rfl, _⟩ := HS1.out
      clear hO c0 c1 c2 c3 c4 K2 HB2
      obtain ⟨c0, c1, c2, c3, c4, _⟩ := five5 K3.out
      go_wp2_with fail
      refine (ikeepOf_any _ id _ ls HS1.out q2 HQ3.out (HE.out.later HB3.out).tab (HE.out.later HB3.out).errs).mono ?_
      rintro e w4 ⟨k, b, vh, vm, vi, rfl, hd, _, o⟩
      rw [HQ1.out] at hd
      have HD := Lib.hid (show Has id s k b from hd)
      obtain ⟨A3, s3, rfl⟩ := OwnR.form o.held
      obtain ⟨M3, t3, rfl⟩ := OwnR.form o.marks
      obtain ⟨I3, u3, rfl⟩ := OwnR.form o.inbox
      have O3 := Lib.hid o.three
      have L34 := Lib.hid (show w.heap.size ≤ w3.heap.size from HB3.out.size)
      have HC4 := Lib.hid ((Below.refl w4.heap.size w4).alloc (Nat.le_refl _) (.cells #[.int .i64 k.id, .int .i64 k.time, .int .i64 k.next, .slice A3 k.held.length s3, .slice M3 k.marks.length t3, .slice I3 k.inbox.length u3] 39))
      have BA := o.bel.trans (((Below.refl w4.heap.size w4).alloc (Nat.le_refl _) (.cells #[.int .i64 k.id, .int .i64 k.time, .int .i64 k.next, .slice A3 k.held.length s3, .slice M3 k.marks.length t3, .slice I3 k.inbox.length u3] 39)).mono o.bel.size)
      have HB4 := Lib.hid (HB3.out.trans (BA.mono HB3.out.size))
      have K4 := Lib.hid (K3.out.below BA K3.out.lt)
      have KK := Lib.hid (Blk.new w4 39 #[.int .i64 k.id, .int .i64 k.time, .int .i64 k.next, .slice A3 k.held.length s3, .slice M3 k.marks.length t3, .slice I3 k.inbox.length u3])
      clear hd o BA c0 c1 c2 c3 c4 K3 HB3
      go_upto_region 5 with (fail)
      generalize w4.alloc (.cells #[.int .i64 k.id, .int .i64 k.time, .int .i64 k.next, .slice A3 k.held.length s3, .slice M3 k.marks.length t3, .slice I3 k.inbox.length u3] 39) = V4 at HB4 K4 KK HC4 ⊢
      have HRK := Lib.hid (show ∃ rk, rk = w4.heap.size from ⟨_, rfl⟩)
      obtain ⟨rk, hrk⟩ := HRK.out
      rw [← hrk] at KK ⊢
      clear hrk HRK
      cases b with
      | false =>
        have HF := Lib.hid (show NodeOk id up s f l false from .inr ⟨rfl, .inr (.inr ⟨k, HD.out⟩)⟩)
        go_wp2
        go_ret2
        exact ⟨none, false, rfl, HF.out, HB4.out, fun h => by cases h⟩
      | true =>
        have HF := Lib.hid (show NodeOk id up s f l true from .inl ⟨rfl, HBs.out, HBh.out, k, HD.out⟩)
        have hl3 : l.length ≤ 3 := by
          have h := HBh.out
          unfold okHfs at h
          simp only [Bool.and_eq_true] at h
          exact of_decide_eq_true h.1.1
        obtain ⟨c0, c1, c2, c3, c4, _⟩ := five5 K4.out
        obtain ⟨e0, e1, e2, e3, e4, e5, _⟩ := sixh KK.out
        go_upto_region 8 with (fail)
        have hA5 := (Below.refl V4.heap.size V4).alloc (Nat.le_refl _) (.cells #[.string s, .int .i64 f, .int .i64 k.id, .int .i64 k.time, .int .i64 k.next, .slice A3 k.held.length s3, .slice M3 k.marks.length t3, .slice I3 k.inbox.length u3, .int .i64 0, .int .i64 0, .int .i64 0, .int .i64 0, .int .i64 0, .slice none 0 0, .int .i64 0, .int .i64 0, .int .i64 0, .int .i64 0, .int .i64 0, .slice none 0 0, .int .i64 0, .int .i64 0, .int .i64 0, .int .i64 0, .int .i64 0, .slice none 0 0, .int .i64 0, .int .i64 0, .nilFunc] 75)
        have HB5 := Lib.hid (HB4.out.trans (hA5.mono HB4.out.size))
        have K5 := Lib.hid (K4.out.below hA5 K4.out.lt)
        have HC5 := Lib.hid (HC4.out.trans (hA5.mono HC4.out.size))
        have HRg := Lib.hid (show ∀ lr, RingAt (V4.alloc (.cells #[.string s, .int .i64 f, .int .i64 k.id, .int .i64 k.time, .int .i64 k.next, .slice A3 k.held.length s3, .slice M3 k.marks.length t3, .slice I3 k.inbox.length u3, .int .i64 0, .int .i64 0, .int .i64 0, .int .i64 0, .int .i64 0, .slice none 0 0, .int .i64 0, .int .i64 0, .int .i64 0, .int .i64 0, .int .i64 0, .slice none 0 0, .int .i64 0, .int .i64 0, .int .i64 0, .int .i64 0, .int .i64 0, .slice none 0 0, .int .i64 0, .int .i64 0, .nilFunc] 75)) V4.heap.size 0 [.string s, .int .i64 f, .int .i64 k.id, .int .i64 k.time, .int .i64 k.next, .slice A3 k.held.length s3, .slice M3 k.marks.length t3, .slice I3 k.inbox.length u3] lr from fun lr => ⟨_, Blk.new V4 _ _, rfl, rfl, rfl, fun i hi => by rcases (by omega : i = 0 ∨ i = 1 ∨ i = 2 ∨ i = 3 ∨ i = 4 ∨ i = 5 ∨ i = 6 ∨ i = 7) with rfl | rfl | rfl | rfl | rfl | rfl | rfl | rfl <;> rfl, fun i r hi => absurd hi (by omega)⟩)
        have HNb := Lib.hid (HB4.out.size)
        have HN4 := Lib.hid (HC4.out.size)
        have HNl := Lib.hid (show V4.heap.size < (V4.alloc (.cells #[.string s, .int .i64 f, .int .i64 k.id, .int .i64 k.time, .int .i64 k.next, .slice A3 k.held.length s3, .slice M3 k.marks.length t3, .slice I3 k.inbox.length u3, .int .i64 0, .int .i64 0, .int .i64 0, .int .i64 0, .int .i64 0, .slice none 0 0, .int .i64 0, .int .i64 0, .int .i64 0, .int .i64 0, .int .i64 0, .slice none 0 0, .int .i64 0, .int .i64 0, .int .i64 0, .int .i64 0, .int .i64 0, .slice none 0 0, .int .i64 0, .int .i64 0, .nilFunc] 75)).heap.size by simp)
        clear c0 c1 c2 c3 c4 e0 e1 e2 e3 e4 e5 K4 KK hA5 HB4
        generalize V4.alloc (.cells #[.string s, .int .i64 f, .int .i64 k.id, .int .i64 k.time, .int .i64 k.next, .slice A3 k.held.length s3, .slice M3 k.marks.length t3, .slice I3 k.inbox.length u3, .int .i64 0, .int .i64 0, .int .i64 0, .int .i64 0, .int .i64 0, .slice none 0 0, .int .i64 0, .int .i64 0, .int .i64 0, .int .i64 0, .int .i64 0, .slice none 0 0, .int .i64 0, .int .i64 0, .int .i64 0, .int .i64 0, .int .i64 0, .slice none 0 0, .int .i64 0, .int .i64 0, .nilFunc] 75) = V5 at HB5 K5 HRg HNl HC5 ⊢
        generalize V4.heap.size = nb at HRg HNb HNl HN4 ⊢
        obtain ⟨c0, c1, c2, c3, c4, _⟩ := five5 K5.out
        go_wp2_with fail
        refine (copyHs_any V5 _ l (HS.out.later HB5.out) ⟨HLl.out.1, HLl.out.2⟩).mono ?_
        rintro e w6 ⟨v6, lr6, rfl, o6⟩
        obtain ⟨A6, c6, rfl⟩ := o6.sees.form
        have HB6 := Lib.hid (HB5.out.trans (o6.bel.mono HB5.out.size))
        have HO6 := Lib.hid (o6.at_)
        have HR6 := Lib.hid ((HRg.out lr6).later o6.bel)
        have HC6 := Lib.hid (HC5.out.trans (o6.bel.mono HC5.out.size))
        have HV5 := Lib.hid (show w.heap.size ≤ V5.heap.size from HB5.out.size)
        clear o6 c0 c1 c2 c3 c4 K5 HRg HB5
        go_wp2
        go_loopw [45] (fun i wr => ∃ j : Nat, j ≤ l.length ∧ i = .int .i64 j ∧ Hid (RingAt wr nb j [.string s, .int .i64 f, .int .i64 k.id, .int .i64 k.time, .int .i64 k.next, .slice A3 k.held.length s3, .slice M3 k.marks.length t3, .slice I3 k.inbox.length u3] lr6) ∧ Hid (w6.grownBy wr (some nb))) (fun i _ => (l.length + 1 : Nat) - (intOf i).toNat)
        case atStart => exact ⟨0, by omega, rfl, HR6.out, kp.grown_refl _ _⟩
        case round =>
          clear HR6
          obtain ⟨j, hj, rfl, HR, HG⟩ := hrel
          by_cases hjl : j < l.length
          · have hx : l[j]? = some l[j] := List.getElem?_eq_getElem hjl
            have hr6 : lr6[j]? = some (lr6[j]'(by rw [HO6.out.len]; exact hjl)) := List.getElem?_eq_getElem _
            obtain ⟨g, c', e, hg, _, hcell⟩ := (HO6.out.kept HG.out HNl.out).row.sees.at hr6
            injection e with e1 e2 e3
            subst e1; clear e2; subst e3
            have HR0 := Lib.hid hr6
            clear hx hr6
            generalize lr6[j]'(by rw [HO6.out.len]; exact hjl) = y at hcell HR0
            have t0 : wr.cell? ⟨g, j * 6, none⟩ = some (.int .i64 y.f) := hcell 0 _ rfl
            have t1 : wr.cell? ⟨g, j * 6 + 1, none⟩ = some (.int .i64 y.n) := hcell 1 _ rfl
            have t2 : wr.cell? ⟨g, j * 6 + 2, none⟩ = some (.int .i64 y.t) := hcell 2 _ rfl
            have t3 : wr.cell? ⟨g, j * 6 + 3, none⟩ = some (.int .i64 y.u) := hcell 3 _ rfl
            have t4 : wr.cell? ⟨g, j * 6 + 4, none⟩ = some (.int .i64 y.z) := hcell 4 _ rfl
            have t5 : wr.cell? ⟨g, j * 6 + 5, none⟩ = some (.slice y.A y.m y.c) := hcell 5 _ rfl
            clear hcell
            have hj0 : (0 : Int) ≤ (j : Int) := by omega
            have hj1 : (j : Int) < (l.length : Int) := by omega
            have hA := (Below.refl wr.heap.size wr).alloc (Nat.le_refl _) (.cells #[.int .i64 y.f, .int .i64 y.n, .int .i64 y.t, .int .i64 y.u, .int .i64 y.z, .slice y.A y.m y.c] 62)
            have KY := Lib.hid (Blk.new wr 62 #[.int .i64 y.f, .int .i64 y.n, .int .i64 y.t, .int .i64 y.u, .int .i64 y.z, .slice y.A y.m y.c])
            have HR1 := Lib.hid (HR.out.later hA)
            have HG1 := Lib.hid (kp.grown_on HG.out hA)
            have hnr : nb < wr.heap.size := HR.out.lt
            clear hA
            go_upto_region 11 with (fail)
            generalize hV : wr.alloc (.cells #[.int .i64 y.f, .int .i64 y.n, .int .i64 y.t, .int .i64 y.u, .int .i64 y.z, .slice y.A y.m y.c] 62) = W1 at KY HR1 HG1 ⊢
            generalize wr.heap.size = r at KY hnr ⊢
            clear hV t0 t1 t2 t3 t4 t5
            have h0 := (Below.refl W1.heap.size W1).drew
            refine wp_region_held_drew (S := (fun w' : World => Blk w' r 62 #[.int .i64 y.f, .int .i64 y.n, .int .i64 y.t, .int .i64 y.u, .int .i64 y.z, .slice y.A y.m y.c])) (by kernel_rfl) (KY.out.below h0 KY.out.lt) (fun hHeld => ?_)
            clear hHeld
            have hKd := KY.out.below h0 KY.out.lt
            have HR2 := Lib.hid (HR1.out.later h0)
            have HG2 := Lib.hid (kp.grown_on HG1.out h0)
            clear h0 KY HR1 HG1 HR HG
            generalize W1.drew = Z at hKd HR2 HG2 ⊢
            refine rs.w 0 49 ?_ rfl ?_ ?_
            rotate_left 1
            · (intro w' hSw; obtain ⟨k0, k1, k2, k3, k4, k5, _⟩ := sixh hSw; go_simp; try with_reducible rfl)
            simp only [rs.a, rs.b, rs.c]
            refine rs.w 1 50 ?_ rfl ?_ ?_
            rotate_left 1
            · (intro w' hSw; obtain ⟨k0, k1, k2, k3, k4, k5, _⟩ := sixh hSw; go_simp; try with_reducible rfl)
            simp only [rs.a, rs.b, rs.c]
            refine rs.w 2 51 ?_ rfl ?_ ?_
            rotate_left 1
            · (intro w' hSw; obtain ⟨k0, k1, k2, k3, k4, k5, _⟩ := sixh hSw; go_simp; try with_reducible rfl)
            simp only [rs.a, rs.b, rs.c]
            refine rs.w 3 52 ?_ rfl ?_ ?_
            rotate_left 1
            · (intro w' hSw; obtain ⟨k0, k1, k2, k3, k4, k5, _⟩ := sixh hSw; go_simp; try with_reducible rfl)
            simp only [rs.a, rs.b, rs.c]
            refine wpAnyH_ready (rs := [4]) (by kernel_rfl) (by simp) ?_
            refine AllReadyH.cons rfl (fun K hK => ?_) AllReadyH.nil
            go_simp
            refine (push_h Z nb j (by omega) HR2.out y HR0.out).mono ?_
            rintro e u1 ⟨rfl, hR3, hG3⟩
            have hKd2 : Blk u1 r 62 #[.int .i64 y.f, .int .i64 y.n, .int .i64 y.t, .int .i64 y.u, .int .i64 y.z, .slice y.A y.m y.c] := (hG3.block r hKd.lt (fun e => by have e2 : r = nb := (by injection e); omega)).trans hKd
            have HR3 := Lib.hid hR3
            have HG3 := Lib.hid (gtrans HG2.out hG3)
            clear hR3 hG3 hKd HR2 HG2
            refine hK.out _ _ hKd2 (fun hHeld => ?_)
            clear hK K hHeld hKd2
            refine wpAnyH_done (by kernel_rfl) ?_ _
            go_wp2
            first
              | exact ⟨⟨j + 1, by omega, by go_num, HR3.out, HG3.out⟩, by simp [intOf]; omega⟩
              | (go_roundw
                 case rel => exact ⟨j + 1, by omega, by go_num, HR3.out, HG3.out⟩
                 case measure => simp [intOf]; omega)
          · obtain rfl : j = l.length := by omega
            have HG0 := Lib.hid (HB6.out.trans (gbelow HG.out HNb.out HB6.out.size))
            have HLg := Lib.hid (logger_h nb wr)
            unfold LogP at HLg
            have HRr := Lib.hid HR.out
            have HC7 := Lib.hid (HC6.out.trans (gbelow HG.out HN4.out HC6.out.size))
            have HO7 := Lib.hid (HO6.out.kept HG.out HNl.out)
            clear HR HG
            go_wp2_with fail
            refine HLg.out.mono ?_
            rintro e w7 ⟨gb, rfl, B7⟩
            have HB7 := Lib.hid ((HG0.out.trans (B7.mono HG0.out.size)).setCell (p := ⟨nb, 28, none⟩) HNb.out (.func (.func 97) #[] #[.pointer (some ⟨gb, 0, none⟩)]))
            have HAt := Lib.hid (show NodeAt w.heap.size (w7.setCell ⟨nb, 28, none⟩ (.func (.func 97) #[] #[.pointer (some ⟨gb, 0, none⟩)])) nb s f k (.slice A3 k.held.length s3) (.slice M3 k.marks.length t3) (.slice I3 k.inbox.length u3) lr6 l from
              ⟨(HRr.out.later B7).put28 hl3 _, own3_at O3.out L34.out ((HC7.out.trans (B7.mono HC7.out.size)).setCell (p := ⟨nb, 28, none⟩) HN4.out _), ⟨_, ((HO7.out.later B7).set (p := ⟨nb, 28, none⟩) HNl.out _).down HV5.out⟩, HNb.out⟩)
            obtain ⟨cs, hb, hsz, _, _⟩ := HRr.out.later B7
            obtain ⟨o28, c28⟩ : ∃ v, w7.cell? ⟨nb, 28, none⟩ = some v := ⟨cs[28]'(by omega), by rw [hb.cell]; exact Array.getElem?_eq_getElem (by omega)⟩
            have f28 := hb.frozen 28
            have hst : ∀ m, (store ⟨nb, 28, none⟩ (.func (.func 97) #[] #[.pointer (some ⟨gb, 0, none⟩)]) m).run Tryz.prog w7 = stored Tryz.prog w7 ⟨nb, 28, none⟩ (.func (.func 97) #[] #[.pointer (some ⟨gb, 0, none⟩)]) m := fun m => run_store _ _ _ _ m rfl
            clear hb B7 HLg HRr HG0
            go_wp2
            exact bodyPost_ret (v := .tuple #[.pointer (some ⟨nb, 0, none⟩), .bool true]) (by simp [results, Tryz.results36, go_sem]) rfl ⟨some ⟨nb, 0, none⟩, true, rfl, HF.out, HB7.out, fun _ => ⟨nb, k, _, _, _, lr6, rfl, HD.out, HAt.out⟩⟩
def KOkP (w : World) (id : Int) (up : Bool) (s : ByteArray) (f : Int) (l : List Hf) (e : Ending) (w' : World) : Prop :=
 ∃ b : Bool, e = .returned (.bool b) ∧ NodeOk id up s f l b ∧ Below w.heap.size w w'
end Go.Proofs.YtckicpnnclbkpaaGreatDoor.hf

namespace Go.Proofs.YtckicpnnclbkpaaGreatDoor.hf
open Go.ChangeShapes Go.WideShapes Go.ChangeAt Go.RowKit
open wd ow rl ok kp nb sl dc
def Logged (W : World) (nb : Nat) (s : ByteArray) (f : Int) (cs : Array Value) : Prop := ∃ cs' : Array Value, Blk W nb 75 cs' ∧ cs'.size = 29 ∧ cs'[0]? = some (.string s) ∧ cs'[1]? = some (.int .i64 f) ∧ ∀ i, 2 ≤ i → cs'[i]? = cs[i]?
theorem Logged.later {W W' : World} {nb : Nat} {s : ByteArray} {f : Int} {cs : Array Value} (h : Logged W nb s f cs) (hB : Below W.heap.size W W') : Logged W' nb s f cs := by
 obtain ⟨c, h1, h2⟩ := h
 exact ⟨c, h1.below hB h1.lt, h2⟩
def ForcedP (w : World) (nb : Nat) (s : ByteArray) (cs : Array Value) (v : Value) (e : Ending) (w' : World) : Prop := e = .returned v ∧ Logged w' nb s s.size cs ∧ w.grownBy w' (some nb)
set_option maxRecDepth 100000 in
set_option maxHeartbeats 1600000 in
theorem force_h (w : World) (nb : Nat) (s : ByteArray) (f : Int) (cs : Array Value) (h : Logged w nb s f cs) (hok : sh.okSh s f = true) (hE : sh.Env w) :
  Calls Tryz.prog 50 #[.pointer (some ⟨nb, 0, none⟩)] w (ForcedP w nb s cs (.tuple #[])) := by
 obtain ⟨c, hb, hs, h0, h1, hR⟩ := h
 have HFo := Lib.hid (sh.iforce_of sh.Env (fun _ _ h hb => h.later hb) s f (fun V hV => sh.iok_any s f V hV) w hE)
 have e1 : sh.forceS s f = s := by simp [sh.forceS, hok]
 have e2 : sh.forceF s f = (s.size : Nat) := by simp [sh.forceF, hok]
 rw [e1, e2] at HFo
 unfold sh.ShPost at HFo
 have y0 := (hb.cell 0).trans h0
 have y1 := (hb.cell 1).trans h1
 have HK := Lib.hid hb
 have HS := Lib.hid hs
 have HR := Lib.hid hR
 clear e1 e2 hok hE hb hR hs
 go_enter Tryz.func50, Tryz.ntmps50
 go_wp2_with fail
 refine HFo.out.mono ?_
 rintro e w1 ⟨rfl, B1⟩
 have k1 := HK.out.below B1 HK.out.lt
 have z0 := (k1.cell 0).trans h0
 have z1 := (k1.cell 1).trans h1
 have f0 := k1.frozen 0
 have f1 := k1.frozen 1
 have HL := Lib.hid (show Logged ((w1.setCell ⟨nb, 0, none⟩ (.string s)).setCell ⟨nb, 1, none⟩ (.int .i64 s.size)) nb s s.size cs from ⟨_, (k1.put 0 (.string s)).put 1 (.int .i64 s.size), by simpa using HS.out, by rw [Array.getElem?_setIfInBounds, if_neg (by omega), Array.getElem?_setIfInBounds, if_pos rfl, if_pos (by rw [HS.out]; omega)], by rw [Array.getElem?_setIfInBounds, if_pos rfl, if_pos (by simp; rw [HS.out]; omega)], fun i hi => by rw [Array.getElem?_setIfInBounds, if_neg (by omega), Array.getElem?_setIfInBounds, if_neg (by omega)]; exact HR.out i hi⟩)
 have HG := Lib.hid (kp.grown_put (kp.grown_put (kp.grown_on (kp.grown_refl w (some nb)) B1) 0 (.string s)) 1 (.int .i64 s.size))
 clear y0 y1 k1 B1 HK HFo h0 h1
 go_wp2
 exact bodyPost_ret (v := .tuple #[]) (by simp [results, Tryz.results50, go_sem]) rfl ⟨rfl, HL.out, HG.out⟩
set_option maxRecDepth 100000 in
set_option maxHeartbeats 1600000 in
theorem forced_h (w : World) (nb : Nat) (s : ByteArray) (f : Int) (cs : Array Value) (b : Bool) (hbf : (b = true ∧ f ≠ (s.size : Int)) ∨ (b = false ∧ f = (s.size : Int))) (h : Logged w nb s f cs) (hok : sh.okSh s f = true) (hE : sh.Env w) :
  Calls Tryz.prog 49 #[.pointer (some ⟨nb, 0, none⟩)] w (ForcedP w nb s cs (.bool b)) := by
 have H := Lib.hid (fun V (hV : Logged V nb s f cs) (hE : sh.Env V) => force_h V nb s f cs hV hok hE)
 unfold ForcedP at H
 have HL := Lib.hid h
 have HE := Lib.hid hE
 obtain ⟨c, hb, hs, h0, h1, _⟩ := h
 have y0 := (hb.cell 0).trans h0
 have y1 := (hb.cell 1).trans h1
 clear hok hE hb hs h0 h1
 rcases hbf with ⟨rfl, hf⟩ | ⟨rfl, rfl⟩
 ·have hfb : (f == (s.size : Int)) = false := by simpa using hf
  go_enter Tryz.func49, Tryz.ntmps49
  go_upto_region 1 with (fail)
  go_quiet (fail)
  go_upto_region 2 with (fail)
  have h0' := ow.below_drewN' (Below.refl w.heap.size w) nq
  have HL1 := Lib.hid (HL.out.later h0')
  have HE1 := Lib.hid (HE.out.later h0')
  have HG1 := Lib.hid (kp.grown_on (kp.grown_refl w (some nb)) h0')
  clear y0 y1 h0' hf hfb
  generalize w.drewN nq = V at HL1 HE1 HG1 ⊢
  go_wp2_with fail
  refine (H.out _ HL1.out HE1.out).mono ?_
  rintro e w1 ⟨rfl, hL, hG⟩
  have HL2 := Lib.hid hL
  have HG2 := Lib.hid (gtrans HG1.out hG)
  clear hL hG HL1 HG1 HE1
  go_wp2
  go_ret
  exact ⟨rfl, HL2.out, HG2.out⟩
 ·go_enter Tryz.func49, Tryz.ntmps49
  go_upto_region 1 with (fail)
  go_quiet (fail)
  go_upto_region 2 with (fail)
  have h0' := ow.below_drewN' (Below.refl w.heap.size w) nq
  have HL1 := Lib.hid (HL.out.later h0')
  have HE1 := Lib.hid (HE.out.later h0')
  have HG1 := Lib.hid (kp.grown_on (kp.grown_refl w (some nb)) h0')
  clear y0 y1 h0'
  generalize w.drewN nq = V at HL1 HE1 HG1 ⊢
  go_wp2_with fail
  refine (H.out _ HL1.out HE1.out).mono ?_
  rintro e w1 ⟨rfl, hL, hG⟩
  have HL2 := Lib.hid hL
  have HG2 := Lib.hid (gtrans HG1.out hG)
  clear hL hG HL1 HG1 HE1
  go_wp2
  go_ret
  exact ⟨rfl, HL2.out, HG2.out⟩
end Go.Proofs.YtckicpnnclbkpaaGreatDoor.hf

