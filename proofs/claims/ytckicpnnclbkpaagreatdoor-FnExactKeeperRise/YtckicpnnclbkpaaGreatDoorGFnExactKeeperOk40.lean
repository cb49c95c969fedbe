/-
  Merged texts: HfHas, HfHas2, HfImpl4.
-/
import Derived.Test.YtckicpnnclbkpaaGreatDoorGFnExactKeeperOk39
import Derived.Test.YtckicpnnclbkpaaGreatDoorGFnExactKeeperOk13
import Derived.Test.YtckicpnnclbkpaaGreatDoorGFnExactKeeperOk9
import Derived.Test.YtckicpnnclbkpaaGreatDoorGFnExactKeeperOk37
namespace Go.Proofs.YtckicpnnclbkpaaGreatDoor.hf
open Go.ChangeShapes Go.WideShapes Go.ChangeAt Go.RowKit
open wd ow rl ok kp nb nx
theorem hmark_any (h : Hf) (A : Option Addr) (m c : Nat) (w : World) : Calls Tryz.prog 88 #[hfV h (.slice A m c)] w (AggPost w (kp.mark h.f h.n h.u)) := by
 go_enter Tryz.func88, Tryz.ntmps88
 go_wp2
 refine bodyPost_ret (v := kp.mark h.f h.n h.u) (by simp [results, Tryz.results88, go_sem, kp.mark]) rfl ⟨rfl, ?_⟩
 exact ((Below.refl _ _).alloc (Nat.le_refl _) _).alloc (by simp) _
theorem mHalf (a b c d e f : Value) (w : World) : (Go.method 453 62 (.agg #[a, b, c, d, e, f]) "loop.example/bargeman/impl.mark").run Tryz.prog w = .ok (88, .agg #[a, b, c, d, e, f]) w := by kernel_rfl
theorem seesH_first {w : World} {A : Option Addr} {n c : Nat} {l : List Hf} (h : SeesH w (.slice A n c) l) {j : Nat} (hj : j ≤ l.length) : SeesH w (.slice A j c) (l.take j) := by
 obtain ⟨lr, h1, h2, h3⟩ := h
 refine ⟨lr.take j, seesR_first h1 (by omega), by rw [List.length_take, List.length_take, h2], fun i r x hr hx => ?_⟩
 have hi : i < j := by have := (List.getElem?_eq_some_iff.1 hr).1; rw [List.length_take] at this; omega
 rw [List.getElem?_take_of_lt hi] at hr hx
 exact h3 i r x hr hx
def PredH (g b : Nat) (w : World) (p : Hf → Bool) : Prop := ∀ V x A c, Below w.heap.size w V → Calls Tryz.prog g #[hfV x (.slice A x.got.length c), .pointer (some ⟨b, 0, none⟩)] V (BoolK V (p x))
set_option maxRecDepth 100000 in
set_option maxHeartbeats 800000 in
theorem hasH_pred (b : Nat) (f n u : Int) (w : World) (hb : Blk w b 108 #[.int .i64 f, .int .i64 n, .int .i64 u]) : PredH 156 b w (sameHf f n) := by
 intro V x A c hB
 have k1 := hb.below hB hb.lt
 have k2 := Blk.new V 62 #[.int .i64 x.f, .int .i64 x.n, .int .i64 x.t, .int .i64 x.u, .int .i64 x.z, .slice A x.got.length c]
 have k3 := k1.alloc (.cells #[.int .i64 x.f, .int .i64 x.n, .int .i64 x.t, .int .i64 x.u, .int .i64 x.z, .slice A x.got.length c] 62)
 have hB0 := (Below.refl V.heap.size V).alloc (Nat.le_refl _) (.cells #[.int .i64 x.f, .int .i64 x.n, .int .i64 x.t, .int .i64 x.u, .int .i64 x.z, .slice A x.got.length c] 62)
 have HE := Lib.hid (show (cmpM x.f x.n f n == 0) = sameHf f n x from cmp_is x.f x.n f n)
 clear hb hB k1
 go_enter Tryz.func156, Tryz.ntmps156
 go_wp2_with fail
 generalize V.alloc (.cells #[.int .i64 x.f, .int .i64 x.n, .int .i64 x.t, .int .i64 x.u, .int .i64 x.z, .slice A x.got.length c] 62) = W at *
 obtain ⟨c0, c1, c2, c3, c4, c5⟩ := qa.six k2
 obtain ⟨d0, d1, d2⟩ := qa.three k3
 have HB := Lib.hid hB0
 clear k2 k3 hB0
 have hm := mHalf
 refine qa.region (by kernel_rfl) (by kernel_rfl) ?_
 repeat (go_big_quiet_step (first | (go_at_call 88; exact qa.of_below (hmark_any x _ _ _ _)) | (go_at_call 157; exact qa.of_below (compare_any _ _ _ _ _ _ _))))
 refine wpQuiet_nil ?_
 rintro _ ⟨p, rfl⟩
 have HB2 := Lib.hid (HB.out.trans (p.h.mono HB.out.size))
 clear c0 c1 c2 c3 c4 c5 d0 d1 d2 hm
 go_wp2
 go_ret
 exact ⟨nb.ret_bool HE.out, HB2.out⟩
set_option maxRecDepth 100000 in
set_option maxHeartbeats 1600000 in
theorem srchH (w : World) (v : Value) (l : List Hf) (h : SeesH w v l) (hl : l.length ≤ 1048576) (b : Nat) (p : Hf → Bool) (hp : PredH 156 b w p) :
  Calls Tryz.prog 155 #[v, .func (.func 156) #[] #[.pointer (some ⟨b, 0, none⟩)]] w (IdxPost w (l.findIdx p) (l.any p)) := by
 have HP := Lib.hid hp
 have HS := Lib.hid h
 obtain ⟨A, c, rfl⟩ := h.form
 clear hp h
 go_enter Tryz.func155, Tryz.ntmps155
 go_wp2
 go_loopw [10] (fun i wr => ∃ k : Nat, k ≤ l.length ∧ i = .int .i64 k ∧ Hid ((l.take k).any p = false) ∧ Below w.heap.size w wr) (fun i _ => (l.length + 1 : Nat) - (intOf i).toNat)
 case atStart => exact ⟨0, by omega, rfl, rfl, Below.refl _ _⟩
 case round =>
  obtain ⟨k, hk, rfl, HA, hB⟩ := hrel
  by_cases hlt : k < l.length
  ·have hx : l[k]? = some l[k] := List.getElem?_eq_getElem hlt
   obtain ⟨g, c', A', c2, e, hg, _, t0, t1, t2, t3, t4, t5, _⟩ := (HS.out.later hB).at hx
   injection e with e1 e2 e3
   subst e1; clear e2; subst e3
   have HX := Lib.hid hx
   generalize l[k] = y at HX t0 t1 t2 t3 t4 t5
   have hk1 : (k : Int) < (l.length : Int) := by omega
   have HB := Lib.hid hB
   clear hx hB
   go_wp2_with fail
   have hB0 := HB.out.alloc HB.out.size (.cells #[.int .i64 y.f, .int .i64 y.n, .int .i64 y.t, .int .i64 y.u, .int .i64 y.z, .slice A' y.got.length c2] 62)
   refine (HP.out _ y A' c2 hB0).mono ?_
   rintro e w2 ⟨rfl, hB2⟩
   have HB2 := Lib.hid (hB0.trans (hB2.mono hB0.size))
   clear hB2 hB0 t0 t1 t2 t3 t4 t5
   cases hq : p y with
   | true =>
    have HI := Lib.hid (findIdx_first HA.out HX.out hq)
    have HT := Lib.hid (mk_any_at HX.out hq)
    clear hq
    go_wp2
    go_ret2
    exact ⟨by rw [HI.out, HT.out]; rfl, HB2.out⟩
   | false =>
    have HN := Lib.hid (none_on HA.out HX.out hq)
    clear hq
    go_wp2
    go_roundw
    case rel => exact ⟨k + 1, by omega, by go_num, HN.out, HB2.out⟩
    case measure => simp [intOf]; omega
  ·obtain ⟨e1, e2⟩ := findIdx_end HA.out (by omega)
   have HE := Lib.hid e1
   have HF := Lib.hid e2
   clear e1 e2
   have hk1 : ¬ (k : Int) < (l.length : Int) := by omega
   go_wp2
   go_ret2
   exact ⟨by rw [HE.out, HF.out]; rfl, hB⟩
end Go.Proofs.YtckicpnnclbkpaaGreatDoor.hf

namespace Go.Proofs.YtckicpnnclbkpaaGreatDoor.hf
open Go.ChangeShapes Go.WideShapes Go.ChangeAt Go.RowKit
open wd ow rl ok kp nb nx
abbrev hrV (r : Hr) : Value := .agg #[.int .i64 r.f, .int .i64 r.n, .int .i64 r.t, .int .i64 r.u, .int .i64 r.z, .slice r.A r.m r.c]
def FindHP (w : World) (b : Bool) (e : Ending) (w' : World) : Prop := ∃ r : Hr, e = .returned (.tuple #[hrV r, .bool b]) ∧ Below w.heap.size w w'
set_option maxRecDepth 100000 in
set_option maxHeartbeats 3200000 in
theorem findH_any (w : World) (v : Value) (l : List Hf) (h : SeesH w v l) (hl : l.length ≤ 1048576) (f n u : Int) :
  Calls Tryz.prog 127 #[v, kp.mark f n u] w (FindHP w (l.any (sameHf f n))) := by
 have k1 := (Blk.new w 108 #[.int .i64 f, .int .i64 n, .int .i64 u]).alloc (.cells #[.int .i64 0, .int .i64 0, .int .i64 0, .int .i64 0, .int .i64 0, .slice none 0 0] 62)
 have kz := Blk.new (w.alloc (.cells #[.int .i64 f, .int .i64 n, .int .i64 u] 108)) 62 #[.int .i64 0, .int .i64 0, .int .i64 0, .int .i64 0, .int .i64 0, .slice none 0 0]
 rw [World.size_alloc] at kz
 have hB0 : Below w.heap.size w ((w.alloc (.cells #[.int .i64 f, .int .i64 n, .int .i64 u] 108)).alloc (.cells #[.int .i64 0, .int .i64 0, .int .i64 0, .int .i64 0, .int .i64 0, .slice none 0 0] 62)) := ((Below.refl _ _).alloc (Nat.le_refl _) _).alloc (by simp) _
 have hS := srchH _ v l (h.later hB0) hl _ _ (hasH_pred _ f n u _ k1)
 have HL := Lib.hid h
 have HB := Lib.hid hB0
 have HKz := Lib.hid kz
 have hmf := mkfn
 obtain ⟨A, c, rfl⟩ := h.form
 clear k1 kz hB0 h
 unfold kp.mark
 cases ha : l.any (sameHf f n) with
 | true =>
  obtain ⟨y, hy, _, hlt⟩ := find_any ha
  rw [ha] at hS
  generalize l.findIdx (sameHf f n) = i at hS hy hlt
  have HS := Lib.hid hS
  have hi1 : (i : Int) < (l.length : Int) := by omega
  clear hS ha
  go_enter Tryz.func127, Tryz.ntmps127
  go_wp2_with fail
  refine HS.out.mono ?_
  rintro e w2 ⟨rfl, hB2⟩
  have hB3 := HB.out.trans (hB2.mono HB.out.size)
  have hz2 := HKz.out.below hB2 HKz.out.lt
  obtain ⟨g, c', A', c2, e, hg, _, t0, t1, t2, t3, t4, t5, _⟩ := (HL.out.later hB3).at hy
  injection e with e1 e2 e3
  subst e1; clear e2; subst e3
  have HB2 := Lib.hid hB3
  obtain ⟨z0, z1, z2, z3, z4, z5, y0, y1, y2, y3, y4, y5⟩ := sixh hz2
  have HC := Lib.hid (put6h_blk (a' := .int .i64 y.f) (b' := .int .i64 y.n) (c' := .int .i64 y.t) (d' := .int .i64 y.u) (e' := .int .i64 y.z) (f' := .slice A' y.got.length c2) hz2)
  have HE := Lib.hid (put6h_below (B := w.heap.size) (R := w.heap.size + 1) (Nat.le_succ _) hB3 (.int .i64 y.f) (.int .i64 y.n) (.int .i64 y.t) (.int .i64 y.u) (.int .i64 y.z) (.slice A' y.got.length c2))
  clear hB2 hB3 hy HKz hz2
  go_wp2
  obtain ⟨x0, x1, x2, x3, x4, x5, _⟩ := sixh HC.out
  refine bodyPost_ret (v := .tuple #[hrV ⟨y.f, y.n, y.t, y.u, y.z, A', y.got.length, c2⟩, .bool true]) (by simp [results, Tryz.results127, go_sem, x0, x1, x2, x3, x4, x5]) rfl ⟨_, rfl, HE.out⟩
 | false =>
  rw [ha] at hS
  generalize l.findIdx (sameHf f n) = i at hS
  have HS := Lib.hid hS
  clear hS ha
  go_enter Tryz.func127, Tryz.ntmps127
  go_wp2_with fail
  refine HS.out.mono ?_
  rintro e w2 ⟨rfl, hB2⟩
  have hB3 := HB.out.trans (hB2.mono HB.out.size)
  have hz2 := (HKz.out.below hB2 HKz.out.lt).alloc (.cells #[.int .i64 0, .int .i64 0, .int .i64 0, .int .i64 0, .int .i64 0, .slice none 0 0] 62)
  have hB4 := hB3.alloc hB3.size (.cells #[.int .i64 0, .int .i64 0, .int .i64 0, .int .i64 0, .int .i64 0, .slice none 0 0] 62)
  have hx2 := Blk.new w2 62 #[.int .i64 0, .int .i64 0, .int .i64 0, .int .i64 0, .int .i64 0, .slice none 0 0]
  clear hB2 hB3 HKz
  go_upto_region 4 with (fail)
  generalize w2.alloc (.cells #[.int .i64 0, .int .i64 0, .int .i64 0, .int .i64 0, .int .i64 0, .slice none 0 0] 62) = V at hB4 hz2 hx2 ⊢
  generalize w2.heap.size = xb at hx2 ⊢
  obtain ⟨z0, z1, z2, z3, z4, z5, y0, y1, y2, y3, y4, y5⟩ := sixh hz2
  obtain ⟨x0, x1, xx2, x3, x4, x5, _⟩ := sixh hx2
  have HC := Lib.hid (put6h_blk (a' := .int .i64 0) (b' := .int .i64 0) (c' := .int .i64 0) (d' := .int .i64 0) (e' := .int .i64 0) (f' := .slice none 0 0) hz2)
  have HE := Lib.hid (put6h_below (B := w.heap.size) (R := w.heap.size + 1) (Nat.le_succ _) hB4 (.int .i64 0) (.int .i64 0) (.int .i64 0) (.int .i64 0) (.int .i64 0) (.slice none 0 0))
  clear hz2 hx2 hB4
  go_wp2
  obtain ⟨x0', x1', x2', x3', x4', x5', _⟩ := sixh HC.out
  refine bodyPost_ret (v := .tuple #[hrV ⟨0, 0, 0, 0, 0, none, 0, 0⟩, .bool false]) (by simp [results, Tryz.results127, go_sem, x0', x1', x2', x3', x4', x5']) rfl ⟨_, rfl, HE.out⟩
set_option maxRecDepth 100000 in
theorem hasH_any (w : World) (v : Value) (l : List Hf) (h : SeesH w v l) (hl : l.length ≤ 1048576) (f n u : Int) :
  Calls Tryz.prog 87 #[v, kp.mark f n u] w (BoolK w (l.any (sameHf f n))) := by
 have hB0 := (Below.refl w.heap.size w).alloc (Nat.le_refl _) (.cells #[.int .i64 f, .int .i64 n, .int .i64 u] 108)
 have HS := Lib.hid (findH_any _ v l (h.later hB0) hl f n u)
 unfold FindHP at HS
 have HB := Lib.hid hB0
 obtain ⟨A, c, rfl⟩ := h.form
 clear hB0 h
 unfold kp.mark at HS ⊢
 go_enter Tryz.func87, Tryz.ntmps87
 go_wp2_with fail
 refine HS.out.mono ?_
 rintro e w2 ⟨r, rfl, hB2⟩
 have HB2 := Lib.hid (HB.out.trans (hB2.mono HB.out.size))
 clear hB2
 go_wp2
 go_ret
 exact ⟨rfl, HB2.out.alloc HB2.out.size _⟩
end Go.Proofs.YtckicpnnclbkpaaGreatDoor.hf

namespace Go.Proofs.YtckicpnnclbkpaaGreatDoor.hf
open Go.ChangeShapes Go.WideShapes Go.ChangeAt Go.RowKit
open wd ow rl ok kp nb
def FitsH (w : World) (v : Value) (l : List Hf) : Prop :=
 (∀ A n c, v = .slice A n c → n ≤ c) ∧ ∀ (i : Nat) (h : Hf) (g c : Nat) (A : Option Addr) (c2 : Nat), l[i]? = some h → v = .slice (some ⟨g, 0, none⟩) l.length c → w.cell? ⟨g, i * 6 + 5, none⟩ = some (.slice A h.got.length c2) → h.got.length ≤ c2
theorem FitsH.later {w w' : World} {v : Value} {l : List Hf} (h : FitsH w v l) (hs : SeesH w v l) (hB : Below w.heap.size w w') : FitsH w' v l :=
 ⟨h.1, fun i x g c A c2 hx hv hc => by
  obtain ⟨g', c', _, _, e, hg, _⟩ := hs.at hx
  rw [hv] at e
  injection e with e1 _ _
  injection e1 with e1
  injection e1 with e1 _ _
  subst e1
  exact h.2 i x g c A c2 hx hv ((hB.cell (p := ⟨g, i * 6 + 5, none⟩) hg).symm.trans hc)⟩
theorem own_room {α : Type} {S : Shape α} {t : TypeId} {B : Nat} {w : World} {A : Option Addr} {n c : Nat} {l : List α} (h : OwnAt S t B w (.slice A n c) l) : n ≤ c := by
 rcases h.2 with ⟨e, h0⟩ | ⟨g, cap, cur, e, hb, hh, hn, hm, hs, ht⟩
 ·injection e with _ e2 _
  omega
 ·injection e with _ e2 e3
  omega
theorem OwnHs.fits {w0 w : World} {v : Value} {lr : List Hr} {l : List Hf} (h : OwnHs w0 w v lr l) : FitsH w v l := by
 refine ⟨fun A n c e => ?_, fun i x g c A c2 hx hv hc => ?_⟩
 ·subst e; exact own_room h.row.1
 ·have hi := (List.getElem?_eq_some_iff.1 hx).1
  have hr : lr[i]? = some (lr[i]'(by rw [h.len]; exact hi)) := List.getElem?_eq_getElem _
  obtain ⟨g', c', e, _, _, hcell⟩ := h.row.sees.at hr
  rw [hv] at e
  injection e with e1 _ _
  injection e1 with e1
  injection e1 with e1 _ _
  subst e1
  have h5 := hcell 5 _ rfl
  rw [show i * hrS.n + 5 = i * 6 + 5 from rfl, hc] at h5
  injection h5 with h5
  have ho := (h.got i _ x hr hx).2
  rw [show (lr[i]'(by rw [h.len]; exact hi)).v = .slice A x.got.length c2 from h5.symm] at ho
  exact own_room ho
set_option maxRecDepth 100000 in
set_option maxHeartbeats 6400000 in
theorem aho_h (w : World) (id : Int) (up : Bool) (s : ByteArray) (f : Int) (g : Value) (l : List Hf) (h : SeesH w g l) (hl : FewH l) (hft : FitsH w g l) :
  Calls Tryz.prog 64 #[nodeV id up s f g] w (BoolK w (okHfs up l)) := by
 have HS := Lib.hid h
 have HFt := Lib.hid hft
 have HLl := Lib.hid hl.2
 obtain ⟨A, c, rfl⟩ := h.form
 have hlc := hft.1 _ _ _ rfl
 have K0 := Lib.hid (Blk.new w 32 (nodeC id up s f (.slice A l.length c)))
 have BV := Lib.hid ((Below.refl w.heap.size w).alloc (Nat.le_refl _) (.cells (nodeC id up s f (.slice A l.length c)) 32))
 clear h hft
 by_cases h3 : 3 < l.length
 ·have HF := Lib.hid (hfs_many (up := up) h3)
  have h3' : (3 : Int) < (l.length : Int) := by omega
  go_enter Tryz.func64, Tryz.ntmps64
  go_wp2
  go_ret
  exact ⟨nb.ret_bool HF.out.symm, BV.out⟩
 have h3' : ¬ (3 : Int) < (l.length : Int) := by omega
 by_cases h4 : up = false ∧ 0 < l.length
 ·obtain ⟨rfl, h0⟩ := h4
  have HF := Lib.hid (hfs_down h0)
  have h0' : (0 : Int) < (l.length : Int) := by omega
  go_enter Tryz.func64, Tryz.ntmps64
  go_wp2
  go_ret
  exact ⟨nb.ret_bool HF.out.symm, BV.out⟩
 have HR := Lib.hid (hfs_rest (up := up) (l := l) (by omega) (by cases up with | true => exact .inl rfl | false => exact .inr (by have h0 : ¬ 0 < l.length := fun h0 => h4 ⟨rfl, h0⟩; omega)))
 cases up with
 | true =>
  by_cases h0 : 0 < l.length
  ·have h0' : (0 : Int) < (l.length : Int) := by omega
   clear h4
   go_enter Tryz.func64, Tryz.ntmps64
   go_upto_region 3 with (fail)
   generalize w.alloc (.cells (nodeC id true s f (.slice A l.length c)) 32) = V at K0 BV ⊢
   obtain ⟨n0, n1, n2, n3, n4, _⟩ := five5 K0.out
   go_wp2
   go_loopw [23] (fun i wr => ∃ k : Nat, k ≤ l.length ∧ i = .int .i64 k ∧ Hid (allI k (hfAt l) = true) ∧ Hid (Below V.heap.size V wr)) (fun i _ => (l.length + 1 : Nat) - (intOf i).toNat)
   case atStart => exact ⟨0, by omega, rfl, rfl, Below.refl _ _⟩
   case round =>
    obtain ⟨k, hk, rfl, HA, HB⟩ := hrel
    have HBw := Lib.hid (BV.out.trans (HB.out.mono BV.out.size))
    by_cases hkl : k < l.length
    ·have hx : l[k]? = some l[k] := List.getElem?_eq_getElem hkl
     obtain ⟨g, c', A', c2, e, hg, _, t0, t1, t2, t3, t4, t5, hsm⟩ := (HS.out.later HBw.out).at hx
     injection e with e1 e2 e3
     subst e1; clear e2; subst e3
     have hfit := (HFt.out.later HS.out HBw.out).2 k _ g c A' c2 hx rfl t5
     have HX := Lib.hid hx
     have hgl := HLl.out l[k] (List.getElem_mem hkl)
     generalize l[k] = y at HX t0 t1 t2 t3 t4 t5 hsm hgl hfit
     have hk0 : (0 : Int) ≤ (k : Int) := by omega
     have hk1 : (k : Int) < (l.length : Int) := by omega
     have hkc : k ≤ c := by omega
     have hA1 := (Below.refl wr.heap.size wr).alloc (Nat.le_refl _) (.cells #[.int .i64 y.f, .int .i64 y.n, .int .i64 y.t, .int .i64 y.u, .int .i64 y.z, .slice A' y.got.length c2] 62)
     have KY := Lib.hid (Blk.new wr 62 #[.int .i64 y.f, .int .i64 y.n, .int .i64 y.t, .int .i64 y.u, .int .i64 y.z, .slice A' y.got.length c2])
     have KN := Lib.hid ((K0.out.below HB.out K0.out.lt).below hA1 (K0.out.below HB.out K0.out.lt).lt)
     have HB1 := Lib.hid (HB.out.trans (hA1.mono HB.out.size))
     have HG := Lib.hid (hsm.later hA1)
     clear hx hsm hA1
     go_upto_region 6 with (fail)
     generalize hV : wr.alloc (.cells #[.int .i64 y.f, .int .i64 y.n, .int .i64 y.t, .int .i64 y.u, .int .i64 y.z, .slice A' y.got.length c2] 62) = W1 at KY KN HB1 HG ⊢
     generalize wr.heap.size = r at KY ⊢
     clear hV t0 t1 t2 t3 t4 t5
     have h0 := (Below.refl W1.heap.size W1).drew
     refine wp_region_held_drew (S := (fun w' : World => Blk w' r 62 #[.int .i64 y.f, .int .i64 y.n, .int .i64 y.t, .int .i64 y.u, .int .i64 y.z, .slice A' y.got.length c2] ∧ Blk w' w.heap.size 32 #[.int .i64 id, .bool true, .string s, .int .i64 f, .slice (some ⟨g, 0, none⟩) l.length c])) (by kernel_rfl) ⟨KY.out.below h0 KY.out.lt, KN.out.below h0 KN.out.lt⟩ (fun hHeld => ?_)
     clear hHeld
     have HBd := Lib.hid (HB1.out.trans (h0.mono HB1.out.size))
     have HGd := Lib.hid (HG.out.later h0)
     have KYd := Lib.hid (KY.out.below h0 KY.out.lt)
     have KNd := Lib.hid (KN.out.below h0 KN.out.lt)
     clear h0 KY KN HG HB1
     generalize W1.drew = Z at HBd HGd KYd KNd ⊢
     have hKd := And.intro KYd.out KNd.out
     refine wpAnyH_ready (rs := [0]) (by kernel_rfl) (by simp) ?_
     refine AllReadyH.cons rfl (fun K hK => ?_) AllReadyH.nil
     go_simp
     refine (irange_h _ r y A' c2 KYd.out HGd.out hgl hfit).mono ?_
     rintro e u1 ⟨rfl, hB2⟩
     have KY1 := Lib.hid (KYd.out.below hB2 KYd.out.lt)
     have KN1 := Lib.hid (KNd.out.below hB2 KNd.out.lt)
     have HB2 := Lib.hid (HBd.out.trans (hB2.mono HBd.out.size))
     clear hB2 hKd
     have hKd := And.intro KY1.out KN1.out
     refine hK.out _ _ hKd (fun hHeld => ?_)
     clear hK K hHeld
     cases hq : okHf y with
     | false =>
      have HF := Lib.hid (show okHfs true l = false from HR.out.trans (allI_bad hkl (hfAt_bad HX.out hq)))
      refine rs.w 1 29 ?_ rfl ?_ ?_
      rotate_left 1
      ·(intro w' hSw; obtain ⟨k0, k1, k2, k3, k4, k5, _⟩ := sixh hSw.1; obtain ⟨m0, m1, m2, m3, m4, _⟩ := five5 hSw.2; go_simp; try with_reducible rfl)
      simp only [rs.a, rs.b, rs.c]
      refine rs.w 2 30 ?_ rfl ?_ ?_
      rotate_left 1
      ·(intro w' hSw; obtain ⟨k0, k1, k2, k3, k4, k5, _⟩ := sixh hSw.1; obtain ⟨m0, m1, m2, m3, m4, _⟩ := five5 hSw.2; go_simp; try with_reducible rfl)
      simp only [rs.a, rs.b, rs.c]
      refine rs.skip_take (i := 3) 31 rfl (by kernel_rfl) (by kernel_rfl) (by kernel_rfl) (fun _ _ _ _ h => h) rfl (by assumption) ?_
      simp only [rs.a, rs.b, rs.c]
      refine rs.skip_take (i := 4) 32 rfl (by kernel_rfl) (by kernel_rfl) (by kernel_rfl) (fun _ _ _ _ h => h) rfl (by assumption) ?_
      simp only [rs.a, rs.b, rs.c]
      refine rs.skip_take (i := 5) 33 rfl (by kernel_rfl) (by kernel_rfl) (by kernel_rfl) (fun _ _ _ _ h => h) rfl (by assumption) ?_
      simp only [rs.a, rs.b, rs.c]
      refine rs.skip_take (i := 6) 34 rfl (by kernel_rfl) (by kernel_rfl) (by kernel_rfl) (fun _ _ _ _ h => h) rfl (by assumption) ?_
      simp only [rs.a, rs.b, rs.c]
      refine rs.skip_take (i := 7) 35 rfl (by kernel_rfl) (by kernel_rfl) (by kernel_rfl) (fun _ _ _ _ h => h) rfl (by assumption) ?_
      simp only [rs.a, rs.b, rs.c]
      refine rs.skip_take (i := 8) 36 rfl (by kernel_rfl) (by kernel_rfl) (by kernel_rfl) (fun _ _ _ _ h => h) rfl (by assumption) ?_
      simp only [rs.a, rs.b, rs.c]
      refine rs.skip_take (i := 9) 37 rfl (by kernel_rfl) (by kernel_rfl) (by kernel_rfl) (fun _ _ _ _ h => h) rfl (by assumption) ?_
      simp only [rs.a, rs.b, rs.c]
      refine rs.w 10 38 ?_ rfl ?_ ?_
      rotate_left 1
      ·(intro w' hSw; obtain ⟨k0, k1, k2, k3, k4, k5, _⟩ := sixh hSw.1; obtain ⟨m0, m1, m2, m3, m4, _⟩ := five5 hSw.2; go_simp; try with_reducible rfl)
      simp only [rs.a, rs.b, rs.c]
      refine wpAnyH_done (by kernel_rfl) ?_ _
      clear hKd
      go_wp2
      go_ret
      exact ⟨nb.ret_bool HF.out.symm, BV.out.trans (HB2.out.mono BV.out.size)⟩
     | true =>
      refine rs.w 1 29 ?_ rfl ?_ ?_
      rotate_left 1
      ·(intro w' hSw; obtain ⟨k0, k1, k2, k3, k4, k5, _⟩ := sixh hSw.1; obtain ⟨m0, m1, m2, m3, m4, _⟩ := five5 hSw.2; go_simp; try with_reducible rfl)
      simp only [rs.a, rs.b, rs.c]
      refine rs.w 2 30 ?_ rfl ?_ ?_
      rotate_left 1
      ·(intro w' hSw; obtain ⟨k0, k1, k2, k3, k4, k5, _⟩ := sixh hSw.1; obtain ⟨m0, m1, m2, m3, m4, _⟩ := five5 hSw.2; go_simp; try with_reducible rfl)
      simp only [rs.a, rs.b, rs.c]
      refine rs.w 3 31 ?_ rfl ?_ ?_
      rotate_left 1
      ·(intro w' hSw; obtain ⟨k0, k1, k2, k3, k4, k5, _⟩ := sixh hSw.1; obtain ⟨m0, m1, m2, m3, m4, _⟩ := five5 hSw.2; go_simp; try with_reducible rfl)
      simp only [rs.a, rs.b, rs.c]
      refine rs.w 4 32 ?_ rfl ?_ ?_
      rotate_left 1
      ·(intro w' hSw; obtain ⟨k0, k1, k2, k3, k4, k5, _⟩ := sixh hSw.1; obtain ⟨m0, m1, m2, m3, m4, _⟩ := five5 hSw.2; go_simp; try with_reducible rfl)
      simp only [rs.a, rs.b, rs.c]
      refine rs.w 5 33 ?_ rfl ?_ ?_
      rotate_left 1
      ·(intro w' hSw; obtain ⟨k0, k1, k2, k3, k4, k5, _⟩ := sixh hSw.1; obtain ⟨m0, m1, m2, m3, m4, _⟩ := five5 hSw.2; go_simp; try with_reducible rfl)
      simp only [rs.a, rs.b, rs.c]
      refine rs.w 6 34 ?_ rfl ?_ ?_
      rotate_left 1
      ·(intro w' hSw; obtain ⟨k0, k1, k2, k3, k4, k5, _⟩ := sixh hSw.1; obtain ⟨m0, m1, m2, m3, m4, _⟩ := five5 hSw.2; go_simp; try with_reducible rfl)
      simp only [rs.a, rs.b, rs.c]
      refine rs.w 7 35 ?_ rfl ?_ ?_
      rotate_left 1
      ·(intro w' hSw; obtain ⟨k0, k1, k2, k3, k4, k5, _⟩ := sixh hSw.1; obtain ⟨m0, m1, m2, m3, m4, _⟩ := five5 hSw.2; go_simp; try with_reducible rfl)
      simp only [rs.a, rs.b, rs.c]
      refine wpAnyH_ready (rs := [8]) (by kernel_rfl) (by simp) ?_
      refine AllReadyH.cons rfl (fun K hK => ?_) AllReadyH.nil
      go_simp
      refine (hmark_any y A' _ c2 _).mono ?_
      rintro e u2' ⟨rfl, hB3⟩
      have KY2 := Lib.hid (KY1.out.below hB3 KY1.out.lt)
      have KN2 := Lib.hid (KN1.out.below hB3 KN1.out.lt)
      have HB3 := Lib.hid (HB2.out.trans (hB3.mono HB2.out.size))
      clear hB3 hKd
      have hKd := And.intro KY2.out KN2.out
      refine hK.out _ _ hKd (fun hHeld => ?_)
      clear hK K hHeld
      refine wpAnyH_ready (rs := [9]) (by kernel_rfl) (by simp) ?_
      refine AllReadyH.cons rfl (fun K hK => ?_) AllReadyH.nil
      go_simp
      refine (hasH_any _ _ (l.take k) (seesH_first (HS.out.later (BV.out.trans (HB3.out.mono BV.out.size))) hk) (by rw [List.length_take]; omega) y.f y.n y.u).mono ?_
      rintro e u3' ⟨rfl, hB4⟩
      have KY3 := Lib.hid (KY2.out.below hB4 KY2.out.lt)
      have KN3 := Lib.hid (KN2.out.below hB4 KN2.out.lt)
      have HB4 := Lib.hid (HB3.out.trans (hB4.mono HB3.out.size))
      clear hB4 hKd
      have hKd := And.intro KY3.out KN3.out
      refine hK.out _ _ hKd (fun hHeld => ?_)
      clear hK K hHeld
      cases ha : (l.take k).any (sameHf y.f y.n) with
      | true =>
       have HF := Lib.hid (show okHfs true l = false from HR.out.trans (allI_bad hkl (hfAt_twice HX.out ha)))
       refine rs.w 10 38 ?_ rfl ?_ ?_
       rotate_left 1
       ·(intro w' hSw; obtain ⟨k0, k1, k2, k3, k4, k5, _⟩ := sixh hSw.1; obtain ⟨m0, m1, m2, m3, m4, _⟩ := five5 hSw.2; go_simp; try with_reducible rfl)
       simp only [rs.a, rs.b, rs.c]
       refine wpAnyH_done (by kernel_rfl) ?_ _
       clear hKd
       go_wp2
       go_ret
       exact ⟨nb.ret_bool HF.out.symm, BV.out.trans (HB4.out.mono BV.out.size)⟩
      | false =>
       have HA2 := Lib.hid (allI_on HA.out (hfAt_ok HX.out hq ha))
       refine rs.w 10 38 ?_ rfl ?_ ?_
       rotate_left 1
       ·(intro w' hSw; obtain ⟨k0, k1, k2, k3, k4, k5, _⟩ := sixh hSw.1; obtain ⟨m0, m1, m2, m3, m4, _⟩ := five5 hSw.2; go_simp; try with_reducible rfl)
       simp only [rs.a, rs.b, rs.c]
       refine wpAnyH_done (by kernel_rfl) ?_ _
       clear hKd
       go_wp2
       go_roundw
       case rel => exact ⟨k + 1, by omega, by go_num, HA2.out, HB4.out⟩
       case measure => simp [intOf]; omega
    ·obtain rfl : k = l.length := by omega
     have HF := Lib.hid (show okHfs true l = true from HR.out.trans HA.out)
     go_wp2
     go_ret
     exact ⟨nb.ret_bool HF.out.symm, HBw.out⟩
  ·have h0' : ¬ (0 : Int) < (l.length : Int) := by omega
   have HF := Lib.hid (show okHfs true l = true by rw [HR.out, show l.length = 0 by omega]; rfl)
   clear h4
   go_enter Tryz.func64, Tryz.ntmps64
   go_wp2
   go_loopw [23] (fun i wr => i = .int .i64 0 ∧ Below w.heap.size w wr) (fun _ _ => 0)
   case atStart => exact ⟨rfl, BV.out⟩
   case round =>
    obtain ⟨rfl, hBr⟩ := hrel
    go_wp2
    go_ret
    exact ⟨nb.ret_bool HF.out.symm, hBr⟩
 | false =>
  have h0 : ¬ 0 < l.length := fun h0 => h4 ⟨rfl, h0⟩
  have h0' : ¬ (0 : Int) < (l.length : Int) := by omega
  have HF := Lib.hid (show okHfs false l = true by rw [HR.out, show l.length = 0 by omega]; rfl)
  clear h4
  go_enter Tryz.func64, Tryz.ntmps64
  go_wp2
  go_loopw [23] (fun i wr => i = .int .i64 0 ∧ Below w.heap.size w wr) (fun _ _ => 0)
  case atStart => exact ⟨rfl, BV.out⟩
  case round =>
   obtain ⟨rfl, hBr⟩ := hrel
   go_wp2
   go_ret
   exact ⟨nb.ret_bool HF.out.symm, hBr⟩
end Go.Proofs.YtckicpnnclbkpaaGreatDoor.hf

