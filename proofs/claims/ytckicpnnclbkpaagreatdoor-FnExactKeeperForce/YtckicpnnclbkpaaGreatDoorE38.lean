/-
  Merged texts: SHfCopy, ShForce, HfMark.
-/
import Derived.Test.YtckicpnnclbkpaaGreatDoorE9
import Derived.Test.YtckicpnnclbkpaaGreatDoorE18
namespace Go.Proofs.YtckicpnnclbkpaaGreatDoor.hf
open Go.ChangeShapes Go.WideShapes Go.ChangeAt Go.RowKit
open wd ow rl ok kp nb
theorem half_mixed {B B' : Nat} {W : World} {v u : Value} {l : List Hr} {l2 : List Mb} (h1 : OwnAt hrS 62 B W v l) (h2 : OwnAt mbS 97 B' W u l2) : Apart v u := by
 intro b p q
 rcases h1.2 with ⟨rfl, _⟩ | ⟨g, cap, cur, rfl, _, hh, _⟩
 ·cases p
 ·rcases h2.2 with ⟨rfl, _⟩ | ⟨g', cap', cur', rfl, _, hh', _⟩
  ·cases q
  ·injection p with p
   injection q with q
   subst p
   subst q
   rw [hh] at hh'
   injection hh' with hh'
   injection hh' with _ ht
   exact absurd ht (by decide)
structure CpS (w wr : World) (nc : Array Value) (v : Value) (l : List Hf) (lr : List Hr) : Prop where
 box : Blk wr w.heap.size 32 nc
 res : Blk wr (w.heap.size + 1) 32 #[.int .i64 0, .bool false, .string ⟨#[]⟩, .int .i64 0, .slice none 0 0]
 bel : Below w.heap.size w wr
 row : OwnAt hrS 62 (w.heap.size + 2) wr v lr
 got : ∀ (i : Nat) (r : Hr) (h : Hf), lr[i]? = some r → l[i]? = some h → Nums6 r h ∧ OwnAt mbS 97 (w.heap.size + 2) wr r.v h.got
theorem CpS.later {w wr w2 : World} {nc : Array Value} {v : Value} {l : List Hf} {lr : List Hr} (M : CpS w wr nc v l lr) (hB : Below wr.heap.size wr w2) : CpS w w2 nc v l lr :=
 ⟨M.box.below hB M.box.lt, M.res.below hB M.res.lt, M.bel.trans (hB.mono M.bel.size), M.row.later hB, fun i r h hr hh => ⟨(M.got i r h hr hh).1, (M.got i r h hr hh).2.later hB⟩⟩
theorem CpS.app {w W w6 : World} {nc : Array Value} {v v' : Value} {l : List Hf} {lr : List Hr} {r : Hr} {h : Hf} (M : CpS w W nc v l lr) (hx : l[lr.length]? = some h) (hn : Nums6 r h)
  (hO : OwnAt mbS 97 (w.heap.size + 2) W r.v h.got) (hown : OwnAt hrS 62 (w.heap.size + 2) w6 v' (lr ++ [r])) (hg : W.grownBy w6 v.ownBlock) : CpS w w6 nc v' l (lr ++ [r]) := by
 have hk : ∀ b, b < W.heap.size → b < w.heap.size + 2 → w6.heap[b]? = W.heap[b]? := fun b h1 h2 => hg.block b h1 (fun e => by have := (M.row.lt e.symm).1; omega)
 have keep : ∀ {u : Value} {t : List Mb}, OwnAt mbS 97 (w.heap.size + 2) W u t → OwnAt mbS 97 (w.heap.size + 2) w6 u t := fun {u t} ho => ho.same (fun b hb => hg.block b (ho.lt hb).2 (fun e => half_mixed M.row ho b e.symm hb))
 refine ⟨(hk _ M.box.lt (by omega)).trans M.box, (hk _ M.res.lt (by omega)).trans M.res, M.bel.trans ⟨hg.os, hg.tape, hg.output, hg.size, fun b hb => hk b (Nat.lt_of_lt_of_le hb M.bel.size) (by omega)⟩, hown, fun i r' x hr hh => ?_⟩
 by_cases hi : i < lr.length
 ·rw [List.getElem?_append_left hi] at hr
  exact ⟨(M.got i r' x hr hh).1, keep (M.got i r' x hr hh).2⟩
 ·rw [List.getElem?_append_right (by omega)] at hr
  have hi0 : i - lr.length = 0 := by
   rcases Nat.eq_zero_or_pos (i - lr.length) with e | e
   ·exact e
   ·rw [List.getElem?_eq_none (by simp; omega)] at hr; cases hr
  rw [hi0] at hr
  simp at hr
  subst hr
  obtain rfl : i = lr.length := by omega
  rw [hx] at hh
  injection hh with hh
  subst hh
  exact ⟨hn, keep hO⟩
theorem CpS.put4 {w wr : World} {id : Int} {up : Bool} {s : ByteArray} {f : Int} {g v : Value} {l : List Hf} {lr : List Hr} (M : CpS w wr (nodeC id up s f g) v l lr) (x : Value) : CpS w (wr.setCell ⟨w.heap.size, 4, none⟩ x) (nodeC id up s f x) v l lr :=
 ⟨M.box.put 4 x, M.res.far (p := ⟨w.heap.size, 4, none⟩) (by show w.heap.size + 1 ≠ w.heap.size; omega) _, M.bel.setCell (p := ⟨w.heap.size, 4, none⟩) (Nat.le_refl _) _, M.row.set (p := ⟨w.heap.size, 4, none⟩) (by show w.heap.size < w.heap.size + 2; omega) _, fun i r h hr hh => ⟨(M.got i r h hr hh).1, (M.got i r h hr hh).2.set (p := ⟨w.heap.size, 4, none⟩) (by show w.heap.size < w.heap.size + 2; omega) _⟩⟩
theorem own_put5n {α : Type} {S : Shape α} {t : TypeId} {B R : Nat} {W : World} {v : Value} {l : List α} (h : OwnAt S t B W v l) (hR : R < B) (a b c d e : Value) : OwnAt S t B (put5n W R a b c d e) v l :=
 ((((h.set (p := ⟨R, 0, none⟩) hR a).set (p := ⟨R, 1, none⟩) hR b).set (p := ⟨R, 2, none⟩) hR c).set (p := ⟨R, 3, none⟩) hR d).set (p := ⟨R, 4, none⟩) hR e
structure LooseH (B : Nat) (w : World) (v : Value) (lr : List Hr) (l : List Hf) : Prop where
 row : OwnAt hrS 62 B w v lr
 len : lr.length = l.length
 got : ∀ (i : Nat) (r : Hr) (h : Hf), lr[i]? = some r → l[i]? = some h → Nums6 r h ∧ OwnAt mbS 97 B w r.v h.got
theorem LooseH.sees {B : Nat} {w : World} {v : Value} {lr : List Hr} {l : List Hf} (h : LooseH B w v lr l) : SeesH w v l :=
 ⟨lr, h.row.sees, h.len, fun i r x hr hx => ⟨(h.got i r x hr hx).1, (h.got i r x hr hx).2.sees⟩⟩
theorem LooseH.put5 {B R : Nat} {w : World} {v : Value} {lr : List Hr} {l : List Hf} (M : LooseH B w v lr l) (hR : R < B) (a b c d e : Value) : LooseH B (put5n w R a b c d e) v lr l :=
 ⟨own_put5n M.row hR a b c d e, M.len, fun i r h hr hh => ⟨(M.got i r h hr hh).1, own_put5n (M.got i r h hr hh).2 hR a b c d e⟩⟩
theorem LooseH.later {B : Nat} {w w' : World} {v : Value} {lr : List Hr} {l : List Hf} (M : LooseH B w v lr l) (hB : Below w.heap.size w w') : LooseH B w' v lr l :=
 ⟨M.row.later hB, M.len, fun i r h hr hh => ⟨(M.got i r h hr hh).1, (M.got i r h hr hh).2.later hB⟩⟩
theorem CpS.loose {w wr : World} {nc : Array Value} {v : Value} {l : List Hf} {lr : List Hr} (M : CpS w wr nc v l lr) (hl : lr.length = l.length) (a b c d e : Value) : LooseH w.heap.size (put5n wr (w.heap.size + 1) a b c d e) v lr l :=
 ⟨(own_put5n M.row (by omega) a b c d e).down (by omega), hl, fun i r h hr hh => ⟨(M.got i r h hr hh).1, (own_put5n (M.got i r h hr hh).2 (by omega) a b c d e).down (by omega)⟩⟩
def CopyS (w : World) (id : Int) (up : Bool) (s : ByteArray) (f : Int) (l : List Hf) (e : Ending) (w' : World) : Prop :=
 ∃ v lr, e = .returned (nodeV id up s f v) ∧ LooseH w.heap.size w' v lr l ∧ Below w.heap.size w w'
set_option maxRecDepth 100000 in
set_option maxHeartbeats 3200000 in
theorem scopyN_any (w : World) (id : Int) (up : Bool) (s : ByteArray) (f : Int) (g : Value) (l : List Hf) (h : SeesH w g l) (hl : FewH l) :
  Calls Tryz.prog 46 #[nodeV id up s f g] w (CopyS w id up s f l) := by
 obtain ⟨i0, hi, hz0, hz1, hz2⟩ := info_parts infoHf
 obtain ⟨j0, hj, hy0, hy1, hy2⟩ := info_parts infoMb
 obtain ⟨A, c, rfl⟩ := h.form
 have HS := Lib.hid h
 have HL := Lib.hid hl
 have hll : l.length ≤ 1048576 := hl.1
 have k0 := (Blk.new w 32 (nodeC id up s f (.slice A l.length c))).alloc (.cells (nodeC 0 false ⟨#[]⟩ 0 (.slice none 0 0)) 32)
 have r0 := Blk.new (w.alloc (.cells (nodeC id up s f (.slice A l.length c)) 32)) 32 (nodeC 0 false ⟨#[]⟩ 0 (.slice none 0 0))
 simp only [World.size_alloc] at r0
 have b0 := ((Below.refl w.heap.size w).alloc (Nat.le_refl _) (.cells (nodeC id up s f (.slice A l.length c)) 32)).alloc (by simp) (.cells (nodeC 0 false ⟨#[]⟩ 0 (.slice none 0 0)) 32)
 have z0 : w.heap.size + 2 ≤ ((w.alloc (.cells (nodeC id up s f (.slice A l.length c)) 32)).alloc (.cells (nodeC 0 false ⟨#[]⟩ 0 (.slice none 0 0)) 32)).heap.size := by simp
 clear h hl
 go_enter Tryz.func46, Tryz.ntmps46
 go_upto_region 1 with (fail)
 generalize (w.alloc (.cells (nodeC id up s f (.slice A l.length c)) 32)).alloc (.cells (nodeC 0 false ⟨#[]⟩ 0 (.slice none 0 0)) 32) = V at k0 r0 b0 z0 ⊢
 have hA := (Below.refl V.heap.size V).alloc (Nat.le_refl _) (.cells #[] 62)
 have M0 := Lib.hid (show CpS w (V.alloc (.cells #[] 62)) (nodeC id up s f (.slice A l.length c)) (.slice (some ⟨V.heap.size, 0, none⟩) 0 0) l [] from ⟨k0.alloc _, r0.alloc _, b0.alloc b0.size _, ownAt_new (S := hrS) V z0, fun i r x hr => by simp at hr⟩)
 clear k0 r0 b0 z0 hA
 go_wp2
 go_loopw [3, 4] (fun v i wr => ∃ (j : Nat) (lr : List Hr), j ≤ l.length ∧ i = .int .i64 j ∧ lr.length = j ∧ Hid (CpS w wr (nodeC id up s f (.slice A l.length c)) v l lr)) (fun _ i _ => (l.length + 1 : Nat) - (intOf i).toNat)
 case atStart => exact ⟨0, [], by omega, rfl, rfl, M0.out⟩
 case round =>
  clear M0
  obtain ⟨j, lr, hj', rfl, hlr, HM⟩ := hrel
  have HLR := Lib.hid hlr
  clear hlr
  obtain ⟨Av, cv, rfl⟩ := OwnAt.form HM.out.row
  obtain ⟨_, _, _, _, n4, _⟩ := five5 HM.out.box
  by_cases hjl : j < l.length
  ·have hx : l[j]? = some l[j] := List.getElem?_eq_getElem hjl
   obtain ⟨g, c', A', c2, e, hg, _, t0, t1, t2, t3, t4, t5, hsm⟩ := (HS.out.later HM.out.bel).at hx
   injection e with e1 e2 e3
   subst e1; clear e2; subst e3
   have hgl := HL.out.2 l[j] (List.getElem_mem hjl)
   have HX := Lib.hid hx
   generalize l[j] = y at HX t0 t1 t2 t3 t4 t5 hsm hgl
   have hk0 : (0 : Int) ≤ (j : Int) := by omega
   have hk1 : (j : Int) < (l.length : Int) := by omega
   clear hx
   go_upto_region 6 with (fail)
   have hW1 := (Below.refl wr.heap.size wr).alloc (Nat.le_refl _) (.cells #[.int .i64 y.f, .int .i64 y.n, .int .i64 y.t, .int .i64 y.u, .int .i64 y.z, .slice A' y.got.length c2] 62)
   have KY := Lib.hid (Blk.new wr 62 #[.int .i64 y.f, .int .i64 y.n, .int .i64 y.t, .int .i64 y.u, .int .i64 y.z, .slice A' y.got.length c2])
   have HSm := Lib.hid (hsm.later hW1)
   have HBr := Lib.hid hW1
   clear hW1 hsm t0 t1 t2 t3 t4 t5 n4
   generalize wr.alloc (.cells #[.int .i64 y.f, .int .i64 y.n, .int .i64 y.t, .int .i64 y.u, .int .i64 y.z, .slice A' y.got.length c2] 62) = W1 at KY HSm HBr ⊢
   obtain ⟨x0, x1, x2, x3, x4, x5, _⟩ := sixh KY.out
   have lt1 := KY.out.lt
   have PA1 := SeesR.part (HSm.out.later ((Below.refl _ W1).alloc (Nat.le_refl _) (.cells #[] 97)))
   have ON1 := ownAt_new (S := mbS) (t := 97) (B := W1.heap.size) W1 (Nat.le_refl _)
   go_wp2_with (at_builtin; refine wpList_append_recs mbS (by decide) rfl _ _ 60 rfl W1.heap.size 97 j0 _ 24 Tryz.underlying60 hj hy0 hy1 hy2 rfl _ 0 [] rfl ON1 A' _ c2 y.got rfl rfl PA1 ?e3 ?e4 ?e5 ?_)
   case e3 => unfold maxLen; omega
   case e4 => omega
   case e5 => simp
   intro v1 w3 hown hgrow
   have O1 : OwnAt mbS 97 W1.heap.size w3 v1 y.got := hown
   have hB3 := ((Below.refl W1.heap.size W1).alloc (Nat.le_refl _) (.cells #[] 97)).trans (OwnAt.below ON1 hgrow (by simp))
   have KY3 := KY.out.below hB3 KY.out.lt
   obtain ⟨A1, c1, e1⟩ := OwnAt.form O1
   subst e1
   have KY4 := Lib.hid (show Blk (w3.setCell ⟨wr.heap.size, 5, none⟩ (.slice A1 y.got.length c1)) wr.heap.size 62 #[.int .i64 y.f, .int .i64 y.n, .int .i64 y.t, .int .i64 y.u, .int .i64 y.z, .slice A1 y.got.length c1] from KY3.put 5 _)
   have O4 := Lib.hid (O1.set (p := ⟨wr.heap.size, 5, none⟩) lt1 (.slice A1 y.got.length c1))
   have M4 := Lib.hid (HM.out.later ((HBr.out.trans (hB3.mono HBr.out.size)).setCell (p := ⟨wr.heap.size, 5, none⟩) (Nat.le_refl _) (.slice A1 y.got.length c1)))
   have HW := Lib.hid (show w.heap.size + 2 ≤ W1.heap.size by have := HM.out.res.lt; have := HBr.out.size; omega)
   clear x0 x1 x2 x3 x4 x5 hown hgrow ON1 PA1 O1 hB3 KY HSm HM HBr
   obtain ⟨_, _, _, _, _, x5, _, _, _, _, _, f5⟩ := sixh KY3
   go_upto_region 7 with (fail)
   clear x5 f5 KY3 lt1
   generalize w3.setCell ⟨wr.heap.size, 5, none⟩ (.slice A1 y.got.length c1) = W4 at KY4 O4 M4 ⊢
   generalize wr.heap.size = r1 at KY4 ⊢
   obtain ⟨x0, x1, x2, x3, x4, x5, _⟩ := sixh KY4.out
   have hA5 := (Below.refl W4.heap.size W4).alloc (Nat.le_refl _) (.cells #[.int .i64 y.f, .int .i64 y.n, .int .i64 y.t, .int .i64 y.u, .int .i64 y.z, .slice A1 y.got.length c1] 62)
   have M5 := M4.out.later hA5
   have O5 := (O4.out.later hA5).down HW.out
   have R5 := M5.row
   have PA : PartR hrS (W4.alloc (.cells #[.int .i64 y.f, .int .i64 y.n, .int .i64 y.t, .int .i64 y.u, .int .i64 y.z, .slice A1 y.got.length c1] 62)) (some ⟨W4.heap.size, 0, none⟩) 1 [⟨y.f, y.n, y.t, y.u, y.z, A1, y.got.length, c1⟩] := .inr ⟨W4.heap.size, 0, rfl, fun q u hu => by
    have hb := (Blk.new W4 62 #[.int .i64 y.f, .int .i64 y.n, .int .i64 y.t, .int .i64 y.u, .int .i64 y.z, .slice A1 y.got.length c1]).cell q
    rw [Nat.zero_add, hb]
    have hu' : (hrF ⟨y.f, y.n, y.t, y.u, y.z, A1, y.got.length, c1⟩)[q]? = some u := by simpa [hrS] using hu
    simpa [hrF] using hu'⟩
   have hlr2 : lr.length ≤ 1048576 := by rw [HLR.out]; omega
   have hres := M4.out.res.lt
   go_wp2_with (at_builtin; refine wpList_append_recs hrS (by decide) rfl _ _ 30 rfl (w.heap.size + 2) 62 i0 _ 64 Tryz.underlying30 hi hz0 hz1 hz2 rfl _ lr.length (lr.flatMap hrS.f) rfl R5 _ _ _ [⟨y.f, y.n, y.t, y.u, y.z, A1, y.got.length, c1⟩] rfl rfl PA ?e3 ?e4 ?e5 ?_)
   case e3 => show lr.length + 1 ≤ maxLen; unfold maxLen; omega
   case e4 => show (lr.length + 1) * 64 ≤ _; omega
   case e5 => simp; omega
   intro v' w6 hown hgrow
   have hown' : OwnAt hrS 62 (w.heap.size + 2) w6 v' (lr ++ [⟨y.f, y.n, y.t, y.u, y.z, A1, y.got.length, c1⟩]) := by
    unfold OwnAt
    rw [List.length_append, List.flatMap_append]
    exact hown
   have M6 := Lib.hid (M5.app (h := y) (by rw [HLR.out]; exact HX.out) ⟨rfl, rfl, rfl, rfl, rfl⟩ O5 hown' hgrow)
   clear x0 x1 x2 x3 x4 x5 hA5 M5 O5 R5 PA hres hown hown' hgrow KY4 O4 M4
   go_wp2
   go_roundw
   case rel => exact ⟨j + 1, _, by omega, by go_num, by rw [List.length_append, HLR.out]; rfl, M6.out⟩
   case measure => simp [intOf]; omega
  ·obtain rfl : j = l.length := by omega
   have f4 := HM.out.box.frozen 4
   have M2 := Lib.hid (HM.out.put4 (.slice Av lr.length cv))
   go_upto_region 9 with (fail)
   clear n4 f4 HM
   generalize wr.setCell ⟨w.heap.size, 4, none⟩ (.slice Av lr.length cv) = W2 at M2 ⊢
   obtain ⟨p0, p1, p2, p3, p4, _⟩ := five5 M2.out.box
   obtain ⟨r0, r1, r2, r3, r4, g0, g1, g2, g3, g4⟩ := five5 M2.out.res
   have HC := Lib.hid (put5n_blk (a' := .int .i64 id) (b' := .bool up) (c' := .string s) (d' := .int .i64 f) (e' := .slice Av lr.length cv) M2.out.res)
   have HE := Lib.hid (put5n_below (B := w.heap.size) (R := w.heap.size + 1) (Nat.le_succ _) M2.out.bel (.int .i64 id) (.bool up) (.string s) (.int .i64 f) (.slice Av lr.length cv))
   have HA := Lib.hid (M2.out.loose HLR.out (.int .i64 id) (.bool up) (.string s) (.int .i64 f) (.slice Av lr.length cv))
   go_wp2
   obtain ⟨x0, x1, x2, x3, x4, _⟩ := five5 HC.out
   refine bodyPost_ret (v := nodeV id up s f (.slice Av lr.length cv)) (by simp [results, Tryz.results46, go_sem, x0, x1, x2, x3, x4]) rfl ⟨_, _, rfl, HA.out, HE.out⟩
end Go.Proofs.YtckicpnnclbkpaaGreatDoor.hf

namespace Go.Proofs.YtckicpnnclbkpaaGreatDoor.sh
open Go.ChangeShapes Go.WideShapes Go.ChangeAt Go.RowKit
open wd
theorem sforce_of (Ev : World → Prop) (hEv : ∀ V V' : World, Ev V → Below V.heap.size V V' → Ev V') (s : ByteArray) (f : Int) (HOK : ∀ V, Ev V → Calls Tryz.prog 29 #[shv s f] V (BoolPost V (okSh s f))) (w : World) (hw : Ev w) :
  Calls Tryz.prog 47 #[shv s f] w (ShPost w (forceS s f) (forceF s f)) := by
 have hT := Two.new w s f
 have H := Lib.hid HOK
 clear HOK
 go_enter Tryz.func47, Tryz.ntmps47
 go_wp2_with fail
 generalize (w.alloc (.cells #[.string s, .int .i64 f] 29)).alloc (.cells #[.string ⟨#[]⟩, .int .i64 0] 29) = V at hT ⊢
 have hE := hEv _ _ hw hT.bel
 refine (H.out _ hE).mono ?_
 rintro e V1 ⟨rfl, hB⟩
 have hT1 := hT.later hB
 obtain ⟨a0, a1, r0, r1, f0, f1⟩ := hT1.cells
 have HT := Lib.hid hT1
 clear hT hT1 hB
 by_cases hok : okSh s f = true
 ·have HF : Hid (forceS s f = s ∧ forceF s f = (s.size : Nat)) := ⟨by simp [forceS, hok], by simp [forceF, hok]⟩
  rw [hok]
  go_wp2
  obtain ⟨c0, c1, hB⟩ := HT.out.put s (s.size : Nat)
  exact bodyPost_ret (v := shv s (s.size : Nat)) (by simp [results, Tryz.results47, go_sem, c0, c1]) rfl ⟨by rw [HF.out.1, HF.out.2], hB⟩
 ·have hok' : okSh s f = false := by simpa using hok
  have HF : Hid (forceS s f = ⟨#[]⟩ ∧ forceF s f = 0) := ⟨by simp [forceS, hok'], by simp [forceF, hok']⟩
  rw [hok']
  go_wp2
  obtain ⟨c0, c1, hB⟩ := HT.out.put ⟨#[]⟩ 0
  exact bodyPost_ret (v := shv ⟨#[]⟩ 0) (by simp [results, Tryz.results47, go_sem, c0, c1]) rfl ⟨by rw [HF.out.1, HF.out.2], hB⟩
theorem iforce_of (Ev : World → Prop) (hEv : ∀ V V' : World, Ev V → Below V.heap.size V V' → Ev V') (s : ByteArray) (f : Int) (HOK : ∀ V, Ev V → Calls Tryz.prog 63 #[shv s f] V (BoolPost V (okSh s f))) (w : World) (hw : Ev w) :
  Calls Tryz.prog 76 #[shv s f] w (ShPost w (forceS s f) (forceF s f)) := by
 have hT := Two.new w s f
 have H := Lib.hid HOK
 clear HOK
 go_enter Tryz.func76, Tryz.ntmps76
 go_wp2_with fail
 generalize (w.alloc (.cells #[.string s, .int .i64 f] 29)).alloc (.cells #[.string ⟨#[]⟩, .int .i64 0] 29) = V at hT ⊢
 have hE := hEv _ _ hw hT.bel
 refine (H.out _ hE).mono ?_
 rintro e V1 ⟨rfl, hB⟩
 have hT1 := hT.later hB
 obtain ⟨a0, a1, r0, r1, f0, f1⟩ := hT1.cells
 have HT := Lib.hid hT1
 clear hT hT1 hB
 by_cases hok : okSh s f = true
 ·have HF : Hid (forceS s f = s ∧ forceF s f = (s.size : Nat)) := ⟨by simp [forceS, hok], by simp [forceF, hok]⟩
  rw [hok]
  go_wp2
  obtain ⟨c0, c1, hB⟩ := HT.out.put s (s.size : Nat)
  exact bodyPost_ret (v := shv s (s.size : Nat)) (by simp [results, Tryz.results76, go_sem, c0, c1]) rfl ⟨by rw [HF.out.1, HF.out.2], hB⟩
 ·have hok' : okSh s f = false := by simpa using hok
  have HF : Hid (forceS s f = ⟨#[]⟩ ∧ forceF s f = 0) := ⟨by simp [forceS, hok'], by simp [forceF, hok']⟩
  rw [hok']
  go_wp2
  obtain ⟨c0, c1, hB⟩ := HT.out.put ⟨#[]⟩ 0
  exact bodyPost_ret (v := shv ⟨#[]⟩ 0) (by simp [results, Tryz.results76, go_sem, c0, c1]) rfl ⟨by rw [HF.out.1, HF.out.2], hB⟩
end Go.Proofs.YtckicpnnclbkpaaGreatDoor.sh

namespace Go.Proofs.YtckicpnnclbkpaaGreatDoor.hf
open Go.ChangeShapes Go.WideShapes Go.ChangeAt Go.RowKit
open wd ow rl ok kp sl
def mbM (x : Int) : Mb := (x, mt (x + 1).toNat)
def mbMs (x : Int) (n : Nat) : List Mb := (List.range n).map fun i : Nat => mbM (x + 2 * i)
theorem mbMs_len (x : Int) (n : Nat) : (mbMs x n).length = n := by simp [mbMs]
theorem mbMs_at {x : Int} {n i : Nat} (h : i < n) : (mbMs x n)[i]? = some (mbM (x + 2 * i)) := by simp [mbMs, h]
def MarkedB (w : World) (v : Value) (B n : Nat) (x : Int) (e : Ending) (w' : World) : Prop := e = .returned (.int .i64 (x + 2 * n)) ∧ OwnAt mbS 97 B w' v (mbMs x n) ∧ w.grownBy w' v.ownBlock
set_option maxRecDepth 100000 in
set_option maxHeartbeats 1600000 in
theorem markB_any {w : World} {v : Value} {B : Nat} {l : List Mb} (h : OwnAt mbS 97 B w v l) (x : Int) (hx : 1 ≤ x) (hn : x + 2 * l.length < 100000000) :
  Calls Tryz.prog 73 #[v, .int .i64 x] w (MarkedB w v B l.length x) := by
 obtain ⟨n, hN⟩ : ∃ n, n = l.length := ⟨_, rfl⟩
 rw [← hN] at hn ⊢
 rcases h.2 with ⟨rfl, h0⟩ | ⟨g, cap, cur, rfl, hb, hh, hnc, hm, hs, _⟩
 ·obtain rfl : n = 0 := by omega
  clear h h0 hN
  go_enter Tryz.func73, Tryz.ntmps73
  go_wp2
  go_loop [1, 5] (fun a i => i = .int .i64 0 ∧ a = .int .i64 x) (fun _ _ => 0)
  case atStart => exact ⟨rfl, rfl⟩
  case round =>
   obtain ⟨rfl, rfl⟩ := hrel
   go_wp2
   go_ret
   exact ⟨by simp, World.ownsRow_nil _ _ _ _, grown_refl _ _⟩
 ·rw [← hN] at hnc ⊢
  have HR := Lib.hid (show Fill mbS 97 g cap (mbMs x n) 0 w from ⟨cur, hh, hs, fun i y hi => absurd hi (by omega)⟩)
  have HG := Lib.hid hb
  have hm' : cap ≤ 9223372036854775807 := hm
  have HM := Lib.hid hm
  clear h hh hs hb hN hm
  go_enter Tryz.func73, Tryz.ntmps73
  go_wp2
  go_loopw [1, 5] (fun a i wr => ∃ (j : Nat) (y : Int), j ≤ n ∧ i = .int .i64 j ∧ a = .int .i64 y ∧ Hid (y = x + 2 * j) ∧ 1 ≤ y ∧ y + 2 * (n - j : Nat) < 100000000 ∧ Hid (Fill mbS 97 g cap (mbMs x n) j wr) ∧ Hid (w.grownBy wr (some g))) (fun _ i _ => (n + 1 : Nat) - (intOf i).toNat)
  case atStart => exact ⟨0, x, by omega, rfl, rfl, by show x = x + 2 * ((0 : Nat) : Int); omega, hx, by omega, HR.out, grown_refl _ _⟩
  case round =>
   obtain ⟨j, y, hj, rfl, rfl, HY, y0, y1, HF, HW⟩ := hrel
   clear HR
   by_cases hjn : j < n
   ·have hP0 := FillP.of HF.out
    have ha : (mbMs x n)[j]? = some (mbM y) := by rw [mbMs_at hjn, HY.out]
    have hjc : j < cap := by omega
    have hP1 := Lib.hid (hP0.set (m := 0) hjc (by decide) ha (u := .int .i64 y) rfl)
    have hW1 := Lib.hid (grown_put HW.out (j * 2) (.int .i64 y))
    obtain ⟨⟨x0, c0⟩, f0⟩ := hP0.cell hjc (j := 0) (by decide)
    change wr.cell? ⟨g, j * 2, none⟩ = _ at c0
    change wr.frozen? ⟨g, j * 2, none⟩ = _ at f0
    have HA := Lib.hid ha
    have hj1 : (j : Int) < (n : Int) := by omega
    clear hP0 ha
    go_wp2_with fail
    refine (mark_int (y + 1) (by omega) (by omega) _).mono ?_
    rintro e w2 ⟨rfl, hB2⟩
    have hP5 := hP1.out.later hB2
    have R := Lib.hid (FillP.done (hP5.set (m := 1) hjc (by decide) HA.out (u := .string (mt (y + 1).toNat)) rfl))
    have HW5 := Lib.hid (grown_put (grown_on hW1.out hB2) (j * 2 + 1) (.string (mt (y + 1).toNat)))
    have HY2 := Lib.hid (show y + 1 + 1 = x + 2 * ((j + 1 : Nat) : Int) by have := HY.out; omega)
    obtain ⟨⟨x4, c4⟩, f4⟩ := hP5.cell hjc (j := 1) (by decide)
    change w2.cell? ⟨g, j * 2 + 1, none⟩ = _ at c4
    change w2.frozen? ⟨g, j * 2 + 1, none⟩ = _ at f4
    clear hP5 hP1 hW1 hB2 HF HW c0 f0 HA
    generalize mt (y + 1).toNat = txt at R HW5 ⊢
    go_wp2
    go_roundw
    case rel => exact ⟨j + 1, y + 1 + 1, by omega, by go_num, rfl, HY2.out, by omega, by omega, R.out, HW5.out⟩
    case measure => simp [intOf]; omega
   ·obtain rfl : j = n := by omega
    have R := Lib.hid (Fill.ownAt (B := B) (l := mbMs x j) (by rw [mbMs_len]; exact HF.out) HG.out (by rw [mbMs_len]; exact hnc) HM.out)
    rw [mbMs_len] at R
    go_wp2
    go_ret
    exact ⟨ow.ret_int HY.out, R.out, HW.out⟩
def hfM (x : Int) (n : Nat) : Hf := ⟨x, x + 1, x + 1 + 1, x + 1 + 1 + 1, x + 1 + 1 + 1 + 1, mbMs (x + 1 + 1 + 1 + 1 + 1) n⟩
def hfMs (x : Int) : List Hf → List Hf
 | [] => []
 | h :: l => hfM x h.got.length :: hfMs (x + 5 + 2 * h.got.length) l
theorem hfMs_len : ∀ (l : List Hf) (x : Int), (hfMs x l).length = l.length
 | [], _ => rfl
 | h :: l, x => by simp [hfMs, hfMs_len l]
theorem hfMs_at : ∀ {l : List Hf} {k : Nat} {h : Hf} {x : Int}, l[k]? = some h → (hfMs x l)[k]? = some (hfM (x + 5 * k + 2 * gotN (l.take k)) h.got.length)
 | [], _, _, _, hh => by simp at hh
 | a :: l, 0, h, x, hh => by simp at hh; subst hh; simp [hfMs, gotN]
 | a :: l, k + 1, h, x, hh => by
  simp only [List.getElem?_cons_succ] at hh
  have := hfMs_at (x := x + 5 + 2 * a.got.length) hh
  simp only [hfMs, List.getElem?_cons_succ, List.take_succ_cons, gotN]
  rw [this]
  congr 2
  omega
theorem gotN_le : ∀ (l : List Hf) (k : Nat), gotN (l.take k) ≤ gotN l
 | [], k => by simp [gotN]
 | a :: l, 0 => by simp [gotN]
 | a :: l, k + 1 => by have := gotN_le l k; simp only [List.take_succ_cons, gotN]; omega
section
variable {α : Type} {S : Shape α} {t : TypeId} {B g n c : Nat} {w : World} {lr : List α} {k : Nat} {r r' : α}
theorem own_blk (h : OwnAt S t B w (.slice (some ⟨g, 0, none⟩) n c) lr) : ∃ cur, Blk w g t cur ∧ cur.size = c * S.n ∧ lr.length ≤ c ∧ c ≤ maxLen ∧ B ≤ g ∧ ∀ i y, lr[i]? = some y → ∀ j v, (S.f y)[j]? = some v → cur[i * S.n + j]? = some v := by
 rcases h.2 with ⟨e, _⟩ | ⟨g', cap, cur, e, hb, hh', hn, hmm, hs, ht⟩
 ·cases e
 ·injection e with e1 e2 e3
  injection e1 with e1
  injection e1 with e1 _ _
  subst e1; subst e3; subst e2
  refine ⟨cur, hh', hs, hn, hmm, hb, fun i y hy j v hv => ?_⟩
  have hj : j < S.n := by have := (List.getElem?_eq_some_iff.1 hv).1; rwa [S.len] at this
  have hi' := (List.getElem?_eq_some_iff.1 hy).1
  have hf := flat_at S.len lr i y hy j hj
  rw [hv] at hf
  have h9 : (cur.toList.take (lr.length * S.n))[i * S.n + j]? = some v := by rw [show cur.toList.take (lr.length * S.n) = lr.flatMap S.f from ht]; exact hf
  have hlt : (i + 1) * S.n ≤ lr.length * S.n := Nat.mul_le_mul_right _ hi'
  rw [Nat.succ_mul] at hlt
  rw [List.getElem?_take_of_lt (by omega)] at h9
  simpa using h9
theorem own_cell (h : OwnAt S t B w (.slice (some ⟨g, 0, none⟩) n c) lr) (hk : lr[k]? = some r) {j : Nat} {u : Value} (hu : (S.f r)[j]? = some u) : w.cell? ⟨g, k * S.n + j, none⟩ = some u ∧ w.frozen? ⟨g, k * S.n + j, none⟩ = false := by
 obtain ⟨cur, h1, _, _, _, _, h2⟩ := own_blk h
 exact ⟨by rw [h1.cell]; exact h2 k r hk j u hu, h1.frozen _⟩
theorem own_put (h : OwnAt S t B w (.slice (some ⟨g, 0, none⟩) n c) lr) (hk : lr[k]? = some r) {m : Nat} (hm : m < S.n) {u : Value} (hu : (S.f r')[m]? = some u) (ho : ∀ j, j ≠ m → (S.f r')[j]? = (S.f r)[j]?) :
  OwnAt S t B (w.setCell ⟨g, k * S.n + m, none⟩ u) (.slice (some ⟨g, 0, none⟩) n c) (lr.set k r') := by
 have hkl := (List.getElem?_eq_some_iff.1 hk).1
 obtain ⟨cur, h1, hs, hn, hmm, hb, hold⟩ := own_blk h
 have hnl : n = lr.length := by
  rcases h.2 with ⟨e, _⟩ | ⟨g', cap, cur', e, _⟩
  ·cases e
  ·injection e
 subst hnl
 have hF : Fill S t g c (lr.set k r') (lr.set k r').length (w.setCell ⟨g, k * S.n + m, none⟩ u) := by
  refine ⟨_, h1.put (k * S.n + m) u, by simpa using hs, fun i x hi hx j v hv => ?_⟩
  have hj : j < S.n := by have := (List.getElem?_eq_some_iff.1 hv).1; rwa [S.len] at this
  rw [Array.getElem?_setIfInBounds]
  by_cases hik : i = k
  ·subst hik
   rw [List.getElem?_set_self hkl] at hx
   injection hx with hx
   subst hx
   by_cases hjm : j = m
   ·subst hjm
    have hle : (i + 1) * S.n ≤ c * S.n := Nat.mul_le_mul_right _ (Nat.le_trans hkl hn)
    rw [Nat.succ_mul] at hle
    rw [if_pos rfl, if_pos (by omega)]
    rw [hu] at hv
    exact hv
   ·rw [if_neg (by omega)]
    rw [ho j hjm] at hv
    exact hold i r hk j v hv
  ·rw [List.getElem?_set_ne (fun e => hik e.symm)] at hx
   rw [if_neg (fun e => by
    rcases Nat.lt_or_ge i k with hlt | hge
    ·have := Nat.mul_le_mul_right S.n (show i + 1 ≤ k from hlt)
     rw [Nat.succ_mul] at this
     omega
    ·have := Nat.mul_le_mul_right S.n (show k + 1 ≤ i by omega)
     rw [Nat.succ_mul] at this
     omega)]
   exact hold i x hx j v hv
 have := Fill.ownAt (B := B) hF hb (by rw [List.length_set]; exact hn) hmm
 rw [List.length_set] at this
 exact this
end
abbrev five (W : World) (g k : Nat) (y : Int) : World := ((((W.setCell ⟨g, k * 6, none⟩ (.int .i64 y)).setCell ⟨g, k * 6 + 1, none⟩ (.int .i64 (y + 1))).setCell ⟨g, k * 6 + 2, none⟩ (.int .i64 (y + 1 + 1))).setCell ⟨g, k * 6 + 3, none⟩ (.int .i64 (y + 1 + 1 + 1))).setCell ⟨g, k * 6 + 4, none⟩ (.int .i64 (y + 1 + 1 + 1 + 1))
abbrev hrM (y : Int) (A : Option Addr) (m c : Nat) : Hr := ⟨y, y + 1, y + 1 + 1, y + 1 + 1 + 1, y + 1 + 1 + 1 + 1, A, m, c⟩
theorem five_own {B g n c k : Nat} {W : World} {lr : List Hr} {r : Hr} (h : OwnAt hrS 62 B W (.slice (some ⟨g, 0, none⟩) n c) lr) (hk : lr[k]? = some r) (y : Int) :
  OwnAt hrS 62 B (five W g k y) (.slice (some ⟨g, 0, none⟩) n c) (lr.set k (hrM y r.A r.m r.c)) := by
 have hkl := (List.getElem?_eq_some_iff.1 hk).1
 have nx : ∀ (a b : Hr) (m : Nat) (u : Value), (hrF b)[m]? = some u → (∀ j, j ≠ m → (hrF b)[j]? = (hrF a)[j]?) → m < 6 → ∀ {V : World}, OwnAt hrS 62 B V (.slice (some ⟨g, 0, none⟩) n c) (lr.set k a) → OwnAt hrS 62 B (V.setCell ⟨g, k * 6 + m, none⟩ u) (.slice (some ⟨g, 0, none⟩) n c) (lr.set k b) := fun a b m u h1 h2 h3 V hV => by
  have := own_put (S := hrS) (r' := b) hV (List.getElem?_set_self hkl) (m := m) h3 h1 h2
  rwa [List.set_set] at this
 have t0 : OwnAt hrS 62 B W (.slice (some ⟨g, 0, none⟩) n c) (lr.set k r) := by
  have e : lr.set k r = lr := by
   apply List.ext_getElem?
   intro i
   by_cases hi : i = k
   ·subst hi; rw [List.getElem?_set_self hkl, hk]
   ·rw [List.getElem?_set_ne (fun e => hi e.symm)]
  rw [e]; exact h
 have oth : ∀ {a b : List Value} {m : Nat}, a.length = 6 → b.length = 6 → (∀ j, j < 6 → j ≠ m → b[j]? = a[j]?) → ∀ j, j ≠ m → b[j]? = a[j]? := fun ha hb hh j hj => by
  by_cases h6 : j < 6
  ·exact hh j h6 hj
  ·rw [List.getElem?_eq_none (by omega), List.getElem?_eq_none (by omega)]
 have t1 := nx r ⟨y, r.n, r.t, r.u, r.z, r.A, r.m, r.c⟩ 0 (.int .i64 y) rfl (oth rfl rfl (fun j h6 hj => by match j, h6, hj with | 1, _, _ => rfl | 2, _, _ => rfl | 3, _, _ => rfl | 4, _, _ => rfl | 5, _, _ => rfl)) (by omega) t0
 have t2 := nx _ ⟨y, y + 1, r.t, r.u, r.z, r.A, r.m, r.c⟩ 1 (.int .i64 (y + 1)) rfl (oth rfl rfl (fun j h6 hj => by match j, h6, hj with | 0, _, _ => rfl | 2, _, _ => rfl | 3, _, _ => rfl | 4, _, _ => rfl | 5, _, _ => rfl)) (by omega) t1
 have t3 := nx _ ⟨y, y + 1, y + 1 + 1, r.u, r.z, r.A, r.m, r.c⟩ 2 (.int .i64 (y + 1 + 1)) rfl (oth rfl rfl (fun j h6 hj => by match j, h6, hj with | 0, _, _ => rfl | 1, _, _ => rfl | 3, _, _ => rfl | 4, _, _ => rfl | 5, _, _ => rfl)) (by omega) t2
 have t4 := nx _ ⟨y, y + 1, y + 1 + 1, y + 1 + 1 + 1, r.z, r.A, r.m, r.c⟩ 3 (.int .i64 (y + 1 + 1 + 1)) rfl (oth rfl rfl (fun j h6 hj => by match j, h6, hj with | 0, _, _ => rfl | 1, _, _ => rfl | 2, _, _ => rfl | 4, _, _ => rfl | 5, _, _ => rfl)) (by omega) t3
 have t5 := nx _ (hrM y r.A r.m r.c) 4 (.int .i64 (y + 1 + 1 + 1 + 1)) rfl (oth rfl rfl (fun j h6 hj => by match j, h6, hj with | 0, _, _ => rfl | 1, _, _ => rfl | 2, _, _ => rfl | 3, _, _ => rfl | 5, _, _ => rfl)) (by omega) t4
 exact t5
theorem five_grown (W : World) (g k : Nat) (y : Int) : W.grownBy (five W g k y) (some g) :=
 grown_put (grown_put (grown_put (grown_put (grown_put (grown_refl W _) _ _) _ _) _ _) _ _) _ _
structure MarkedH (w w' : World) (v : Value) (lr : List Hr) : Prop where
 os : w'.os = w.os
 tape : w'.tape = w.tape
 output : w'.output = w.output
 size : w.heap.size ≤ w'.heap.size
 block : ∀ k, k < w.heap.size → v.ownBlock ≠ some k → (∀ (i : Nat) (r : Hr), lr[i]? = some r → r.v.ownBlock ≠ some k) → w'.heap[k]? = w.heap[k]?
structure MkH (B : Nat) (w wr : World) (v : Value) (x : Int) (k : Nat) (l : List Hf) (lr lr' : List Hr) : Prop where
 row : OwnAt hrS 62 B wr v lr'
 len : lr'.length = lr.length
 place : ∀ (i : Nat) (r r' : Hr), lr[i]? = some r → lr'[i]? = some r' → r'.v = r.v
 num : ∀ (i : Nat) (r' : Hr) (h : Hf), i < k → lr'[i]? = some r' → (hfMs x l)[i]? = some h → Nums6 r' h
 done : ∀ (i : Nat) (r : Hr) (h : Hf), i < k → lr[i]? = some r → (hfMs x l)[i]? = some h → OwnAt mbS 97 B wr r.v h.got
 todo : ∀ (i : Nat) (r : Hr) (h : Hf), k ≤ i → lr[i]? = some r → l[i]? = some h → OwnAt mbS 97 B wr r.v h.got
 marked : MarkedH w wr v lr
theorem MkH.new {B : Nat} {w : World} {v : Value} {l : List Hf} {lr : List Hr} (H : OwnHAt B w v lr l) (x : Int) : MkH B w w v x 0 l lr lr :=
 ⟨H.row, rfl, fun i r r' h1 h2 => by rw [h1] at h2; injection h2 with h2; rw [h2], fun i r h hi => absurd hi (by omega), fun i r h hi => absurd hi (by omega), fun i r h _ hr hh => (H.got i r h hr hh).2, rfl, rfl, rfl, Nat.le_refl _, fun _ _ _ _ => rfl⟩
theorem MkH.done_ {B : Nat} {w wr : World} {v : Value} {x : Int} {l : List Hf} {lr lr' : List Hr} (M : MkH B w wr v x l.length l lr lr') (H : OwnHAt B w v lr l) : OwnHAt B wr v lr' (hfMs x l) := by
 have old : ∀ (i : Nat) (r' : Hr), lr'[i]? = some r' → ∃ r, lr[i]? = some r ∧ r'.v = r.v := fun i r' h => by
  have hi := (List.getElem?_eq_some_iff.1 h).1
  have hr : lr[i]? = some (lr[i]'(by rw [← M.len]; exact hi)) := List.getElem?_eq_getElem _
  exact ⟨_, hr, M.place i _ _ hr h⟩
 refine ⟨M.row, by rw [M.len, H.len, hfMs_len], fun i r' h hr hh => ?_, fun i r' hr => ?_, fun i j r1 r2 hne h1 h2 => ?_⟩
 ·have hi : i < l.length := by have := (List.getElem?_eq_some_iff.1 hh).1; rwa [hfMs_len] at this
  obtain ⟨r, g1, g2⟩ := old i r' hr
  exact ⟨M.num i r' h hi hr hh, by rw [g2]; exact M.done i r h hi g1 hh⟩
 ·obtain ⟨r, g1, g2⟩ := old i r' hr
  rw [g2]; exact H.far i r g1
 ·obtain ⟨ra, g1, g2⟩ := old i r1 h1
  obtain ⟨rb, g3, g4⟩ := old j r2 h2
  rw [g2, g4]; exact H.apart i j ra rb hne g1 g3
theorem MkH.step {B : Nat} {w wr w2 : World} {g n c k : Nat} {x y : Int} {l : List Hf} {lr lr' : List Hr} {r : Hr} {h : Hf} (M : MkH B w wr (.slice (some ⟨g, 0, none⟩) n c) x k l lr lr') (H : OwnHAt B w (.slice (some ⟨g, 0, none⟩) n c) lr l)
  (hr : lr[k]? = some r) (hh : l[k]? = some h) (hy : y = x + 5 * k + 2 * gotN (l.take k)) (hO : OwnAt mbS 97 B w2 r.v (mbMs (y + 1 + 1 + 1 + 1 + 1) h.got.length)) (hG : (five wr g k y).grownBy w2 r.v.ownBlock) :
  MkH B w w2 (.slice (some ⟨g, 0, none⟩) n c) x (k + 1) l lr (lr'.set k (hrM y r.A r.m r.c)) := by
 have hkl := (List.getElem?_eq_some_iff.1 hr).1
 have hkl' : k < lr'.length := by rw [M.len]; exact hkl
 have hr' : lr'[k]? = some (lr'[k]'hkl') := List.getElem?_eq_getElem hkl'
 have hp := M.place k _ _ hr hr'
 have h5 := five_grown wr g k y
 have row5 := five_own M.row hr' y
 generalize lr'[k]'hkl' = r' at hr' hp row5
 injection hp with p1 p2 p3
 rw [p1, p2, p3] at row5
 have hat := hfMs_at (x := x) hh
 rw [← hy] at hat
 have row2 := row5.same (W' := w2) (fun b hb => hG.block b (row5.lt hb).2 (fun e => H.far k r hr b hb e.symm))
 have keep : ∀ (i : Nat) (r0 : Hr) (t : List Mb), i ≠ k → lr[i]? = some r0 → OwnAt mbS 97 B wr r0.v t → OwnAt mbS 97 B w2 r0.v t := fun i r0 t hne h0 ho => by
  refine ho.same (fun b hb => ?_)
  have hlt := (ho.lt hb).2
  exact (hG.block b (Nat.lt_of_lt_of_le hlt h5.size) (fun e => H.apart i k r0 r hne h0 hr b hb e.symm)).trans (h5.block b hlt (fun e => H.far i r0 h0 b e.symm hb))
 have hget : ∀ (i : Nat) (r1 : Hr), (lr'.set k (hrM y r.A r.m r.c))[i]? = some r1 → (i = k ∧ r1 = hrM y r.A r.m r.c) ∨ (i ≠ k ∧ lr'[i]? = some r1) := fun i r1 hx => by
  by_cases e : i = k
  ·subst e
   rw [List.getElem?_set_self hkl'] at hx
   injection hx with hx
   exact .inl ⟨rfl, hx.symm⟩
  ·rw [List.getElem?_set_ne (fun e' => e e'.symm)] at hx
   exact .inr ⟨e, hx⟩
 refine ⟨row2, by rw [List.length_set]; exact M.len, fun i r0 r1 h0 h1 => ?_, fun i r1 h1 hi hx hy' => ?_, fun i r0 h1 hi hx hy' => ?_, fun i r0 h1 hi hx hy' => keep i r0 _ (by omega) hx (M.todo i r0 h1 (by omega) hx hy'), hG.os.trans (h5.os.trans M.marked.os), hG.tape.trans (h5.tape.trans M.marked.tape), hG.output.trans (h5.output.trans M.marked.output), Nat.le_trans M.marked.size (Nat.le_trans h5.size hG.size), fun b hb n1 n2 => ?_⟩
 ·rcases hget i r1 h1 with ⟨rfl, rfl⟩ | ⟨_, h1⟩
  ·rw [hr] at h0; injection h0 with h0; subst h0; rfl
  ·exact M.place i r0 r1 h0 h1
 ·rcases hget i r1 hx with ⟨rfl, rfl⟩ | ⟨e, hx⟩
  ·rw [hat] at hy'; injection hy' with hy'; subst hy'; exact ⟨rfl, rfl, rfl, rfl, rfl⟩
  ·exact M.num i r1 h1 (by omega) hx hy'
 ·by_cases e : i = k
  ·subst e
   rw [hat] at hy'; injection hy' with hy'; subst hy'
   rw [hr] at hx; injection hx with hx; subst hx
   exact hO
  ·exact keep i r0 _ e hx (M.done i r0 h1 (by omega) hx hy')
 ·have l1 : b < wr.heap.size := Nat.lt_of_lt_of_le hb M.marked.size
  exact (hG.block b (Nat.lt_of_lt_of_le l1 h5.size) (fun e => n2 k r hr e.symm)).trans ((h5.block b l1 (fun e => n1 e.symm)).trans (M.marked.block b hb n1 n2))
def hfN (x : Int) (l : List Hf) : Int := x + 5 * l.length + 2 * gotN l
def MarkedHP (w : World) (v : Value) (B : Nat) (x : Int) (l : List Hf) (lr : List Hr) (e : Ending) (w' : World) : Prop :=
 ∃ lr', e = .returned (.int .i64 (hfN x l)) ∧ OwnHAt B w' v lr' (hfMs x l) ∧ MarkedH w w' v lr
theorem FewT.mark {l : List Hf} (h : FewT l) : hfN 1 l < 100000000 := by unfold FewT at h; unfold hfN; omega
theorem OwnHAt.see_ {B : Nat} {w : World} {v : Value} {lr : List Hr} {l : List Hf} (h : OwnHAt B w v lr l) : SeesH w v l :=
 ⟨lr, h.row.sees, h.len, fun i r x hr hx => ⟨(h.got i r x hr hx).1, (h.got i r x hr hx).2.sees⟩⟩
set_option maxRecDepth 100000 in
set_option maxHeartbeats 1600000 in
theorem markHs_any {w : World} {v : Value} {B : Nat} {l : List Hf} {lr : List Hr} (H : OwnHAt B w v lr l) (x : Int) (hx : 1 ≤ x) (hn : hfN x l < 100000000) :
  Calls Tryz.prog 41 #[v, .int .i64 x] w (MarkedHP w v B x l lr) := by
 have HH := Lib.hid H
 have HN := Lib.hid (show x + 5 * l.length + 2 * gotN l < 100000000 from hn)
 obtain ⟨A, c, rfl⟩ := H.see_.form
 have M0 := Lib.hid (MkH.new H x)
 clear H hn
 go_enter Tryz.func41, Tryz.ntmps41
 go_wp2
 go_loopw [1, 5] (fun a i wr => ∃ (k : Nat) (y : Int) (lr' : List Hr), k ≤ l.length ∧ i = .int .i64 k ∧ a = .int .i64 y ∧ Hid (y = x + 5 * k + 2 * gotN (l.take k)) ∧ 1 ≤ y ∧ Hid (MkH B w wr (.slice A l.length c) x k l lr lr')) (fun _ i _ => (l.length + 1 : Nat) - (intOf i).toNat)
 case atStart => exact ⟨0, x, lr, by omega, rfl, rfl, by show x = _; simp [gotN], hx, M0.out⟩
 case round =>
  clear M0
  obtain ⟨k, y, lr', hk, rfl, rfl, HY, y0, HM⟩ := hrel
  by_cases hkl : k < l.length
  ·have hh : l[k]? = some l[k] := List.getElem?_eq_getElem hkl
   have hr : lr[k]? = some (lr[k]'(by rw [HH.out.len]; exact hkl)) := List.getElem?_eq_getElem _
   have hr' : lr'[k]? = some (lr'[k]'(by rw [HM.out.len, HH.out.len]; exact hkl)) := List.getElem?_eq_getElem _
   obtain ⟨g, c', e, hg, hq1, hq2⟩ := HM.out.row.sees.at hr'
   clear hq1 hq2
   injection e with e1 e2 e3
   subst e1; clear e2; subst e3
   have hp := HM.out.place k _ _ hr hr'
   have hgt := gotN_take hh
   have hgl := gotN_le l (k + 1)
   have HHh := Lib.hid hh
   have HRr := Lib.hid hr
   generalize l[k] = h at HHh hgt
   generalize lr[k]'(by rw [HH.out.len]; exact hkl) = r at HRr hp
   generalize lr'[k]'(by rw [HM.out.len, HH.out.len]; exact hkl) = r' at hr' hp
   have hb : y + 5 + 2 * (h.got.length : Int) < 100000000 := by have h1 := HY.out; have h2 := HN.out; omega
   have hlb : (l.length : Int) < 100000000 := by have := HN.out; omega
   have HY2 := Lib.hid (show y + 1 + 1 + 1 + 1 + 1 + 2 * (h.got.length : Int) = x + 5 * ((k + 1 : Nat) : Int) + 2 * (gotN (l.take (k + 1)) : Nat) by have h1 := HY.out; omega)
   clear hh hr hgt hgl
   obtain ⟨f', n', t', u', z', A', m', d'⟩ := r'
   obtain ⟨c0, f0⟩ := own_cell HM.out.row hr' (j := 0) rfl
   obtain ⟨c1, f1⟩ := own_cell HM.out.row hr' (j := 1) rfl
   obtain ⟨c2, f2⟩ := own_cell HM.out.row hr' (j := 2) rfl
   obtain ⟨c3, f3⟩ := own_cell HM.out.row hr' (j := 3) rfl
   obtain ⟨c4, f4⟩ := own_cell HM.out.row hr' (j := 4) rfl
   obtain ⟨c5, _⟩ := own_cell HM.out.row hr' (j := 5) rfl
   change wr.cell? ⟨g, k * 6, none⟩ = some (.int .i64 f') at c0
   change wr.frozen? ⟨g, k * 6, none⟩ = _ at f0
   change wr.cell? ⟨g, k * 6 + 1, none⟩ = some (.int .i64 n') at c1
   change wr.frozen? ⟨g, k * 6 + 1, none⟩ = _ at f1
   change wr.cell? ⟨g, k * 6 + 2, none⟩ = some (.int .i64 t') at c2
   change wr.frozen? ⟨g, k * 6 + 2, none⟩ = _ at f2
   change wr.cell? ⟨g, k * 6 + 3, none⟩ = some (.int .i64 u') at c3
   change wr.frozen? ⟨g, k * 6 + 3, none⟩ = _ at f3
   change wr.cell? ⟨g, k * 6 + 4, none⟩ = some (.int .i64 z') at c4
   change wr.frozen? ⟨g, k * 6 + 4, none⟩ = _ at f4
   change wr.cell? ⟨g, k * 6 + 5, none⟩ = some (.slice A' m' d') at c5
   have HO5 : Hid (OwnAt mbS 97 B (five wr g k y) (.slice A' m' d') h.got) := by
    have ho := HM.out.todo k r h (Nat.le_refl _) HRr.out HHh.out
    rw [← hp] at ho
    refine ho.same (fun b hb => (five_grown wr g k y).block b (ho.lt hb).2 (fun e => ?_))
    rw [show (⟨f', n', t', u', z', A', m', d'⟩ : Hr).v = r.v from hp] at hb
    exact HH.out.far k r HRr.out b e.symm hb
   have HS := Lib.hid (fun w2 (hO : OwnAt mbS 97 B w2 r.v (mbMs (y + 1 + 1 + 1 + 1 + 1) h.got.length)) (hG : (five wr g k y).grownBy w2 r.v.ownBlock) => HM.out.step HH.out HRr.out HHh.out HY.out hO hG)
   have HP := Lib.hid hp
   have hk1 : (k : Int) < (l.length : Int) := by omega
   clear hr' HM HRr hp
   go_wp2_with fail
   refine (markB_any HO5.out (y + 1 + 1 + 1 + 1 + 1) (by omega) (by omega)).mono ?_
   rintro e w2 ⟨rfl, hO2, hG2⟩
   have HS2 := Lib.hid (HS.out w2 (by rw [← HP.out]; exact hO2) (by rw [← HP.out]; exact hG2))
   clear hO2 hG2 HS HO5 HP c0 c1 c2 c3 c4 c5 f0 f1 f2 f3 f4
   go_wp2
   go_roundw
   case rel => exact ⟨k + 1, _, _, by omega, by go_num, rfl, HY2.out, by omega, HS2.out⟩
   case measure => simp [intOf]; omega
  ·obtain rfl : k = l.length := by omega
   have HY2 := Lib.hid (show y = hfN x l by have := HY.out; rwa [List.take_length] at this)
   go_wp2
   go_ret
   exact ⟨lr', ow.ret_int HY2.out, HM.out.done_ HH.out, HM.out.marked⟩
theorem MarkedH.from_ {w V w' : World} {v : Value} {lr : List Hr} (h : MarkedH V w' v lr) (hB : Below w.heap.size w V) : MarkedH w w' v lr :=
 ⟨h.os.trans hB.os, h.tape.trans hB.tape, h.output.trans hB.output, Nat.le_trans hB.size h.size, fun k hk n1 n2 => (h.block k (Nat.lt_of_lt_of_le hk hB.size) n1 n2).trans (hB.block k hk)⟩
set_option maxRecDepth 100000 in
set_option maxHeartbeats 1600000 in
theorem markNode_any {w : World} {v : Value} {B : Nat} {l : List Hf} {lr : List Hr} (id : Int) (up : Bool) (s : ByteArray) (f : Int) (H : OwnHAt B w v lr l) (x : Int) (hx : 1 ≤ x) (hn : hfN x l < 100000000) :
  Calls Tryz.prog 16 #[nodeV id up s f v, .int .i64 x] w (MarkedHP w v B x l lr) := by
 have BV := (Below.refl w.heap.size w).alloc (Nat.le_refl _) (.cells (nodeC id up s f v) 32)
 have HM := Lib.hid (markHs_any (H.later BV) x hx hn)
 unfold MarkedHP at HM
 have HB := Lib.hid BV
 clear H BV
 go_enter Tryz.func16, Tryz.ntmps16
 go_wp2_with fail
 generalize w.alloc (.cells (nodeC id up s f v) 32) = V at HM HB ⊢
 refine HM.out.mono ?_
 rintro e w1 ⟨lr', rfl, h1, h2⟩
 have H1 := Lib.hid h1
 have H2 := Lib.hid (h2.from_ HB.out)
 clear h1 h2 HM
 go_wp2
 go_ret
 exact ⟨lr', rfl, H1.out, H2.out⟩
end Go.Proofs.YtckicpnnclbkpaaGreatDoor.hf

