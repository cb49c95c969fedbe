/-
  Merged texts: Nums3, DoPlain2, RecPost.
-/
import Derived.Test.YtckicpnnclbkpaaGreatDoorGFnExactKeeperOk3
import Derived.Test.YtckicpnnclbkpaaGreatDoorGFnExactKeeperOk19
import Derived.Test.YtckicpnnclbkpaaGreatDoorGFnExactKeeperOk13
import Derived.Test.YtckicpnnclbkpaaGreatDoorGFnExactKeeperOk17
namespace Go.Proofs.YtckicpnnclbkpaaGreatDoor.dc
open Go.ChangeShapes Go.WideShapes Go.ChangeAt Go.RowKit
open nb ok wd
def restK (l : List UInt8) : Nat → List UInt8
 | 0 => l
 | k + 1 => (word (restK l k)).2
theorem restK_len (l : List UInt8) : ∀ k, (restK l k).length ≤ l.length
 | 0 => Nat.le_refl _
 | k + 1 => Nat.le_trans (word_len _).2 (restK_len l k)
def ReadK (l : List UInt8) (vs : List Int) : Prop := ∀ i v, vs[i]? = some v → Reads (word (restK l i)).1 v
theorem readK_snoc {l : List UInt8} {vs : List Int} {k : Nat} {v : Int} (hl : vs.length = k) (h : ReadK l vs) (hv : Reads (word (restK l k)).1 v) : ReadK l (vs ++ [v]) := by
 intro i x hx
 subst hl
 by_cases hi : i < vs.length
 ·rw [List.getElem?_append_left hi] at hx; exact h i x hx
 ·rw [List.getElem?_append_right (by omega)] at hx
  have : i = vs.length := by
   have := (List.getElem?_eq_some_iff.1 hx).1
   simp at this; omega
  subst this
  simp at hx
  subst hx
  exact hv
def Nums3Post (w : World) (l : List UInt8) (e : Ending) (w' : World) : Prop :=
 ∃ (v : Value) (vs : List Int), e = .returned (.tuple #[v, .string (str (restK l 3))]) ∧ vs.length = 3 ∧ ow.Own 3 w w' v (iv vs) ∧ ReadK l vs
set_option maxRecDepth 100000 in
set_option maxHeartbeats 1600000 in
theorem nums3_any (s : ByteArray) (hs : s.size ≤ 1048576) (w : World) :
  Calls Tryz.prog 115 #[.string s, .int .i64 3] w (Nums3Post w s.data.toList) := by
 obtain ⟨i0, hi, hz0, hz1, hz2⟩ := info_parts infoInt
 have hsz := Lib.hid (Lib.size_eq s)
 go_enter Tryz.func115, Tryz.ntmps115
 go_wp2
 go_loopw [0, 6, 7] (fun sv ov i wr => ∃ (k : Nat) (vs : List Int) (r : List UInt8), k ≤ 3 ∧ Hid (vs.length = k) ∧ i = .int .i64 k ∧ sv = .string (str r) ∧ ow.Own 3 w wr ov (iv vs) ∧ Hid (ReadK s.data.toList vs) ∧ Hid (r = restK s.data.toList k) ∧ r.length ≤ s.size) (fun _ _ i _ => 3 - (intOf i).toNat)
 case atStart => exact ⟨0, [], s.data.toList, by omega, rfl, rfl, by rw [str_data], ow.Own.empty w, (fun i v h => by simp at h : ReadK s.data.toList []), rfl, by rw [hsz.out]; exact Nat.le_refl _⟩
 case round =>
  obtain ⟨k, vs, r, hk, HL, rfl, rfl, hO, HI, HR0, hr⟩ := hrel
  have hbase := hO.2.size
  by_cases hk4 : k < 3
  ·have hwl := word_len r
   have HSt := Lib.hid (fun v (h : Reads (word r).1 v) => readK_snoc (v := v) HL.out HI.out (by rw [← HR0.out]; exact h))
   have HN := Lib.hid (show (word r).2 = restK s.data.toList (k + 1) by rw [HR0.out]; rfl)
   have HW := Lib.hid (fun W => sword_any (str r) (by rw [str_size]; omega) W)
   have HD := Lib.hid (fun W => dec3x_any (str (word r).1) (by rw [str_size]; omega) W)
   unfold WordPost at HW
   rw [data_str] at HW HD
   generalize word r = pq at HSt HW HD HN hwl
   obtain ⟨p, q⟩ := pq
   simp only at HSt HW HD HN hwl
   have hq : q.length ≤ s.size := by omega
   clear hwl HI HR0
   go_wp2_with fail
   refine (HW.out _).mono ?_
   rintro e w1 ⟨rfl, hB1⟩
   have hO1 := hO.later hB1
   clear hO hB1 HW
   go_wp2_with fail
   refine (HD.out _).mono ?_
   rintro e w2 ⟨x, rfl, hsp, hB2⟩
   have hO2 := hO1.later hB2
   have HS := Lib.hid (HSt.out x hsp)
   have hlv : (iv vs).length ≤ 4 := by rw [iv_len, HL.out]; omega
   clear hO1 hB2 HD HSt hsp
   go_wp2_with (at_builtin; refine wpList_append_own _ rfl _ _ 160 rfl w.heap.size 3 i0 (.int .i64 0) 1 8 Tryz.underlying160 hi hz0 hz1 hz2 rfl (by decide) _ _ _ rfl (hO2.1.alloc _) ⟨w2.heap.size, 0, none⟩ 1 1 [.int .i64 x] rfl rfl ?c1 ?c2 ?c3 ?c4 ?c5 ?_)
   case c1 => exact cell_one_new _ _ _
   case c2 => intro y hy; simp at hy; subst hy; rfl
   case c3 => unfold maxLen; omega
   case c4 => omega
   case c5 => have := hO2.2.size; simp; omega
   intro v1 w3 hown1 hgrow1 _
   have R := hO2.more hown1 hgrow1
   rw [iv_snoc] at R
   have HR := Lib.hid R
   clear hown1 hgrow1 hO2 R
   go_wp2
   go_roundw
   case rel => exact ⟨k + 1, vs ++ [x], q, by omega, by show (vs ++ [x]).length = k + 1; rw [List.length_append, HL.out]; rfl, by go_num, rfl, HR.out, HS.out, HN, hq⟩
   case measure => simp [intOf]; omega
  ·obtain rfl : k = 3 := by omega
   have HX := Lib.hid (fun (P : List UInt8 → Prop) (h : P (restK s.data.toList 3)) => (HR0.out ▸ h : P r))
   go_wp2
   go_ret2
   exact ⟨_, vs, HX.out (fun r => Ending.returned (.tuple #[_, .string (str r)]) = .returned (.tuple #[_, .string (str (restK s.data.toList 3))])) rfl, HL.out, hO, HI.out⟩
end Go.Proofs.YtckicpnnclbkpaaGreatDoor.dc

namespace Go.Proofs.YtckicpnnclbkpaaGreatDoor.kp
open nb ok dc
theorem kw_time {r : Rc} (h : kw r = kwTime) : ∃ v, r = .time v := by cases r <;> first | exact ⟨_, rfl⟩ | (exfalso; simp only [kw] at h; revert h; decide)
theorem kw_next {r : Rc} (h : kw r = kwNext) : ∃ v, r = .next v := by cases r <;> first | exact ⟨_, rfl⟩ | (exfalso; simp only [kw] at h; revert h; decide)
theorem kw_own {r : Rc} (h : kw r = kwOwn) : ∃ v, r = .own v := by cases r <;> first | exact ⟨_, rfl⟩ | (exfalso; simp only [kw] at h; revert h; decide)
theorem kw_take {r : Rc} (h : kw r = kwTake) : ∃ v, r = .take v := by cases r <;> first | exact ⟨_, rfl⟩ | (exfalso; simp only [kw] at h; revert h; decide)
theorem kw_held {r : Rc} (h : kw r = kwHeld) : ∃ v, r = .held v := by cases r <;> first | exact ⟨_, rfl⟩ | (exfalso; simp only [kw] at h; revert h; decide)
theorem kw_inbox {r : Rc} (h : kw r = kwInbox) : ∃ v, r = .inbox v := by cases r <;> first | exact ⟨_, rfl⟩ | (exfalso; simp only [kw] at h; revert h; decide)
theorem kw_let {r : Rc} (h : kw r = kwLet) : ∃ v, r = .lets v := by cases r <;> first | exact ⟨_, rfl⟩ | (exfalso; simp only [kw] at h; revert h; decide)
theorem kw_eat {r : Rc} (h : kw r = kwEat) : ∃ v, r = .eat v := by cases r <;> first | exact ⟨_, rfl⟩ | (exfalso; simp only [kw] at h; revert h; decide)
theorem kw_mark {r : Rc} (h : kw r = kwMark) : ∃ v, r = .mark v := by cases r <;> first | exact ⟨_, rfl⟩ | (exfalso; simp only [kw] at h; revert h; decide)
section
variable {k : Kp} {l : List UInt8}
theorem l_of {a b : List UInt8} (h1 : (word l).1 = a) (h2 : (word l).2 = b) (hb : b ≠ []) : l = a ++ 32 :: b := word_back (by rw [← h1, ← h2]) hb
theorem reads_dl {b : List UInt8} {v m : Int} (h : Reads b v) (hb : b = dl m) (h0 : 0 ≤ m) (h1 : m ≤ 9999) : v = m := by
 rcases h with ⟨_, hn⟩ | ⟨h2, h3, e⟩
 ·exact absurd hb (hn m h0 h1)
 ·exact dl_inj h2 h0 (e.symm.trans hb)
theorem time_bad {v : Int} (hv : 999 < v) : okK (timeS k v) = false := okK_pre (pre_f (.inr (.inl (inB_f (.inr hv)))))
theorem next_bad {v : Int} (hv : 100 < v) : okK { k with next := v } = false := okK_pre (pre_f (.inr (.inr (.inl (inB_f (.inr hv))))))
theorem rec_time_no (hw : (word l).1 = kwTime) {v : Int} (hr : Reads (word l).2 v) (hv : v ≤ k.time) : RecP k l k false := by
 refine .inr ⟨.inl rfl, nodo_of fun r x ho h1 h2 ha => ?_⟩
 obtain ⟨m, rfl⟩ := kw_time (h1.trans hw)
 have := reads_dl hr h2.symm ho.1 (by have := ho.2; omega)
 subst this
 rw [applyS, if_neg (by omega)] at ha
 cases ha
theorem rec_time_yes (hk : okK k = true) (hw : (word l).1 = kwTime) {v : Int} (hr : Reads (word l).2 v) (hv : k.time < v) : RecP k l (timeS k v) true := by
 obtain ⟨_, ht, _⟩ := okK_parts hk
 have ht := (inB_iff.1 ht).1
 have hd : (word l).2 = dl v := by
  rcases hr with ⟨e, _⟩ | ⟨_, _, e⟩
  ·omega
  ·exact e
 have hl := l_of hw hd (dl_ne _)
 by_cases h9 : v ≤ 999
 ·exact .inl ⟨rfl, .time v, ⟨by omega, h9⟩, hl, by rw [applyS, if_pos hv]⟩
 ·refine .inr ⟨.inr (time_bad (by omega)), nodo_of fun r x ho h1 h2 ha => ?_⟩
  obtain ⟨m, rfl⟩ := kw_time (h1.trans hw)
  have := reads_dl hr h2.symm ho.1 (by have := ho.2; omega)
  have := ho.2
  omega
theorem rec_next_no (hw : (word l).1 = kwNext) {v : Int} (hr : Reads (word l).2 v) (hv : v ≤ k.next) : RecP k l k false := by
 refine .inr ⟨.inl rfl, nodo_of fun r x ho h1 h2 ha => ?_⟩
 obtain ⟨m, rfl⟩ := kw_next (h1.trans hw)
 have := reads_dl hr h2.symm ho.1 (by have := ho.2; omega)
 subst this
 rw [applyS, if_neg (by omega)] at ha
 cases ha
theorem rec_next_yes (hk : okK k = true) (hw : (word l).1 = kwNext) {v : Int} (hr : Reads (word l).2 v) (hv : k.next < v) : RecP k l { k with next := v } true := by
 obtain ⟨_, _, ht, _⟩ := okK_parts hk
 have ht := (inB_iff.1 ht).1
 have hd : (word l).2 = dl v := by
  rcases hr with ⟨e, _⟩ | ⟨_, _, e⟩
  ·omega
  ·exact e
 have hl := l_of hw hd (dl_ne _)
 by_cases h9 : v ≤ 999
 ·exact .inl ⟨rfl, .next v, ⟨by omega, h9⟩, hl, by rw [applyS, if_pos hv]⟩
 ·refine .inr ⟨.inr (next_bad (by omega)), nodo_of fun r x ho h1 h2 ha => ?_⟩
  obtain ⟨m, rfl⟩ := kw_next (h1.trans hw)
  have := reads_dl hr h2.symm ho.1 (by have := ho.2; omega)
  have := ho.2
  omega
theorem rd_note {b : Bool} {y x : Nt} {r : List UInt8} (h : RD (str r) b y.f y.n y.t y.u y.s) (ho : okNt x = true) (e : wlN x = r) : b = true ∧ y = x := by
 obtain ⟨h1, h2, h3, h4, h5, h6⟩ := rd_one h (.inl ⟨rfl, ho, by rw [← e]; rfl⟩ : RD (str r) true x.f x.n x.t x.u x.s)
 refine ⟨h1, ?_⟩
 cases x; cases y
 simp at h2 h3 h4 h5 h6
 rw [h2, h3, h4, h5, h6]
theorem rd_true {y : Nt} {r : List UInt8} (h : RD (str r) true y.f y.n y.t y.u y.s) : okNt y = true ∧ wlN y = r := by
 rcases h with ⟨_, ho, e⟩ | ⟨h, _⟩
 ·exact ⟨ho, (str_inj e).symm⟩
 ·cases h
theorem wlN_ne (x : Nt) : wlN x ≠ [] := wl_ne _ _ _ _ _
theorem rec_own_no {b : Bool} {y : Nt} (hw : (word l).1 = kwOwn) (hr : RD (str (word l).2) b y.f y.n y.t y.u y.s) (hv : b = false ∨ y.f ≠ k.id ∨ y.n ≠ k.next) : RecP k l k false := by
 refine .inr ⟨.inl rfl, nodo_of fun r x ho h1 h2 ha => ?_⟩
 obtain ⟨m, rfl⟩ := kw_own (h1.trans hw)
 obtain ⟨rfl, rfl⟩ := rd_note hr ho h2
 rw [applyS, if_neg (by rintro ⟨a, b⟩; rcases hv with h | h | h; cases h; exact h a; exact h b)] at ha
 cases ha
theorem rec_own_yes {y : Nt} (hw : (word l).1 = kwOwn) (hr : RD (str (word l).2) true y.f y.n y.t y.u y.s) (h1 : y.f = k.id) (h2 : y.n = k.next) : RecP k l (takeS { k with next := k.next + 1 } y) (takeB { k with next := k.next + 1 } y) := by
 obtain ⟨ho, hb⟩ := rd_true hr
 have ha : applyS k (.own y) = takeO { k with next := k.next + 1 } y := by rw [applyS, if_pos ⟨h1, h2⟩]
 cases ht : takeB { k with next := k.next + 1 } y with
 | true => exact .inl ⟨rfl, .own y, ho, l_of hw hb.symm (wlN_ne _), by rw [ha, takeO, if_pos ht]⟩
 | false =>
  refine .inr ⟨.inl rfl, nodo_of fun r x ho' h1' h2' ha' => ?_⟩
  obtain ⟨m, rfl⟩ := kw_own (h1'.trans hw)
  obtain ⟨_, rfl⟩ := rd_note hr ho' h2'
  rw [ha, takeO, ht] at ha'
  cases ha'
theorem rec_take_no {b : Bool} {y : Nt} (hw : (word l).1 = kwTake) (hr : RD (str (word l).2) b y.f y.n y.t y.u y.s) (hv : b = false ∨ y.f = k.id) : RecP k l k false := by
 refine .inr ⟨.inl rfl, nodo_of fun r x ho h1 h2 ha => ?_⟩
 obtain ⟨m, rfl⟩ := kw_take (h1.trans hw)
 obtain ⟨rfl, rfl⟩ := rd_note hr ho h2
 rw [applyS, if_pos (by rcases hv with h | h; cases h; exact h)] at ha
 cases ha
theorem rec_take_yes {y : Nt} (hw : (word l).1 = kwTake) (hr : RD (str (word l).2) true y.f y.n y.t y.u y.s) (h1 : y.f ≠ k.id) : RecP k l (takeS k y) (takeB k y) := by
 obtain ⟨ho, hb⟩ := rd_true hr
 have ha : applyS k (.take y) = takeO k y := by rw [applyS, if_neg h1]
 cases ht : takeB k y with
 | true => exact .inl ⟨rfl, .take y, ho, l_of hw hb.symm (wlN_ne _), by rw [ha, takeO, if_pos ht]⟩
 | false =>
  refine .inr ⟨.inl rfl, nodo_of fun r x ho' h1' h2' ha' => ?_⟩
  obtain ⟨m, rfl⟩ := kw_take (h1'.trans hw)
  obtain ⟨_, rfl⟩ := rd_note hr ho' h2'
  rw [ha, takeO, ht] at ha'
  cases ha'
theorem rec_held_no {b : Bool} {y : Nt} (hw : (word l).1 = kwHeld) (hr : RD (str (word l).2) b y.f y.n y.t y.u y.s) (hv : b = false ∨ hasN k.held y.f y.n = true ∨ hasN k.inbox y.f y.n = true) : RecP k l k false := by
 refine .inr ⟨.inl rfl, nodo_of fun r x ho h1 h2 ha => ?_⟩
 obtain ⟨m, rfl⟩ := kw_held (h1.trans hw)
 obtain ⟨rfl, rfl⟩ := rd_note hr ho h2
 rw [applyS, if_pos (by rcases hv with h | h; cases h; exact h)] at ha
 cases ha
theorem rec_held_yes {y : Nt} (hw : (word l).1 = kwHeld) (hr : RD (str (word l).2) true y.f y.n y.t y.u y.s) (h1 : hasN k.held y.f y.n = false) (h2 : hasN k.inbox y.f y.n = false) : RecP k l { k with held := putN k.held y } true := by
 obtain ⟨ho, hb⟩ := rd_true hr
 exact .inl ⟨rfl, .held y, ho, l_of hw hb.symm (wlN_ne _), by rw [applyS, if_neg (by rw [h1, h2]; simp)]⟩
theorem rec_inbox_no {b : Bool} {y : Nt} (hw : (word l).1 = kwInbox) (hr : RD (str (word l).2) b y.f y.n y.t y.u y.s) (hv : b = false ∨ hasN k.held y.f y.n = true ∨ hasN k.inbox y.f y.n = true) : RecP k l k false := by
 refine .inr ⟨.inl rfl, nodo_of fun r x ho h1 h2 ha => ?_⟩
 obtain ⟨m, rfl⟩ := kw_inbox (h1.trans hw)
 obtain ⟨rfl, rfl⟩ := rd_note hr ho h2
 rw [applyS, if_pos (by rcases hv with h | h; cases h; exact h)] at ha
 cases ha
theorem rec_inbox_yes {y : Nt} (hw : (word l).1 = kwInbox) (hr : RD (str (word l).2) true y.f y.n y.t y.u y.s) (h1 : hasN k.held y.f y.n = false) (h2 : hasN k.inbox y.f y.n = false) : RecP k l { k with inbox := putN k.inbox y } true := by
 obtain ⟨ho, hb⟩ := rd_true hr
 exact .inl ⟨rfl, .inbox y, ho, l_of hw hb.symm (wlN_ne _), by rw [applyS, if_neg (by rw [h1, h2]; simp)]⟩
def dlm (v : Int) : List UInt8 := if v = -1 then [45, 49] else dl v
def m3m (a b c : Int) : List UInt8 := dlm a ++ 32 :: (dlm b ++ 32 :: dlm c)
theorem dlm_pos {v : Int} (h : 0 ≤ v) : dlm v = dl v := if_neg (by omega)
theorem word_all (v : Int) : word (dl v) = (dl v, []) := word_none fun i h => by
 have hm := List.mem_of_getElem? h
 exact dg_ne (List.all_eq_true.1 (dl_all v) _ hm) rfl
theorem m3_read {f n u a b c : Int} {r : List UInt8} (hf : 0 ≤ f ∧ f ≤ 9999) (hn : 0 ≤ n ∧ n ≤ 9999) (hu : 0 ≤ u ∧ u ≤ 9999) (e : m3 f n u = r) (h : ReadK r [a, b, c]) : a = f ∧ b = n ∧ c = u ∧ restK r 3 = [] ∧ m3m a b c = r := by
 have w0 : word r = (dl f, dl n ++ 32 :: dl u) := by rw [← e]; exact word_dl f _
 have w1 : word (restK r 1) = (dl n, dl u) := by show word (word r).2 = _; rw [w0]; exact word_dl n _
 have w2 : word (restK r 2) = (dl u, []) := by show word (word (restK r 1)).2 = _; rw [w1]; exact word_all u
 have ha := reads_dl (h 0 a rfl) (show (word r).1 = dl f by rw [w0]) hf.1 hf.2
 have hb := reads_dl (h 1 b rfl) (show (word (restK r 1)).1 = dl n by rw [w1]) hn.1 hn.2
 have hc := reads_dl (h 2 c rfl) (show (word (restK r 2)).1 = dl u by rw [w2]) hu.1 hu.2
 refine ⟨ha, hb, hc, show (word (restK r 2)).2 = [] by rw [w2], ?_⟩
 rw [← e, ha, hb, hc]
 unfold m3m m3
 rw [dlm_pos hf.1, dlm_pos hn.1, dlm_pos hu.1]
theorem m3M_read {m : Mk} {a b c : Int} {r : List UInt8} (ho : okMk m = true) (e : m3M m = r) (h : ReadK r [a, b, c]) : m = ⟨a, b, c⟩ ∧ restK r 3 = [] ∧ m3m a b c = r := by
 obtain ⟨a1, a2, a3⟩ := okMk_parts ho
 obtain ⟨h1, h2, h3, h4, h5⟩ := m3_read (by omega) (by omega) (by omega) e h
 refine ⟨?_, h4, h5⟩
 cases m
 simp at h1 h2 h3
 rw [h1, h2, h3]
def kw3 (x : List UInt8) : Prop := x = kwLet ∨ x = kwEat ∨ x = kwMark
theorem rec_three_no {a b c : Int} (hw : ∀ r : Rc, kw r = (word l).1 → kw3 (word l).1) (hr : ReadK (word l).2 [a, b, c]) (hv : restK (word l).2 3 ≠ [] ∨ m3m a b c ≠ (word l).2) : RecP k l k false := by
 refine .inr ⟨.inl rfl, nodo_of fun r x ho h1 h2 ha => ?_⟩
 exfalso
 have key : ∀ m : Mk, okMk m = true → m3M m = (word l).2 → False := fun m hm e => by
  obtain ⟨_, e1, e2⟩ := m3M_read hm e hr
  rcases hv with h | h
  ·exact h e1
  ·exact h e2
 rcases hw r h1 with h | h | h
 ·obtain ⟨m, rfl⟩ := kw_let (h1.trans h); exact key m ho h2
 ·obtain ⟨m, rfl⟩ := kw_eat (h1.trans h); exact key m ho h2
 ·obtain ⟨m, rfl⟩ := kw_mark (h1.trans h); exact key m ho h2
theorem m3m_ok {m : Mk} {r : List UInt8} (h : okMk m = true) (e : m3m m.f m.n m.u = r) : r = m3M m := by
 obtain ⟨a1, a2, a3⟩ := okMk_parts h
 rw [← e]
 unfold m3m m3M m3
 rw [dlm_pos (by omega), dlm_pos (by omega), dlm_pos (by omega)]
theorem rec_let_no {m : Mk} (hw : (word l).1 = kwLet) (hr : ReadK (word l).2 [m.f, m.n, m.u]) (hv : k.held.findIdx? (isM m) = none) : RecP k l k false := by
 refine .inr ⟨.inl rfl, nodo_of fun r x ho h1 h2 ha => ?_⟩
 obtain ⟨m', rfl⟩ := kw_let (h1.trans hw)
 obtain ⟨e, _⟩ := m3M_read ho h2 hr
 subst e
 rw [applyS] at ha
 simp only [hv] at ha
 cases ha
theorem rec_let_yes {m : Mk} {i : Nat} (hk : okK k = true) (hw : (word l).1 = kwLet) (he : m3m m.f m.n m.u = (word l).2) (hv : k.held.findIdx? (isM m) = some i) : RecP k l (letS k i m) true := by
 obtain ⟨_, _, _, h4, _⟩ := okK_parts hk
 have ho := (findM_ok h4 hv).1
 have hb := m3m_ok ho he
 exact .inl ⟨rfl, .lets m, ho, l_of hw hb (m3_ne _ _ _), by rw [applyS]; simp only [hv]⟩
theorem rec_eat_no {m : Mk} (hw : (word l).1 = kwEat) (hr : ReadK (word l).2 [m.f, m.n, m.u]) (hv : k.inbox.findIdx? (isM m) = none) : RecP k l k false := by
 refine .inr ⟨.inl rfl, nodo_of fun r x ho h1 h2 ha => ?_⟩
 obtain ⟨m', rfl⟩ := kw_eat (h1.trans hw)
 obtain ⟨e, _⟩ := m3M_read ho h2 hr
 subst e
 rw [applyS] at ha
 simp only [hv] at ha
 cases ha
theorem rec_eat_yes {m : Mk} {i : Nat} (hk : okK k = true) (hw : (word l).1 = kwEat) (he : m3m m.f m.n m.u = (word l).2) (hv : k.inbox.findIdx? (isM m) = some i) : RecP k l (eatS k i) true := by
 obtain ⟨_, _, _, _, _, h6, _⟩ := okK_parts hk
 have ho := (findM_ok h6 hv).1
 have hb := m3m_ok ho he
 exact .inl ⟨rfl, .eat m, ho, l_of hw hb (m3_ne _ _ _), by rw [applyS]; simp only [hv]⟩
theorem rec_mark_no {m : Mk} (hw : (word l).1 = kwMark) (hr : ReadK (word l).2 [m.f, m.n, m.u]) (hv : hasM k.marks m.f m.n = true) : RecP k l k false := by
 refine .inr ⟨.inl rfl, nodo_of fun r x ho h1 h2 ha => ?_⟩
 obtain ⟨m', rfl⟩ := kw_mark (h1.trans hw)
 obtain ⟨e, _⟩ := m3M_read ho h2 hr
 subst e
 rw [applyS, if_pos hv] at ha
 cases ha
theorem putM_mem (l : List Mk) (m : Mk) : m ∈ putM l m := by unfold putM putL; simp
theorem mark_bad {m : Mk} (h : okMk m = false) : okK { k with marks := putM k.marks m } = false := by
 cases ho : okK { k with marks := putM k.marks m } with
 | false => rfl
 | true =>
  obtain ⟨_, _, _, _, h5, _⟩ := okK_parts ho
  rw [okMks_mem h5 (putM_mem k.marks m)] at h
  cases h
theorem rec_mark_yes {m : Mk} (hw : (word l).1 = kwMark) (hr : ReadK (word l).2 [m.f, m.n, m.u]) (he : m3m m.f m.n m.u = (word l).2) (hv : hasM k.marks m.f m.n = false) : RecP k l { k with marks := putM k.marks m } true := by
 cases ho : okMk m with
 | true =>
  have hb := m3m_ok ho he
  exact .inl ⟨rfl, .mark m, ho, l_of hw hb (m3_ne _ _ _), by rw [applyS, if_neg (by rw [hv]; simp)]⟩
 | false =>
  refine .inr ⟨.inr (mark_bad ho), nodo_of fun r x ho' h1 h2 ha => ?_⟩
  exfalso
  obtain ⟨m', rfl⟩ := kw_mark (h1.trans hw)
  obtain ⟨e, _⟩ := m3M_read ho' h2 hr
  subst e
  have ho' : okMk m = true := ho'
  rw [ho] at ho'
  cases ho'
theorem rec_other (hw : ∀ r : Rc, kw r ≠ (word l).1) : RecP k l k false := .inr ⟨.inl rfl, nodo_word hw⟩
end
end Go.Proofs.YtckicpnnclbkpaaGreatDoor.kp

namespace Go.Proofs.YtckicpnnclbkpaaGreatDoor.kp
open Go.ChangeShapes Go.WideShapes Go.ChangeAt Go.RowKit
open wd ow rl ok nb dc
structure Sz (n : Nat) (k : Kp) : Prop where
 h : k.held.length ≤ n
 m : k.marks.length ≤ n
 i : k.inbox.length ≤ n
 ht : ∀ x ∈ k.held, x.s.size ≤ 1048576
 it : ∀ x ∈ k.inbox, x.s.size ≤ 1048576
theorem Sz.few {n : Nat} {k : Kp} (h : Sz n k) (hn : n ≤ 1048576) : k.held.length ≤ 1048576 ∧ k.marks.length ≤ 1048576 ∧ k.inbox.length ≤ 1048576 := ⟨Nat.le_trans h.h hn, Nat.le_trans h.m hn, Nat.le_trans h.i hn⟩
theorem Sz.texts {n : Nat} {k : Kp} (h : Sz n k) : (∀ x ∈ k.held, x.s.size ≤ maxLen) ∧ ∀ x ∈ k.inbox, x.s.size ≤ maxLen :=
 ⟨fun x hx => Nat.le_trans (h.ht x hx) (by unfold maxLen; omega), fun x hx => Nat.le_trans (h.it x hx) (by unfold maxLen; omega)⟩
theorem okNt_size {x : Nt} (h : okNt x = true) : x.s.size ≤ 1048576 := by
 obtain ⟨_, _, _, _, h5, _⟩ := okN_parts h
 omega
theorem sz_ok {k : Kp} (h : okK k = true) : Sz 12 k := by
 obtain ⟨_, _, _, h4, h5, h6, _⟩ := okK_parts h
 exact ⟨by have := (okNts_parts h4).1; omega, (okMks_parts h5).1, by have := (okNts_parts h6).1; omega, fun x hx => okNt_size (okNts_mem h4 hx), fun x hx => okNt_size (okNts_mem h6 hx)⟩
theorem Sz.up {n m : Nat} {k : Kp} (h : Sz n k) (hn : n ≤ m) : Sz m k := ⟨Nat.le_trans h.h hn, Nat.le_trans h.m hn, Nat.le_trans h.i hn, h.ht, h.it⟩
theorem mem_putL {α : Type} {p : α → Bool} {l : List α} {x y : α} (h : y ∈ putL p l x) : y = x ∨ y ∈ l := by
 unfold putL at h
 rw [List.mem_append, List.mem_cons] at h
 rcases h with h | h | h
 ·exact .inr (List.mem_of_mem_take h)
 ·exact .inl h
 ·exact .inr (List.mem_of_mem_drop h)
theorem mem_cutL {α : Type} {l : List α} {i : Nat} {y : α} (h : y ∈ cutL l i) : y ∈ l := by
 unfold cutL at h
 rw [List.mem_append] at h
 rcases h with h | h
 ·exact List.mem_of_mem_take h
 ·exact List.mem_of_mem_drop h
theorem cutL_le {α : Type} (l : List α) (i : Nat) : (cutL l i).length ≤ l.length := by
 unfold cutL
 rw [List.length_append, List.length_take, List.length_drop]
 omega
section
variable {n : Nat} {k : Kp}
theorem sz_time (h : Sz n k) (v : Int) : Sz n (timeS k v) :=
 ⟨Nat.le_trans (List.length_filter_le _ _) h.h, Nat.le_trans (List.length_filter_le _ _) h.m, h.i, fun x hx => h.ht x (List.mem_filter.1 hx).1, h.it⟩
theorem sz_held (h : Sz n k) {x : Nt} (hx : x.s.size ≤ 1048576) : Sz (n + 1) { k with held := putN k.held x } :=
 ⟨by show (putN k.held x).length ≤ _; rw [putN_len]; exact Nat.succ_le_succ h.h, Nat.le_succ_of_le h.m, Nat.le_succ_of_le h.i, fun y hy => by rcases mem_putL hy with rfl | h'; exact hx; exact h.ht y h', h.it⟩
theorem sz_inbox (h : Sz n k) {x : Nt} (hx : x.s.size ≤ 1048576) : Sz (n + 1) { k with inbox := putN k.inbox x } :=
 ⟨Nat.le_succ_of_le h.h, Nat.le_succ_of_le h.m, by show (putN k.inbox x).length ≤ _; rw [putN_len]; exact Nat.succ_le_succ h.i, h.ht, fun y hy => by rcases mem_putL hy with rfl | h'; exact hx; exact h.it y h'⟩
theorem sz_mark (h : Sz n k) (m : Mk) : Sz (n + 1) { k with marks := putM k.marks m } :=
 ⟨Nat.le_succ_of_le h.h, by show (putM k.marks m).length ≤ _; rw [putM_len]; exact Nat.succ_le_succ h.m, Nat.le_succ_of_le h.i, h.ht, h.it⟩
theorem sz_next (h : Sz n k) (v : Int) : Sz n { k with next := v } := ⟨h.h, h.m, h.i, h.ht, h.it⟩
theorem sz_take (h : Sz n k) {x : Nt} (hx : x.s.size ≤ 1048576) : Sz (n + 1) (takeS k x) := by
 unfold takeS
 split
 ·split
  ·have h1 := sz_inbox h hx
   have h2 := sz_mark h ⟨x.f, x.n, x.u⟩
   exact ⟨h1.h, h2.m, h1.i, h1.ht, h1.it⟩
  ·exact sz_held h hx
 ·exact h.up (Nat.le_succ _)
theorem sz_let (h : Sz n k) (i : Nat) (m : Mk) : Sz (n + 1) (letS k i m) :=
 ⟨Nat.le_succ_of_le (Nat.le_trans (cutL_le _ _) h.h), (sz_mark h m).m, Nat.le_succ_of_le h.i, fun y hy => h.ht y (mem_cutL hy), h.it⟩
theorem sz_eat (h : Sz n k) (i : Nat) : Sz n (eatS k i) :=
 ⟨h.h, h.m, Nat.le_trans (cutL_le _ _) h.i, h.ht, fun y hy => h.it y (mem_cutL hy)⟩
end
theorem CB.put2 {w V : World} {k : Kp} {a b c : Value} (h : CB w V k a b c) (v : Int) : CB w (V.setCell ⟨w.heap.size, 2, none⟩ (.int .i64 v)) { k with next := v } a b c := ⟨h.box.put 2 _, h.res.far (p := ⟨w.heap.size, 2, none⟩) (by show w.heap.size + 1 ≠ w.heap.size; omega) _, h.bel.setCell (p := ⟨w.heap.size, 2, none⟩) (Nat.le_refl _) _, by simpa using h.sz⟩
def RecPost (w : World) (k : Kp) (l : List UInt8) (e : Ending) (w' : World) : Prop := ∃ (k' : Kp) (b : Bool), RecP k l k' b ∧ Sz 14 k' ∧ ∃ vh vm vi, e = .returned (.tuple #[kpV k'.id k'.time k'.next vh vm vi, .bool b]) ∧ SeesK w' k' vh vm vi ∧ Below w.heap.size w w'
theorem sees_set {α : Type} {S : Shape α} {W : World} {v : Value} {l : List α} (p : Addr) (x : Value) (h : SeesR S W v l) (hp : v.ownBlock ≠ some p.block) : SeesR S (W.setCell p x) v l := by
 obtain ⟨A, c, rfl, hc⟩ := h
 refine ⟨A, c, rfl, ?_⟩
 rcases hc with hc | ⟨g, rfl, hg, hcell⟩
 ·exact .inl hc
 ·refine .inr ⟨g, rfl, by simpa using hg, fun i y hy j u hu => ?_⟩
  have e : (W.setCell p x).cell? ⟨g, i * S.n + j, none⟩ = W.cell? ⟨g, i * S.n + j, none⟩ := by
   apply World.cell?_setCell_other
   intro e
   apply hp
   rw [e]
   rfl
  rw [e]
  exact hcell i y hy j u hu
theorem sees_blk {α : Type} {S : Shape α} {W : World} {v : Value} {l : List α} (h : SeesR S W v l) {g : Nat} (hg : v.ownBlock = some g) : g < W.heap.size := by
 obtain ⟨A, c, rfl, hc⟩ := h
 rcases hc with ⟨rfl, _⟩ | ⟨g', rfl, hg', _⟩
 ·cases hg
 ·injection hg with hg
  exact hg ▸ hg'
theorem sees_put6 {α : Type} {S : Shape α} {W : World} {v : Value} {l : List α} {R : Nat} (h : SeesR S W v l) (hp : v.ownBlock ≠ some R) (a b c d e f : Value) : SeesR S (put6 W R a b c d e f) v l :=
 sees_set ⟨R, 5, none⟩ f (sees_set ⟨R, 4, none⟩ e (sees_set ⟨R, 3, none⟩ d (sees_set ⟨R, 2, none⟩ c (sees_set ⟨R, 1, none⟩ b (sees_set ⟨R, 0, none⟩ a h hp) hp) hp) hp) hp) hp
theorem From.ne {α : Type} {S : Shape α} {w0 w : World} {v v0 : Value} {l : List α} {R : Nat} (h : From w v v0) (hs : SeesR S w0 v0 l) (h0 : w0.heap.size ≤ R) (h1 : R < w.heap.size) : v.ownBlock ≠ some R := fun e => by
 rcases h R e with h | h
 ·omega
 ·have := sees_blk hs h
  omega
theorem OutK.put6 {w0 w w' : World} {k0 k : Kp} {a b c vh vm vi : Value} {R : Nat} (h : OutK w w' k a b c vh vm vi) (hs : SeesK w0 k0 a b c) (h0 : w0.heap.size ≤ R) (h1 : R < w.heap.size) (x0 x1 x2 x3 x4 x5 : Value) : SeesK (put6 w' R x0 x1 x2 x3 x4 x5) k vh vm vi :=
 ⟨sees_put6 h.sees.held (h.fh.ne hs.held h0 h1) _ _ _ _ _ _, sees_put6 h.sees.marks (h.fm.ne hs.marks h0 h1) _ _ _ _ _ _, sees_put6 h.sees.inbox (h.fi.ne hs.inbox h0 h1) _ _ _ _ _ _⟩
theorem cell_set {W : World} {g i R j : Nat} (h : g ≠ R) (x : Value) : (W.setCell ⟨R, j, none⟩ x).cell? ⟨g, i, none⟩ = W.cell? ⟨g, i, none⟩ := by
 apply World.cell?_setCell_other
 intro e
 injection e with e
 exact h e.symm
theorem cell_put6 {W : World} {g i R : Nat} (h : g ≠ R) (a b c d e f : Value) : (put6 W R a b c d e f).cell? ⟨g, i, none⟩ = W.cell? ⟨g, i, none⟩ := by
 unfold put6
 rw [cell_set h, cell_set h, cell_set h, cell_set h, cell_set h, cell_set h]
end Go.Proofs.YtckicpnnclbkpaaGreatDoor.kp

