/-
  Merged texts: DoPlain3, INums, IRec1, IRec2, DecM.
-/
import Derived.Test.YtckicpnnclbkpaaGreatDoorE23
import Derived.Test.YtckicpnnclbkpaaGreatDoorE20
import Derived.Lib.ItoaLen
namespace Go.Proofs.YtckicpnnclbkpaaGreatDoor.kp
open nb ok dc
def m3I (m : Mk) : List UInt8 := Lib.itoa m.f ++ 32 :: (Lib.itoa m.n ++ 32 :: Lib.itoa m.u)
def bodyI : Rc → List UInt8
 | .time v => Lib.itoa v
 | .next v => Lib.itoa v
 | .own x => wlN x
 | .take x => wlN x
 | .held x => wlN x
 | .inbox x => wlN x
 | .lets m => m3I m
 | .eat m => m3I m
 | .mark m => m3I m
def txL (r : Rc) : List UInt8 := kw r ++ 32 :: bodyI r
def ntIn : Rc → Prop
 | .own x => okNt x = true
 | .take x => okNt x = true
 | .held x => okNt x = true
 | .inbox x => okNt x = true
 | _ => True
theorem bodyI_ok {r : Rc} (h : rcOk r) : bodyI r = body r := by
 cases r with
 | time v => exact itoa_dl h.1
 | next v => exact itoa_dl h.1
 | own x => rfl
 | take x => rfl
 | held x => rfl
 | inbox x => rfl
 | lets m => obtain ⟨a, b, c⟩ := okMk_parts h; unfold bodyI body m3I m3M m3; simp only; rw [itoa_dl (by omega), itoa_dl (by omega), itoa_dl (by omega)]
 | eat m => obtain ⟨a, b, c⟩ := okMk_parts h; unfold bodyI body m3I m3M m3; simp only; rw [itoa_dl (by omega), itoa_dl (by omega), itoa_dl (by omega)]
 | mark m => obtain ⟨a, b, c⟩ := okMk_parts h; unfold bodyI body m3I m3M m3; simp only; rw [itoa_dl (by omega), itoa_dl (by omega), itoa_dl (by omega)]
theorem txL_ok {r : Rc} (h : rcOk r) : txL r = rcL r := by unfold txL rcL; rw [bodyI_ok h]
def RO (a b : List UInt8) : Option Rc → Prop
 | some r => ntIn r ∧ kw r = a ∧ ∀ r', rcOk r' → kw r' = a → body r' = b → r' = r
 | none => ∀ r', rcOk r' → kw r' = a → body r' ≠ b
def RR (l : List UInt8) : Option Rc → Prop
 | some r => ntIn r ∧ l = txL r ∧ ∀ r', rcOk r' → l = rcL r' → r' = r
 | none => ∀ r', rcOk r' → l ≠ rcL r'
theorem ro_time (b : List UInt8) : RO kwTime b (some (.time (atoiV (word b).1))) := by
 refine ⟨trivial, rfl, fun r' ho h1 h2 => ?_⟩
 obtain ⟨v, rfl⟩ := kw_time h1
 rw [← show dl v = b from h2, word_all, atoiV_dl ho.1 ho.2]
theorem ro_next (b : List UInt8) : RO kwNext b (some (.next (atoiV (word b).1))) := by
 refine ⟨trivial, rfl, fun r' ho h1 h2 => ?_⟩
 obtain ⟨v, rfl⟩ := kw_next h1
 rw [← show dl v = b from h2, word_all, atoiV_dl ho.1 ho.2]
def mkR (b : List UInt8) : Mk := ⟨atoiV (word b).1, atoiV (word (restK b 1)).1, atoiV (word (restK b 2)).1⟩
theorem mkR_of {m : Mk} {b : List UInt8} (h : okMk m = true) (e : m3M m = b) : m = mkR b := by
 obtain ⟨a1, a2, a3⟩ := okMk_parts h
 have w0 : word b = (dl m.f, dl m.n ++ 32 :: dl m.u) := by rw [← e]; exact word_dl m.f _
 have w1 : word (restK b 1) = (dl m.n, dl m.u) := by show word (word b).2 = _; rw [w0]; exact word_dl m.n _
 have w2 : word (restK b 2) = (dl m.u, []) := by show word (word (restK b 1)).2 = _; rw [w1]; exact word_all m.u
 unfold mkR
 rw [w0, w1, w2]
 simp only
 rw [atoiV_dl (by omega) (by omega), atoiV_dl (by omega) (by omega), atoiV_dl (by omega) (by omega)]
theorem ro_let (b : List UInt8) : RO kwLet b (some (.lets (mkR b))) := by
 refine ⟨trivial, rfl, fun r' ho h1 h2 => ?_⟩
 obtain ⟨m, rfl⟩ := kw_let h1
 rw [mkR_of ho h2]
theorem ro_eat (b : List UInt8) : RO kwEat b (some (.eat (mkR b))) := by
 refine ⟨trivial, rfl, fun r' ho h1 h2 => ?_⟩
 obtain ⟨m, rfl⟩ := kw_eat h1
 rw [mkR_of ho h2]
theorem ro_mark (b : List UInt8) : RO kwMark b (some (.mark (mkR b))) := by
 refine ⟨trivial, rfl, fun r' ho h1 h2 => ?_⟩
 obtain ⟨m, rfl⟩ := kw_mark h1
 rw [mkR_of ho h2]
section
variable {b : List UInt8} {y : Nt}
theorem ro_own (h : RD (str b) true y.f y.n y.t y.u y.s) : RO kwOwn b (some (.own y)) := by
 refine ⟨(rd_true h).1, rfl, fun r' ho h1 h2 => ?_⟩
 obtain ⟨m, rfl⟩ := kw_own h1
 rw [(rd_note h ho h2).2]
theorem ro_own_no (h : RD (str b) false y.f y.n y.t y.u y.s) : RO kwOwn b none := by
 intro r' ho h1 h2
 obtain ⟨m, rfl⟩ := kw_own h1
 cases (rd_note h ho h2).1
theorem ro_take (h : RD (str b) true y.f y.n y.t y.u y.s) : RO kwTake b (some (.take y)) := by
 refine ⟨(rd_true h).1, rfl, fun r' ho h1 h2 => ?_⟩
 obtain ⟨m, rfl⟩ := kw_take h1
 rw [(rd_note h ho h2).2]
theorem ro_take_no (h : RD (str b) false y.f y.n y.t y.u y.s) : RO kwTake b none := by
 intro r' ho h1 h2
 obtain ⟨m, rfl⟩ := kw_take h1
 cases (rd_note h ho h2).1
theorem ro_held (h : RD (str b) true y.f y.n y.t y.u y.s) : RO kwHeld b (some (.held y)) := by
 refine ⟨(rd_true h).1, rfl, fun r' ho h1 h2 => ?_⟩
 obtain ⟨m, rfl⟩ := kw_held h1
 rw [(rd_note h ho h2).2]
theorem ro_held_no (h : RD (str b) false y.f y.n y.t y.u y.s) : RO kwHeld b none := by
 intro r' ho h1 h2
 obtain ⟨m, rfl⟩ := kw_held h1
 cases (rd_note h ho h2).1
theorem ro_inbox (h : RD (str b) true y.f y.n y.t y.u y.s) : RO kwInbox b (some (.inbox y)) := by
 refine ⟨(rd_true h).1, rfl, fun r' ho h1 h2 => ?_⟩
 obtain ⟨m, rfl⟩ := kw_inbox h1
 rw [(rd_note h ho h2).2]
theorem ro_inbox_no (h : RD (str b) false y.f y.n y.t y.u y.s) : RO kwInbox b none := by
 intro r' ho h1 h2
 obtain ⟨m, rfl⟩ := kw_inbox h1
 cases (rd_note h ho h2).1
end
theorem ro_other {a b : List UInt8} (h : ∀ r, kw r ≠ a) : RO a b none := fun r' _ h1 _ => h r' h1
theorem rr_some {l : List UInt8} {r : Rc} (h : RO (word l).1 (word l).2 (some r)) (e : l = txL r) : RR l (some r) := by
 obtain ⟨h1, _, h3⟩ := h
 refine ⟨h1, e, fun r' ho e' => h3 r' ho ?_ ?_⟩
 ·rw [e', word_rcL]
 ·rw [e', word_rcL]
theorem rr_none {l : List UInt8} (h : RO (word l).1 (word l).2 none) : RR l none := by
 intro r' ho e'
 refine h r' ho ?_ ?_
 ·rw [e', word_rcL]
 ·rw [e', word_rcL]
theorem rr_other {l : List UInt8} {r : Rc} (h : RO (word l).1 (word l).2 (some r)) (e : l ≠ txL r) : RR l none := by
 obtain ⟨_, _, h3⟩ := h
 intro r' ho e'
 have : r' = r := h3 r' ho (by rw [e', word_rcL]) (by rw [e', word_rcL])
 subst this
 exact e (by rw [txL_ok ho]; exact e')
theorem rcOk_of {k k' : Kp} {r : Rc} (hk : okK k = true) (hn : ntIn r) (ha : applyS k r = some k') (hk' : okK k' = true) : rcOk r := by
 cases r with
 | time v =>
  rw [applyS] at ha
  split at ha
  ·cases ha
   obtain ⟨_, h1, _⟩ := okK_parts hk
   obtain ⟨_, h2, _⟩ := okK_parts hk'
   have h1 := inB_iff.1 h1
   have h2 := inB_iff.1 h2
   have : (timeS k v).time = v := rfl
   exact ⟨by omega, by omega⟩
  ·cases ha
 | next v =>
  rw [applyS] at ha
  split at ha
  ·cases ha
   obtain ⟨_, _, h1, _⟩ := okK_parts hk
   obtain ⟨_, _, h2, _⟩ := okK_parts hk'
   have h1 := inB_iff.1 h1
   have h2 := inB_iff.1 h2
   simp only at h2
   exact ⟨by omega, by omega⟩
  ·cases ha
 | own x => exact hn
 | take x => exact hn
 | held x => exact hn
 | inbox x => exact hn
 | lets m =>
  rw [applyS] at ha
  obtain ⟨_, _, _, h4, _⟩ := okK_parts hk
  cases hf : k.held.findIdx? (isM m) with
  | none => simp only [hf] at ha; cases ha
  | some i => exact (findM_ok h4 hf).1
 | eat m =>
  rw [applyS] at ha
  obtain ⟨_, _, _, _, _, h6, _⟩ := okK_parts hk
  cases hf : k.inbox.findIdx? (isM m) with
  | none => simp only [hf] at ha; cases ha
  | some i => exact (findM_ok h6 hf).1
 | mark m =>
  rw [applyS] at ha
  split at ha
  ·cases ha
  ·cases ha
   cases ho : okMk m with
   | true => exact ho
   | false => rw [mark_bad ho] at hk'; cases hk'
theorem does_none {k : Kp} {l : List UInt8} (h : RR l none) : Does k l k false := .inr ⟨rfl, rfl, fun r' _ ho e => absurd e (h r' ho)⟩
theorem does_not {k : Kp} {l : List UInt8} {r : Rc} (h : RR l (some r)) (ha : applyS k r = none) : Does k l k false := by
 refine .inr ⟨rfl, rfl, fun r' x ho e hx => ?_⟩
 obtain ⟨_, _, h3⟩ := h
 have := h3 r' ho e
 subst this
 rw [ha] at hx; cases hx
theorem does_bad {k k' : Kp} {l : List UInt8} {r : Rc} (h : RR l (some r)) (ha : applyS k r = some k') (hk' : okK k' = false) : Does k l k false := by
 refine .inr ⟨rfl, rfl, fun r' x ho e hx => ?_⟩
 obtain ⟨_, _, h3⟩ := h
 have := h3 r' ho e
 subst this
 rw [ha] at hx
 cases hx
 exact hk'
theorem does_yes {k k' : Kp} {l : List UInt8} {r : Rc} (hk : okK k = true) (h : RR l (some r)) (ha : applyS k r = some k') (hk' : okK k' = true) : Does k l k' true := by
 obtain ⟨h1, h2, _⟩ := h
 have ho := rcOk_of hk h1 ha hk'
 exact .inl ⟨rfl, r, ho, by rw [h2, txL_ok ho], ha, hk'⟩
end Go.Proofs.YtckicpnnclbkpaaGreatDoor.kp

namespace Go.Proofs.YtckicpnnclbkpaaGreatDoor.kp
open Go.ChangeShapes Go.WideShapes Go.ChangeAt Go.RowKit
open nb ok wd dc
def rdV (l : List UInt8) (i : Nat) : Int := atoiV (word (restK l i)).1
def cellsR (l : List UInt8) (c k : Nat) : Array Value := ((List.range c).map fun i => Value.int .i64 (if i < k then rdV l i else 0)).toArray
def ptrR (g c : Nat) : Array Value := ((List.range c).map fun i => Value.pointer (some ⟨g, i, none⟩)).toArray
theorem ptrR_at {c k : Nat} (h : k < c) (g : Nat) : (ptrR g c)[k]? = some (.pointer (some ⟨g, k, none⟩)) := by simp [ptrR, h]
theorem cellsR_get (l : List UInt8) {c i : Nat} (k : Nat) (h : i < c) : (cellsR l c k)[i]? = some (.int .i64 (if i < k then rdV l i else 0)) := by simp [cellsR, h]
theorem cellsR_size (l : List UInt8) (c k : Nat) : (cellsR l c k).size = c := by simp [cellsR]
theorem cellsR_put (l : List UInt8) {c k : Nat} (_h : k < c) : (cellsR l c k).setIfInBounds k (.int .i64 (rdV l k)) = cellsR l c (k + 1) := by
 apply Array.ext_getElem?
 intro i
 by_cases hi : i < c
 ·rw [Array.getElem?_setIfInBounds, cellsR_size, cellsR_get l _ hi, cellsR_get l _ hi]
  by_cases e : k = i
  ·subst e; simp [hi]
  ·rw [if_neg e]
   by_cases h2 : i < k
   ·rw [if_pos h2, if_pos (by omega)]
   ·rw [if_neg h2, if_neg (by omega)]
 ·rw [Array.getElem?_eq_none (by rw [Array.size_setIfInBounds, cellsR_size]; omega), Array.getElem?_eq_none (by rw [cellsR_size]; omega)]
def RnPost (w0 : World) (l : List UInt8) (g : Nat) (T : TypeId) (c : Nat) (e : Ending) (w' : World) : Prop :=
 e = .returned (.string (str (restK l c))) ∧ Blk w' g T (cellsR l c c) ∧ Below w0.heap.size w0 w'
set_option maxRecDepth 100000 in
set_option maxHeartbeats 2000000 in
theorem rnumsR (T : TypeId) (l : List UInt8) (hs : l.length ≤ 1048576) (w0 w : World) (g R c : Nat) (hN : Blk w g T (cellsR l c 0)) (hP : Blk w R 290 (ptrR g c)) (hRg : R ≠ g) (hg : w0.heap.size ≤ g) (hB : Below w0.heap.size w0 w) (hErr : Errs w0) (hc : c ≤ 3) :
  Calls Tryz.prog 225 #[.string (str l), .slice (some ⟨R, 0, none⟩) c c] w (RnPost w0 l g T c) := by
 have HN1 := Lib.hid hN
 have HP1 := Lib.hid hP
 have HB1 := Lib.hid hB
 have HRg := Lib.hid hRg
 have Hg := Lib.hid hg
 have HS := Lib.hid hs
 clear hN hP hB hRg hg hs
 go_enter Tryz.func225, Tryz.ntmps225
 go_wp2
 go_loopw [0, 12] (fun rv i wr => ∃ (k : Nat), k ≤ c ∧ i = .int .i64 k ∧ rv = .string (str (restK l k)) ∧ Hid (Blk wr g T (cellsR l c k)) ∧ Hid (Blk wr R 290 (ptrR g c)) ∧ Hid (Below w0.heap.size w0 wr)) (fun _ i _ => c - (intOf i).toNat)
 case atStart => exact ⟨0, by omega, rfl, rfl, HN1.out, HP1.out, HB1.out⟩
 case round =>
  obtain ⟨k, hk, rfl, rfl, HN, HP, HB⟩ := hrel
  clear HN1 HP1 HB1
  by_cases hkc : k < c
  ·have hr := restK_len l k
   have hs := HS.out
   have hwl := word_len (restK l k)
   have HV := Lib.hid (show atoiV (word (restK l k)).1 = rdV l k from rfl)
   have HQ := Lib.hid (show (word (restK l k)).2 = restK l (k + 1) from rfl)
   have HW := Lib.hid (fun W => cut_any (str (restK l k)) (by rw [str_size]; omega) W)
   have HD := Lib.hid (fun W h => atoi_any (str (word (restK l k)).1) (by rw [str_size]; omega) W h)
   unfold CutPost at HW
   rw [data_str] at HW HD
   clear hwl hr hs
   generalize word (restK l k) = pq at HV HQ HW HD
   generalize str (restK l k) = sr at HW ⊢
   obtain ⟨p, q⟩ := pq
   simp only at HV HQ HW HD
   have ix := (HP.out.cell k).trans (ptrR_at hkc g)
   have hk1 : (k : Int) < (c : Int) := by omega
   go_wp2_with fail
   clear ix
   refine (HW.out _).mono ?_
   rintro e w2 ⟨fb, rfl, hB2⟩
   have HB2 := Lib.hid (HB.out.trans (hB2.mono HB.out.size))
   have HE := Lib.hid (hErr.later HB2.out)
   have HN2 := Lib.hid (HN.out.below hB2 HN.out.lt)
   have HP2 := Lib.hid (HP.out.below hB2 HP.out.lt)
   clear hB2 HB HN HP HW
   go_wp2_with fail
   refine (HD.out _ HE.out).mono ?_
   rintro e w3 ⟨er, rfl, hB3⟩
   have HB3 := Lib.hid ((HB2.out.trans (hB3.mono HB2.out.size)).setCell (p := ⟨g, k, none⟩) Hg.out (.int .i64 (atoiV p)))
   have HP3 := Lib.hid ((HP2.out.below hB3 HP2.out.lt).far (p := ⟨g, k, none⟩) HRg.out (.int .i64 (atoiV p)))
   have hN3 := HN2.out.below hB3 HN2.out.lt
   have ho := cellsR_get l k hkc
   have c1 := (hN3.cell k).trans ho
   have fz := hN3.frozen k
   have R3 := hN3.put k (.int .i64 (atoiV p))
   rw [show (cellsR l c k).setIfInBounds k (.int .i64 (atoiV p)) = cellsR l c (k + 1) by rw [HV.out]; exact cellsR_put l hkc] at R3
   have HN3 := Lib.hid R3
   clear hB3 HB2 HN2 HP2 HE hN3 R3 ho HD HV
   generalize atoiV p = y at HB3 HN3 HP3 ⊢
   go_wp2
   go_roundw
   case rel => exact ⟨k + 1, by omega, by go_num, by rw [HQ.out], HN3, HP3, HB3⟩
   case measure => simp [intOf]; omega
  ·obtain rfl : k = c := by omega
   have hk1 : ¬ (k : Int) < (k : Int) := by omega
   go_wp2
   go_ret
   exact ⟨rfl, HN.out, HB.out⟩
end Go.Proofs.YtckicpnnclbkpaaGreatDoor.kp

namespace Go.Proofs.YtckicpnnclbkpaaGreatDoor.kp
open Go.ChangeShapes Go.WideShapes Go.ChangeAt Go.RowKit
open nb ok wd dc
theorem itoa_i64 (n : Int) (h0 : -9223372036854775808 ≤ n) (h1 : n ≤ 9223372036854775807) (w : World) (h : Tab w) :
  Calls Tryz.prog 160 #[.int .i64 n] w (StrPost w (str (Lib.itoa n))) := by
 refine (Tryz.strconv_Itoa n h0 h1 w h).mono ?_
 rintro e w' ⟨rfl, k, os, rfl⟩
 exact ⟨rfl, below_grow w k os⟩
def i64 (v : Int) : Prop := -9223372036854775808 ≤ v ∧ v ≤ 9223372036854775807
theorem itoa_len {v : Int} (h : i64 v) : (str (Lib.itoa v)).size ≤ 21 := by
 obtain ⟨h0, h1⟩ := h
 rw [str_size]
 unfold Lib.itoa
 split
 ·rw [List.length_cons, Lib.decDigits_length]
  have := Lib.nDigits_le20 v.natAbs (by omega)
  omega
 ·rw [Lib.decDigits_length]
  have := Lib.nDigits_le20 v.toNat (by omega)
  omega
theorem atoi_i64 (l : List UInt8) : i64 (atoiV l) := by
 unfold i64
 unfold atoiV
 cases h : Lib.atoiAll l with
 | ok v =>
  simp only
  unfold Lib.atoiAll at h
  cases l with
  | nil => cases h
  | cons c r =>
   simp only at h
   cases hp : Lib.parseMag (if c.toNat = 43 ∨ c.toNat = 45 then r else c :: r) with
   | ok u =>
    rw [hp] at h
    simp only at h
    split at h
    ·cases h
    ·split at h
     ·cases h
     ·injection h with h
      rw [← h]
      split <;> omega
   | _ => rw [hp] at h; cases h
 | range => simp only; unfold Lib.atoiSat; split <;> omega
 | _ => simp only; omega
theorem cells1 (l : List UInt8) : cellsR l 1 0 = #[.int .i64 0] := by simp [cellsR, List.range, List.range.loop]
theorem cells3 (l : List UInt8) : cellsR l 3 0 = #[.int .i64 0, .int .i64 0, .int .i64 0] := by simp [cellsR, List.range, List.range.loop]
theorem ptr1 (g : Nat) : ptrR g 1 = #[.pointer (some ⟨g, 0, none⟩)] := by simp [ptrR, List.range, List.range.loop]
theorem ptr3 (g : Nat) : ptrR g 3 = #[.pointer (some ⟨g, 0, none⟩), .pointer (some ⟨g, 1, none⟩), .pointer (some ⟨g, 2, none⟩)] := by simp [ptrR, List.range, List.range.loop]
set_option maxRecDepth 100000 in
theorem rnum_any (l : List UInt8) (hs : l.length ≤ 1048576) (w : World) (hErr : Errs w) :
  Calls Tryz.prog 206 #[.string (str l)] w fun e w' => e = .returned (.int .i64 (rdV l 0)) ∧ Below w.heap.size w w' := by
 have hN := (Blk.new w 3 #[.int .i64 0]).alloc (.cells (ptrR w.heap.size 1) 290)
 have hP := Blk.new (w.alloc (.cells #[.int .i64 0] 3)) 290 (ptrR w.heap.size 1)
 rw [World.size_alloc] at hP
 have hB : Below w.heap.size w ((w.alloc (.cells #[.int .i64 0] 3)).alloc (.cells (ptrR w.heap.size 1) 290)) := ((Below.refl _ _).alloc (Nat.le_refl _) _).alloc (by simp) _
 rw [← cells1 l] at hN
 have HR := Lib.hid (rnumsR 3 l hs w _ w.heap.size (w.heap.size + 1) 1 hN hP (by omega) (Nat.le_refl _) hB hErr (by omega))
 rw [ptr1] at HR
 clear hN hP hB
 unfold RnPost at HR
 generalize str l = s at HR ⊢
 go_enter Tryz.func206, Tryz.ntmps206
 go_wp2_with fail
 refine HR.out.mono ?_
 rintro e w2 ⟨rfl, hN2, hB2⟩
 have c0 := (hN2.cell 0).trans (cellsR_get l 1 (show 0 < 1 by omega))
 have HB2 := Lib.hid hB2
 clear hN2 hB2 HR
 rw [if_pos (by omega)] at c0
 go_wp2
 go_ret
 exact ⟨rfl, HB2.out⟩
set_option maxRecDepth 100000 in
set_option maxHeartbeats 800000 in
theorem rmark_any (l : List UInt8) (hs : l.length ≤ 1048576) (w : World) (hErr : Errs w) :
  Calls Tryz.prog 208 #[.string (str l)] w fun e w' => e = .returned (mkV (mkR l)) ∧ Below w.heap.size w w' := by
 have k0 := ((Blk.new w 108 #[.int .i64 0, .int .i64 0, .int .i64 0]).alloc (.cells #[.int .i64 0, .int .i64 0, .int .i64 0] 108)).alloc (.cells (ptrR (w.heap.size + 1) 3) 290)
 have hN := (Blk.new (w.alloc (.cells #[.int .i64 0, .int .i64 0, .int .i64 0] 108)) 108 #[.int .i64 0, .int .i64 0, .int .i64 0]).alloc (.cells (ptrR (w.heap.size + 1) 3) 290)
 have hP := Blk.new ((w.alloc (.cells #[.int .i64 0, .int .i64 0, .int .i64 0] 108)).alloc (.cells #[.int .i64 0, .int .i64 0, .int .i64 0] 108)) 290 (ptrR (w.heap.size + 1) 3)
 simp only [World.size_alloc] at hN hP
 have hB : Below (w.alloc (.cells #[.int .i64 0, .int .i64 0, .int .i64 0] 108)).heap.size (w.alloc (.cells #[.int .i64 0, .int .i64 0, .int .i64 0] 108)) (((w.alloc (.cells #[.int .i64 0, .int .i64 0, .int .i64 0] 108)).alloc (.cells #[.int .i64 0, .int .i64 0, .int .i64 0] 108)).alloc (.cells (ptrR (w.heap.size + 1) 3) 290)) := ((Below.refl _ _).alloc (Nat.le_refl _) _).alloc (by simp) _
 have hB1 : Below w.heap.size w (w.alloc (.cells #[.int .i64 0, .int .i64 0, .int .i64 0] 108)) := (Below.refl _ _).alloc (Nat.le_refl _) _
 have k1 : Blk (w.alloc (.cells #[.int .i64 0, .int .i64 0, .int .i64 0] 108)) w.heap.size 108 #[.int .i64 0, .int .i64 0, .int .i64 0] := Blk.new w _ _
 rw [← cells3 l] at hN
 have HR := Lib.hid (rnumsR 108 l hs (w.alloc (.cells #[.int .i64 0, .int .i64 0, .int .i64 0] 108)) _ (w.heap.size + 1) (w.heap.size + 1 + 1) 3 hN hP (by omega) (by simp) hB (hErr.later hB1) (by omega))
 rw [ptr3] at HR
 have HB1 := Lib.hid hB1
 have HK1 := Lib.hid k1
 clear hN hP hB k0 hB1 k1
 unfold RnPost at HR
 generalize str l = s at HR ⊢
 go_enter Tryz.func208, Tryz.ntmps208
 go_wp2_with fail
 refine HR.out.mono ?_
 rintro e w2 ⟨rfl, hN2, hB2⟩
 have c0 := (hN2.cell 0).trans (cellsR_get l 3 (show 0 < 3 by omega))
 have c1 := (hN2.cell 1).trans (cellsR_get l 3 (show 1 < 3 by omega))
 have c2 := (hN2.cell 2).trans (cellsR_get l 3 (show 2 < 3 by omega))
 rw [if_pos (by omega)] at c0 c1 c2
 have z := HK1.out.below hB2 HK1.out.lt
 have z0 := z.cell 0
 have z1 := z.cell 1
 have z2 := z.cell 2
 have y0 := z.frozen 0
 have y1 := z.frozen 1
 have y2 := z.frozen 2
 simp only [List.getElem?_toArray, List.getElem?_cons_zero, List.getElem?_cons_succ] at z0 z1 z2
 have HB2 := Lib.hid (HB1.out.trans (hB2.mono HB1.out.size))
 have HM := Lib.hid (show mkV (mkR l) = mark (rdV l 0) (rdV l 1) (rdV l 2) from rfl)
 clear hN2 hB2 HR z
 generalize rdV l 0 = v0 at c0 HM
 generalize rdV l 1 = v1 at c1 HM
 generalize rdV l 2 = v2 at c2 HM
 go_wp2
 refine bodyPost_ret (v := mark v0 v1 v2) (by simp [results, Tryz.results208, go_sem, mark, *]) rfl ⟨by rw [HM.out], ?_⟩
 exact ((HB2.out.setCell (p := ⟨w.heap.size, 0, none⟩) (Nat.le_refl _) _).setCell (p := ⟨w.heap.size, 1, none⟩) (Nat.le_refl _) _).setCell (p := ⟨w.heap.size, 2, none⟩) (Nat.le_refl _) _
def RNote (w : World) (l : List UInt8) (e : Ending) (w' : World) : Prop :=
 (∃ y : Nt, e = .returned (ntV y) ∧ RD (str l) true y.f y.n y.t y.u y.s ∧ Below w.heap.size w w') ∨ (e = Imp ∧ (∃ y : Nt, RD (str l) false y.f y.n y.t y.u y.s) ∧ Below w.heap.size w w')
set_option maxRecDepth 100000 in
set_option maxHeartbeats 800000 in
theorem rnote_any (l : List UInt8) (hs : l.length ≤ 1048576) (w : World) (hTab : Tab w) (hErr : Errs w) :
  Calls Tryz.prog 207 #[.string (str l)] w (RNote w l) := by
 have k1 := Blk.new w 105 #[.int .i64 0, .int .i64 0, .int .i64 0, .int .i64 0, .string ⟨#[]⟩]
 have hB0 := (Below.refl w.heap.size w).alloc (Nat.le_refl _) (.cells #[.int .i64 0, .int .i64 0, .int .i64 0, .int .i64 0, .string ⟨#[]⟩] 105)
 have HR := Lib.hid (fun V h1 h2 => iread_any (str l) (by rw [str_size]; omega) V h1 h2)
 unfold ReadPost at HR
 go_enter Tryz.func207, Tryz.ntmps207
 go_wp2_with fail
 generalize w.alloc (.cells #[.int .i64 0, .int .i64 0, .int .i64 0, .int .i64 0, .string ⟨#[]⟩] 105) = V at k1 hB0 ⊢
 refine (HR.out V (hTab.later hB0) (hErr.later hB0)).mono ?_
 rintro e w2 ⟨b, f, n, t, u, s, rfl, hrd, hB2⟩
 have HRD := Lib.hid hrd
 have HB2 := hB0.trans (hB2.mono hB0.size)
 have z2 := (k1.below hB2 k1.lt).alloc (.cells #[.int .i64 f, .int .i64 n, .int .i64 t, .int .i64 u, .string s] 105)
 have x2 := Blk.new w2 105 #[.int .i64 f, .int .i64 n, .int .i64 t, .int .i64 u, .string s]
 have HB3 := Lib.hid (HB2.alloc HB2.size (.cells #[.int .i64 f, .int .i64 n, .int .i64 t, .int .i64 u, .string s] 105))
 clear k1 hB0 HR hrd hB2 HB2
 unfold note
 go_upto_region 2 with (fail)
 generalize w2.alloc (.cells #[.int .i64 f, .int .i64 n, .int .i64 t, .int .i64 u, .string s] 105) = U at z2 x2 HB3 ⊢
 generalize w2.heap.size = xb at x2 ⊢
 cases b with
 | false =>
  go_wp2_with fail
  refine (require_f _).mono ?_
  rintro e w3 ⟨rfl, rfl⟩
  go_wp2
  exact ⟨rfl, .inr ⟨rfl, ⟨⟨f, n, t, u, s⟩, HRD.out⟩, HB3.out⟩⟩
 | true =>
  go_wp2_with fail
  refine (require_t _).mono ?_
  rintro e w3 ⟨rfl, rfl⟩
  have z0 := z2.cell 0
  have z1 := z2.cell 1
  have zz2 := z2.cell 2
  have z3 := z2.cell 3
  have z4 := z2.cell 4
  have y0 := z2.frozen 0
  have y1 := z2.frozen 1
  have y2 := z2.frozen 2
  have y3 := z2.frozen 3
  have y4 := z2.frozen 4
  have c0 := x2.cell 0
  have c1 := x2.cell 1
  have c2 := x2.cell 2
  have c3 := x2.cell 3
  have c4 := x2.cell 4
  simp only [List.getElem?_toArray, List.getElem?_cons_zero, List.getElem?_cons_succ] at z0 z1 zz2 z3 z4 c0 c1 c2 c3 c4
  clear z2 x2
  go_wp2
  refine bodyPost_ret (v := note f n t u s) (by simp [results, Tryz.results207, go_sem, note, *]) rfl (.inl ⟨⟨f, n, t, u, s⟩, rfl, HRD.out, ?_⟩)
  exact put5 HB3.out
end Go.Proofs.YtckicpnnclbkpaaGreatDoor.kp

namespace Go.Proofs.YtckicpnnclbkpaaGreatDoor.kp
open Go.ChangeShapes Go.WideShapes Go.ChangeAt Go.RowKit
open nb ok wd dc
theorem m3I_cat (m : Mk) : ((((str (Lib.itoa m.f) ++ ⟨#[32]⟩) ++ str (Lib.itoa m.n)) ++ ⟨#[32]⟩) ++ str (Lib.itoa m.u)) = str (m3I m) := by
 rw [show (⟨#[32]⟩ : ByteArray) = str [32] from rfl, str_app, str_app, str_app, str_app]
 unfold m3I
 simp
def i64M (m : Mk) : Prop := i64 m.f ∧ i64 m.n ∧ i64 m.u
theorem m3I_len {m : Mk} (h : i64M m) : (str (m3I m)).size ≤ 65 := by
 obtain ⟨h1, h2, h3⟩ := h
 have l1 := itoa_len h1
 have l2 := itoa_len h2
 have l3 := itoa_len h3
 rw [← m3I_cat]
 simp only [ByteArray.size_append]
 have : (⟨#[32]⟩ : ByteArray).size = 1 := rfl
 omega
set_option maxRecDepth 100000 in
set_option maxHeartbeats 800000 in
theorem markText_any (m : Mk) (h : i64M m) (w : World) (hTab : Tab w) : Calls Tryz.prog 295 #[mkV m] w (StrPost w (str (m3I m))) := by
 have l1 := itoa_len h.1
 have l2 := itoa_len h.2.1
 have l3 := itoa_len h.2.2
 have D1 := Lib.hid (fun V hV => itoa_i64 m.f h.1.1 h.1.2 V hV)
 have D2 := Lib.hid (fun V hV => itoa_i64 m.n h.2.1.1 h.2.1.2 V hV)
 have D3 := Lib.hid (fun V hV => itoa_i64 m.u h.2.2.1 h.2.2.2 V hV)
 have HC := Lib.hid (m3I_cat m)
 unfold StrPost at D1 D2 D3
 generalize str (Lib.itoa m.f) = x1 at l1 D1 HC
 generalize str (Lib.itoa m.n) = x2 at l2 D2 HC
 generalize str (Lib.itoa m.u) = x3 at l3 D3 HC
 have lb : (⟨#[32]⟩ : ByteArray).size = 1 := rfl
 obtain ⟨a1, e1, q1, r1⟩ := adds x1 ⟨#[32]⟩ (by omega)
 obtain ⟨a2, e2, q2, r2⟩ := adds a1 x2 (by omega)
 obtain ⟨a3, e3, q3, r3⟩ := adds a2 ⟨#[32]⟩ (by omega)
 obtain ⟨a4, e4, q4, r4⟩ := adds a3 x3 (by omega)
 have HE : Hid (a4 = str (m3I m)) := by
  show _ = _
  rw [← HC.out, e4, e3, e2, e1]
 have hb := Blk.new w 108 #[.int .i64 m.f, .int .i64 m.n, .int .i64 m.u]
 have hB0 := (Below.refl w.heap.size w).alloc (Nat.le_refl _) (.cells #[.int .i64 m.f, .int .i64 m.n, .int .i64 m.u] 108)
 clear e1 e2 e3 e4 q1 q2 q3 q4 l1 l2 l3 lb HC h
 unfold mkV mark
 go_enter Tryz.func295, Tryz.ntmps295
 go_upto_region 1 with (fail)
 generalize w.alloc (.cells #[.int .i64 m.f, .int .i64 m.n, .int .i64 m.u] 108) = V at hb hB0 ⊢
 obtain ⟨c0, c1, c2⟩ := qa.three hb
 have HB := Lib.hid hB0
 have HT := Lib.hid (hTab.later hB0)
 clear hb hB0 hTab
 refine qa.region (by kernel_rfl) (by kernel_rfl) ?_
 repeat (go_big_quiet_step (first | (go_at_call 160; with_reducible exact qa.of_below (D1.out _ (HT.out.later (qa.After.h _)))) | (go_at_call 160; with_reducible exact qa.of_below (D2.out _ (HT.out.later (qa.After.h _)))) | (go_at_call 160; with_reducible exact qa.of_below (D3.out _ (HT.out.later (qa.After.h _))))))
 refine wpQuiet_nil ?_
 rintro _ ⟨p, rfl⟩
 have HB2 := Lib.hid (HB.out.trans (p.h.mono HB.out.size))
 clear c0 c1 c2
 go_wp2
 go_ret
 exact ⟨by rw [HE.out]; rfl, HB2.out⟩
def rcI : Rc → Prop
 | .time v => i64 v
 | .next v => i64 v
 | .lets m => i64M m
 | .eat m => i64M m
 | .mark m => i64M m
 | _ => True
theorem wlN_len {x : Nt} (h : okNt x = true) : (str (wlN x)).size ≤ 1000 := by
 obtain ⟨⟨a1, a2⟩, ⟨b1, b2⟩, ⟨c1, c2⟩, ⟨d1, d2⟩, ⟨_, e2⟩, _⟩ := okN_parts h
 rw [str_size]
 unfold wlN wl
 have p1 := (dl_len (n := x.f) (by omega)).2
 have p2 := (dl_len (n := x.n) (by omega)).2
 have p3 := (dl_len (n := x.t) (by omega)).2
 have p4 := (dl_len (n := x.u) (by omega)).2
 have p5 : x.s.data.toList.length = x.s.size := (Lib.size_eq x.s).symm
 simp only [List.length_append, List.length_cons]
 omega
set_option maxRecDepth 100000 in
theorem text_time (v : Int) (h : i64 v) (w : World) (hTab : Tab w) : Calls Tryz.prog 290 #[.agg #[.int .i64 v]] w (StrPost w (str (txL (.time v)))) := by
 have l1 := itoa_len h
 have D1 := Lib.hid (fun V hV => itoa_i64 v h.1 h.2 V hV)
 have HC := Lib.hid (show (⟨#[116, 105, 109, 101, 32]⟩ : ByteArray) ++ str (Lib.itoa v) = str (txL (.time v)) by rw [show (⟨#[116, 105, 109, 101, 32]⟩ : ByteArray) = str (kwTime ++ [32]) from rfl, str_app]; unfold txL; rw [List.append_assoc]; rfl)
 generalize str (Lib.itoa v) = x1 at l1 D1 HC
 unfold StrPost at D1
 have lb : (⟨#[116, 105, 109, 101, 32]⟩ : ByteArray).size ≤ 10 := by decide
 obtain ⟨a1, e1, q1, r1⟩ := adds ⟨#[116, 105, 109, 101, 32]⟩ x1 (by omega)
 have HE : Hid (a1 = str (txL (.time v))) := by
  show _ = _
  rw [← HC.out, e1]
 have HB := Lib.hid ((Below.refl w.heap.size w).alloc (Nat.le_refl _) (.cells #[.int .i64 v] 236))
 have HT := Lib.hid (hTab.later HB.out)
 clear e1 q1 l1 lb HC h hTab
 go_enter Tryz.func290, Tryz.ntmps290
 go_wp2_with fail
 refine (D1.out _ HT.out).mono ?_
 rintro e w2 ⟨rfl, hB2⟩
 have HB2 := Lib.hid (HB.out.trans (hB2.mono HB.out.size))
 clear hB2
 go_wp2
 go_ret
 exact ⟨by rw [HE.out]; rfl, HB2.out⟩
set_option maxRecDepth 100000 in
theorem text_next (v : Int) (h : i64 v) (w : World) (hTab : Tab w) : Calls Tryz.prog 291 #[.agg #[.int .i64 v]] w (StrPost w (str (txL (.next v)))) := by
 have l1 := itoa_len h
 have D1 := Lib.hid (fun V hV => itoa_i64 v h.1 h.2 V hV)
 have HC := Lib.hid (show (⟨#[110, 101, 120, 116, 32]⟩ : ByteArray) ++ str (Lib.itoa v) = str (txL (.next v)) by rw [show (⟨#[110, 101, 120, 116, 32]⟩ : ByteArray) = str (kwNext ++ [32]) from rfl, str_app]; unfold txL; rw [List.append_assoc]; rfl)
 generalize str (Lib.itoa v) = x1 at l1 D1 HC
 unfold StrPost at D1
 have lb : (⟨#[110, 101, 120, 116, 32]⟩ : ByteArray).size ≤ 10 := by decide
 obtain ⟨a1, e1, q1, r1⟩ := adds ⟨#[110, 101, 120, 116, 32]⟩ x1 (by omega)
 have HE : Hid (a1 = str (txL (.next v))) := by
  show _ = _
  rw [← HC.out, e1]
 have HB := Lib.hid ((Below.refl w.heap.size w).alloc (Nat.le_refl _) (.cells #[.int .i64 v] 240))
 have HT := Lib.hid (hTab.later HB.out)
 clear e1 q1 l1 lb HC h hTab
 go_enter Tryz.func291, Tryz.ntmps291
 go_wp2_with fail
 refine (D1.out _ HT.out).mono ?_
 rintro e w2 ⟨rfl, hB2⟩
 have HB2 := Lib.hid (HB.out.trans (hB2.mono HB.out.size))
 clear hB2
 go_wp2
 go_ret
 exact ⟨by rw [HE.out]; rfl, HB2.out⟩
set_option maxRecDepth 100000 in
theorem text_own (x : Nt) (h : okNt x = true) (w : World) (hTab : Tab w) : Calls Tryz.prog 292 #[ntV x] w (StrPost w (str (txL (.own x)))) := by
 have l1 := wlN_len h
 have D1 := Lib.hid (fun V hV => (show Calls Tryz.prog 242 #[note x.f x.n x.t x.u x.s] V (StrPost V (str (wlN x))) by have := iwrite_any x.f x.n x.t x.u x.s V (by have := okNt_size h; unfold maxLen; omega) hV; rwa [nw_t h] at this))
 unfold note at D1
 have HC := Lib.hid (show (⟨#[111, 119, 110, 32]⟩ : ByteArray) ++ str (wlN x) = str (txL (.own x)) by rw [show (⟨#[111, 119, 110, 32]⟩ : ByteArray) = str (kwOwn ++ [32]) from rfl, str_app]; unfold txL; rw [List.append_assoc]; rfl)
 generalize str (wlN x) = x1 at l1 D1 HC
 unfold StrPost at D1
 have lb : (⟨#[111, 119, 110, 32]⟩ : ByteArray).size ≤ 10 := by decide
 obtain ⟨a1, e1, q1, r1⟩ := adds ⟨#[111, 119, 110, 32]⟩ x1 (by omega)
 have HE : Hid (a1 = str (txL (.own x))) := by
  show _ = _
  rw [← HC.out, e1]
 have HB := Lib.hid ((Below.refl w.heap.size w).alloc (Nat.le_refl _) (.cells #[.int .i64 x.f, .int .i64 x.n, .int .i64 x.t, .int .i64 x.u, .string x.s] 242))
 have HT := Lib.hid (hTab.later HB.out)
 clear e1 q1 l1 lb HC h hTab
 unfold ntV note
 go_enter Tryz.func292, Tryz.ntmps292
 go_wp2_with fail
 refine (D1.out _ HT.out).mono ?_
 rintro e w2 ⟨rfl, hB2⟩
 have HB2 := Lib.hid (HB.out.trans (hB2.mono HB.out.size))
 clear hB2
 go_wp2
 go_ret
 exact ⟨by rw [HE.out]; rfl, HB2.out⟩
set_option maxRecDepth 100000 in
theorem text_take (x : Nt) (h : okNt x = true) (w : World) (hTab : Tab w) : Calls Tryz.prog 293 #[ntV x] w (StrPost w (str (txL (.take x)))) := by
 have l1 := wlN_len h
 have D1 := Lib.hid (fun V hV => (show Calls Tryz.prog 242 #[note x.f x.n x.t x.u x.s] V (StrPost V (str (wlN x))) by have := iwrite_any x.f x.n x.t x.u x.s V (by have := okNt_size h; unfold maxLen; omega) hV; rwa [nw_t h] at this))
 unfold note at D1
 have HC := Lib.hid (show (⟨#[116, 97, 107, 101, 32]⟩ : ByteArray) ++ str (wlN x) = str (txL (.take x)) by rw [show (⟨#[116, 97, 107, 101, 32]⟩ : ByteArray) = str (kwTake ++ [32]) from rfl, str_app]; unfold txL; rw [List.append_assoc]; rfl)
 generalize str (wlN x) = x1 at l1 D1 HC
 unfold StrPost at D1
 have lb : (⟨#[116, 97, 107, 101, 32]⟩ : ByteArray).size ≤ 10 := by decide
 obtain ⟨a1, e1, q1, r1⟩ := adds ⟨#[116, 97, 107, 101, 32]⟩ x1 (by omega)
 have HE : Hid (a1 = str (txL (.take x))) := by
  show _ = _
  rw [← HC.out, e1]
 have HB := Lib.hid ((Below.refl w.heap.size w).alloc (Nat.le_refl _) (.cells #[.int .i64 x.f, .int .i64 x.n, .int .i64 x.t, .int .i64 x.u, .string x.s] 244))
 have HT := Lib.hid (hTab.later HB.out)
 clear e1 q1 l1 lb HC h hTab
 unfold ntV note
 go_enter Tryz.func293, Tryz.ntmps293
 go_wp2_with fail
 refine (D1.out _ HT.out).mono ?_
 rintro e w2 ⟨rfl, hB2⟩
 have HB2 := Lib.hid (HB.out.trans (hB2.mono HB.out.size))
 clear hB2
 go_wp2
 go_ret
 exact ⟨by rw [HE.out]; rfl, HB2.out⟩
set_option maxRecDepth 100000 in
theorem text_held (x : Nt) (h : okNt x = true) (w : World) (hTab : Tab w) : Calls Tryz.prog 298 #[ntV x] w (StrPost w (str (txL (.held x)))) := by
 have l1 := wlN_len h
 have D1 := Lib.hid (fun V hV => (show Calls Tryz.prog 242 #[note x.f x.n x.t x.u x.s] V (StrPost V (str (wlN x))) by have := iwrite_any x.f x.n x.t x.u x.s V (by have := okNt_size h; unfold maxLen; omega) hV; rwa [nw_t h] at this))
 unfold note at D1
 have HC := Lib.hid (show (⟨#[104, 101, 108, 100, 32]⟩ : ByteArray) ++ str (wlN x) = str (txL (.held x)) by rw [show (⟨#[104, 101, 108, 100, 32]⟩ : ByteArray) = str (kwHeld ++ [32]) from rfl, str_app]; unfold txL; rw [List.append_assoc]; rfl)
 generalize str (wlN x) = x1 at l1 D1 HC
 unfold StrPost at D1
 have lb : (⟨#[104, 101, 108, 100, 32]⟩ : ByteArray).size ≤ 10 := by decide
 obtain ⟨a1, e1, q1, r1⟩ := adds ⟨#[104, 101, 108, 100, 32]⟩ x1 (by omega)
 have HE : Hid (a1 = str (txL (.held x))) := by
  show _ = _
  rw [← HC.out, e1]
 have HB := Lib.hid ((Below.refl w.heap.size w).alloc (Nat.le_refl _) (.cells #[.int .i64 x.f, .int .i64 x.n, .int .i64 x.t, .int .i64 x.u, .string x.s] 250))
 have HT := Lib.hid (hTab.later HB.out)
 clear e1 q1 l1 lb HC h hTab
 unfold ntV note
 go_enter Tryz.func298, Tryz.ntmps298
 go_wp2_with fail
 refine (D1.out _ HT.out).mono ?_
 rintro e w2 ⟨rfl, hB2⟩
 have HB2 := Lib.hid (HB.out.trans (hB2.mono HB.out.size))
 clear hB2
 go_wp2
 go_ret
 exact ⟨by rw [HE.out]; rfl, HB2.out⟩
set_option maxRecDepth 100000 in
theorem text_inbox (x : Nt) (h : okNt x = true) (w : World) (hTab : Tab w) : Calls Tryz.prog 299 #[ntV x] w (StrPost w (str (txL (.inbox x)))) := by
 have l1 := wlN_len h
 have D1 := Lib.hid (fun V hV => (show Calls Tryz.prog 242 #[note x.f x.n x.t x.u x.s] V (StrPost V (str (wlN x))) by have := iwrite_any x.f x.n x.t x.u x.s V (by have := okNt_size h; unfold maxLen; omega) hV; rwa [nw_t h] at this))
 unfold note at D1
 have HC := Lib.hid (show (⟨#[105, 110, 98, 111, 120, 32]⟩ : ByteArray) ++ str (wlN x) = str (txL (.inbox x)) by rw [show (⟨#[105, 110, 98, 111, 120, 32]⟩ : ByteArray) = str (kwInbox ++ [32]) from rfl, str_app]; unfold txL; rw [List.append_assoc]; rfl)
 generalize str (wlN x) = x1 at l1 D1 HC
 unfold StrPost at D1
 have lb : (⟨#[105, 110, 98, 111, 120, 32]⟩ : ByteArray).size ≤ 10 := by decide
 obtain ⟨a1, e1, q1, r1⟩ := adds ⟨#[105, 110, 98, 111, 120, 32]⟩ x1 (by omega)
 have HE : Hid (a1 = str (txL (.inbox x))) := by
  show _ = _
  rw [← HC.out, e1]
 have HB := Lib.hid ((Below.refl w.heap.size w).alloc (Nat.le_refl _) (.cells #[.int .i64 x.f, .int .i64 x.n, .int .i64 x.t, .int .i64 x.u, .string x.s] 251))
 have HT := Lib.hid (hTab.later HB.out)
 clear e1 q1 l1 lb HC h hTab
 unfold ntV note
 go_enter Tryz.func299, Tryz.ntmps299
 go_wp2_with fail
 refine (D1.out _ HT.out).mono ?_
 rintro e w2 ⟨rfl, hB2⟩
 have HB2 := Lib.hid (HB.out.trans (hB2.mono HB.out.size))
 clear hB2
 go_wp2
 go_ret
 exact ⟨by rw [HE.out]; rfl, HB2.out⟩
set_option maxRecDepth 100000 in
theorem text_lets (m : Mk) (h : i64M m) (w : World) (hTab : Tab w) : Calls Tryz.prog 294 #[mkV m] w (StrPost w (str (txL (.lets m)))) := by
 have l1 := m3I_len h
 have D1 := Lib.hid (fun V hV => markText_any m h V hV)
 unfold mkV mark at D1
 have HC := Lib.hid (show (⟨#[108, 101, 116, 32]⟩ : ByteArray) ++ str (m3I m) = str (txL (.lets m)) by rw [show (⟨#[108, 101, 116, 32]⟩ : ByteArray) = str (kwLet ++ [32]) from rfl, str_app]; unfold txL; rw [List.append_assoc]; rfl)
 generalize str (m3I m) = x1 at l1 D1 HC
 unfold StrPost at D1
 have lb : (⟨#[108, 101, 116, 32]⟩ : ByteArray).size ≤ 10 := by decide
 obtain ⟨a1, e1, q1, r1⟩ := adds ⟨#[108, 101, 116, 32]⟩ x1 (by omega)
 have HE : Hid (a1 = str (txL (.lets m))) := by
  show _ = _
  rw [← HC.out, e1]
 have HB := Lib.hid ((Below.refl w.heap.size w).alloc (Nat.le_refl _) (.cells #[.int .i64 m.f, .int .i64 m.n, .int .i64 m.u] 246))
 have HT := Lib.hid (hTab.later HB.out)
 clear e1 q1 l1 lb HC h hTab
 unfold mkV mark
 go_enter Tryz.func294, Tryz.ntmps294
 go_wp2_with fail
 refine (D1.out _ HT.out).mono ?_
 rintro e w2 ⟨rfl, hB2⟩
 have HB2 := Lib.hid (HB.out.trans (hB2.mono HB.out.size))
 clear hB2
 go_wp2
 go_ret
 exact ⟨by rw [HE.out]; rfl, HB2.out⟩
set_option maxRecDepth 100000 in
theorem text_eat (m : Mk) (h : i64M m) (w : World) (hTab : Tab w) : Calls Tryz.prog 296 #[mkV m] w (StrPost w (str (txL (.eat m)))) := by
 have l1 := m3I_len h
 have D1 := Lib.hid (fun V hV => markText_any m h V hV)
 unfold mkV mark at D1
 have HC := Lib.hid (show (⟨#[101, 97, 116, 32]⟩ : ByteArray) ++ str (m3I m) = str (txL (.eat m)) by rw [show (⟨#[101, 97, 116, 32]⟩ : ByteArray) = str (kwEat ++ [32]) from rfl, str_app]; unfold txL; rw [List.append_assoc]; rfl)
 generalize str (m3I m) = x1 at l1 D1 HC
 unfold StrPost at D1
 have lb : (⟨#[101, 97, 116, 32]⟩ : ByteArray).size ≤ 10 := by decide
 obtain ⟨a1, e1, q1, r1⟩ := adds ⟨#[101, 97, 116, 32]⟩ x1 (by omega)
 have HE : Hid (a1 = str (txL (.eat m))) := by
  show _ = _
  rw [← HC.out, e1]
 have HB := Lib.hid ((Below.refl w.heap.size w).alloc (Nat.le_refl _) (.cells #[.int .i64 m.f, .int .i64 m.n, .int .i64 m.u] 248))
 have HT := Lib.hid (hTab.later HB.out)
 clear e1 q1 l1 lb HC h hTab
 unfold mkV mark
 go_enter Tryz.func296, Tryz.ntmps296
 go_wp2_with fail
 refine (D1.out _ HT.out).mono ?_
 rintro e w2 ⟨rfl, hB2⟩
 have HB2 := Lib.hid (HB.out.trans (hB2.mono HB.out.size))
 clear hB2
 go_wp2
 go_ret
 exact ⟨by rw [HE.out]; rfl, HB2.out⟩
set_option maxRecDepth 100000 in
theorem text_mark (m : Mk) (h : i64M m) (w : World) (hTab : Tab w) : Calls Tryz.prog 297 #[mkV m] w (StrPost w (str (txL (.mark m)))) := by
 have l1 := m3I_len h
 have D1 := Lib.hid (fun V hV => markText_any m h V hV)
 unfold mkV mark at D1
 have HC := Lib.hid (show (⟨#[109, 97, 114, 107, 32]⟩ : ByteArray) ++ str (m3I m) = str (txL (.mark m)) by rw [show (⟨#[109, 97, 114, 107, 32]⟩ : ByteArray) = str (kwMark ++ [32]) from rfl, str_app]; unfold txL; rw [List.append_assoc]; rfl)
 generalize str (m3I m) = x1 at l1 D1 HC
 unfold StrPost at D1
 have lb : (⟨#[109, 97, 114, 107, 32]⟩ : ByteArray).size ≤ 10 := by decide
 obtain ⟨a1, e1, q1, r1⟩ := adds ⟨#[109, 97, 114, 107, 32]⟩ x1 (by omega)
 have HE : Hid (a1 = str (txL (.mark m))) := by
  show _ = _
  rw [← HC.out, e1]
 have HB := Lib.hid ((Below.refl w.heap.size w).alloc (Nat.le_refl _) (.cells #[.int .i64 m.f, .int .i64 m.n, .int .i64 m.u] 249))
 have HT := Lib.hid (hTab.later HB.out)
 clear e1 q1 l1 lb HC h hTab
 unfold mkV mark
 go_enter Tryz.func297, Tryz.ntmps297
 go_wp2_with fail
 refine (D1.out _ HT.out).mono ?_
 rintro e w2 ⟨rfl, hB2⟩
 have HB2 := Lib.hid (HB.out.trans (hB2.mono HB.out.size))
 clear hB2
 go_wp2
 go_ret
 exact ⟨by rw [HE.out]; rfl, HB2.out⟩
def rcT : Rc → TypeId
 | .time _ => 236
 | .next _ => 240
 | .own _ => 242
 | .take _ => 244
 | .held _ => 250
 | .inbox _ => 251
 | .lets _ => 246
 | .eat _ => 248
 | .mark _ => 249
def rcP : Rc → Value
 | .time v => .agg #[.int .i64 v]
 | .next v => .agg #[.int .i64 v]
 | .own x => ntV x
 | .take x => ntV x
 | .held x => ntV x
 | .inbox x => ntV x
 | .lets m => mkV m
 | .eat m => mkV m
 | .mark m => mkV m
def rcFn : Rc → Nat
 | .time _ => 290
 | .next _ => 291
 | .own _ => 292
 | .take _ => 293
 | .held _ => 298
 | .inbox _ => 299
 | .lets _ => 294
 | .eat _ => 296
 | .mark _ => 297
def rcV (r : Rc) : Value := .iface (rcT r) (rcP r)
theorem mText (r : Rc) (w : World) : (Go.method 453 (rcT r) (rcP r) "loop.example/bargeman/impl.text").run Tryz.prog w = .ok (rcFn r, rcP r) w := by
 cases r <;> kernel_rfl
theorem callRc (r : Rc) (w : World) : (callFunc (rcFn r) #[rcP r]).run Tryz.prog w = .ok (.enter (rcFn r) #[rcP r]) w := by
 cases r <;> kernel_rfl
theorem text_any (r : Rc) (h1 : ntIn r) (h2 : rcI r) (w : World) (hTab : Tab w) : Calls Tryz.prog (rcFn r) #[rcP r] w (StrPost w (str (txL r))) := by
 cases r with
 | time v => exact text_time v h2 w hTab
 | next v => exact text_next v h2 w hTab
 | own x => exact text_own x h1 w hTab
 | take x => exact text_take x h1 w hTab
 | held x => exact text_held x h1 w hTab
 | inbox x => exact text_inbox x h1 w hTab
 | lets m => exact text_lets m h2 w hTab
 | eat m => exact text_eat m h2 w hTab
 | mark m => exact text_mark m h2 w hTab
theorem txL_len {r : Rc} (h1 : ntIn r) (h2 : rcI r) : (str (txL r)).size ≤ 2000 := by
 rw [str_size]
 unfold txL
 rw [List.length_append, List.length_cons]
 have hk : (kw r).length ≤ 5 := by cases r <;> simp [kw, kwTime, kwNext, kwOwn, kwTake, kwHeld, kwInbox, kwLet, kwEat, kwMark]
 have hb : (bodyI r).length ≤ 1000 := by
  rw [← str_size]
  cases r with
  | time v => have := itoa_len (show i64 v from h2); show (str (Lib.itoa v)).size ≤ 1000; omega
  | next v => have := itoa_len (show i64 v from h2); show (str (Lib.itoa v)).size ≤ 1000; omega
  | own x => exact wlN_len h1
  | take x => exact wlN_len h1
  | held x => exact wlN_len h1
  | inbox x => exact wlN_len h1
  | lets m => have := m3I_len (show i64M m from h2); show (str (m3I m)).size ≤ 1000; omega
  | eat m => have := m3I_len (show i64M m from h2); show (str (m3I m)).size ≤ 1000; omega
  | mark m => have := m3I_len (show i64M m from h2); show (str (m3I m)).size ≤ 1000; omega
 omega
end Go.Proofs.YtckicpnnclbkpaaGreatDoor.kp

namespace Go.Proofs.YtckicpnnclbkpaaGreatDoor.kp
open Go.ChangeShapes Go.WideShapes Go.ChangeAt Go.RowKit
open wd ok nb dc
theorem dec_neg (w : World) : Calls Tryz.prog 104 #[.int .i64 (-1)] w (StrPost w (str (dlm (-1)))) := by
 have H1 := Lib.hid (fun W => dec_any 1 (by omega) (by omega) W)
 have hd : dl 1 = [49] := by rw [dl_one (by omega) (by omega)]; rfl
 rw [hd] at H1
 have hs : str [49] = ⟨#[49]⟩ := rfl
 rw [hs] at H1
 unfold StrPost at H1
 clear hd hs
 go_enter Tryz.func104, Tryz.ntmps104
 go_wp2_with fail
 refine (H1.out _).mono ?_
 rintro e w1 ⟨rfl, hB⟩
 have HB := Lib.hid hB
 clear hB H1
 go_wp2
 go_ret
 exact ⟨rfl, HB.out⟩
def Rng (v : Int) : Prop := v = -1 ∨ 0 ≤ v ∧ v ≤ 9999
theorem reads_rng {l : List UInt8} {v : Int} (h : Reads l v) : Rng v := by
 rcases h with ⟨e, _⟩ | ⟨h1, h2, _⟩
 ·exact .inl e
 ·exact .inr ⟨h1, h2⟩
theorem decM_any (v : Int) (h : Rng v) (w : World) : Calls Tryz.prog 104 #[.int .i64 v] w (StrPost w (str (dlm v))) := by
 rcases h with rfl | ⟨h1, h2⟩
 ·exact dec_neg w
 ·rw [dlm_pos h1]
  exact dec_any v h1 h2 w
theorem dlm_len {v : Int} (h : Rng v) : (str (dlm v)).size ≤ 4 := by
 rw [str_size]
 rcases h with rfl | ⟨h1, h2⟩
 ·decide
 ·rw [dlm_pos h1]; exact (dl_len4 h1 h2).2
theorem three3 {vs : List Int} (h : vs.length = 3) : ∃ a b c, vs = [a, b, c] := by
 match vs, h with
 | [a, b, c], _ => exact ⟨a, b, c, rfl⟩
theorem own_three {w0 w : World} {v : Value} {a b c : Int} (h : ow.Own 3 w0 w v (iv [a, b, c])) :
  ∃ g cap, v = .slice (some ⟨g, 0, none⟩) 3 cap ∧ w0.heap.size ≤ g ∧ g < w.heap.size ∧ w.cell? ⟨g, 0, none⟩ = some (.int .i64 a) ∧ w.cell? ⟨g, 1, none⟩ = some (.int .i64 b) ∧ w.cell? ⟨g, 2, none⟩ = some (.int .i64 c) := by
 obtain ⟨A, cap, rfl, hc⟩ := h.form
 obtain ⟨g, rfl, h1, h2, h3⟩ := hc (by simp [iv])
 exact ⟨g, cap, rfl, h1, h2, h3 0 _ rfl, h3 1 _ rfl, h3 2 _ rfl⟩
theorem m3m_cat (a b c : Int) : (((str (dlm a) ++ str [32]) ++ str (dlm b)) ++ str [32]) ++ str (dlm c) = str (m3m a b c) := by
 rw [str_app, str_app, str_app, str_app]
 unfold m3m
 simp
theorem rd3 {l : List UInt8} {a b c : Int} (h : ReadK l [a, b, c]) : Rng a ∧ Rng b ∧ Rng c := ⟨reads_rng (h 0 a rfl), reads_rng (h 1 b rfl), reads_rng (h 2 c rfl)⟩
end Go.Proofs.YtckicpnnclbkpaaGreatDoor.kp

