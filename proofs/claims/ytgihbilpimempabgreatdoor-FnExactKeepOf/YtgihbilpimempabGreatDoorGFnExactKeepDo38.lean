/-
  Merged texts: INums, IRec1, IRec2.
-/
import Derived.Test.YtgihbilpimempabGreatDoorGFnExactKeepDo37
import Derived.Test.YtgihbilpimempabGreatDoorGFnExactKeepDo29
import Derived.Test.YtgihbilpimempabGreatDoorGFnExactKeepDo26
import Derived.Test.YtgihbilpimempabGreatDoorGFnExactKeepDo16
import Derived.Deep.Cut
import Derived.Lib.ItoaLen
/-
  Contract of impl.readNumbers at numbers that lie side by side in one block.
-/
namespace Go.Proofs.YtgihbilpimempabGreatDoor.kp
open Go.ChangeShapes Go.WideShapes Go.ChangeAt Go.RowKit
open Go.Proofs.YtgihbilpimempabGreatDoor.nb Go.Proofs.YtgihbilpimempabGreatDoor.ok Go.Proofs.YtgihbilpimempabGreatDoor.wd Go.Proofs.YtgihbilpimempabGreatDoor.dc

/-- the number that is read at place i of a text -/
def rdV (l : List UInt8) (i : Nat) : Int := atoiV (word (restK l i)).1
/-- a block of c numbers of which the first k have been read -/
def cellsR (l : List UInt8) (c k : Nat) : Array Value := ((List.range c).map fun i => Value.int .i64 (if i < k then rdV l i else 0)).toArray
def ptrR (g c : Nat) : Array Value := ((List.range c).map fun i => Value.pointer (some ⟨g, i, none⟩)).toArray
theorem ptrR_at {c k : Nat} (h : k < c) (g : Nat) : (ptrR g c)[k]? = some (.pointer (some ⟨g, k, none⟩)) := by simp [ptrR, h]
theorem cellsR_get (l : List UInt8) {c i : Nat} (k : Nat) (h : i < c) : (cellsR l c k)[i]? = some (.int .i64 (if i < k then rdV l i else 0)) := by simp [cellsR, h]
theorem cellsR_size (l : List UInt8) (c k : Nat) : (cellsR l c k).size = c := by simp [cellsR]
theorem cellsR_put (l : List UInt8) {c k : Nat} (_h : k < c) : (cellsR l c k).setIfInBounds k (.int .i64 (rdV l k)) = cellsR l c (k + 1) := by
  apply Array.ext_getElem?
  intro i
  by_cases hi : i < c
  · rw [Array.getElem?_setIfInBounds, cellsR_size, cellsR_get l _ hi, cellsR_get l _ hi]
    by_cases e : k = i
    · subst e; simp [hi]
    · rw [if_neg e]
      by_cases h2 : i < k
      · rw [if_pos h2, if_pos (by omega)]
      · rw [if_neg h2, if_neg (by omega)]
  · rw [Array.getElem?_eq_none (by rw [Array.size_setIfInBounds, cellsR_size]; omega), Array.getElem?_eq_none (by rw [cellsR_size]; omega)]

def RnPost (w0 : World) (l : List UInt8) (g : Nat) (T : TypeId) (c : Nat) (e : Ending) (w' : World) : Prop :=
  e = .returned (.string (str (restK l c))) ∧ Blk w' g T (cellsR l c c) ∧ Below w0.heap.size w0 w'

set_option maxRecDepth 100000 in
set_option maxHeartbeats 2000000 in
theorem rnumsR (T : TypeId) (l : List UInt8) (hs : l.length ≤ 1048576) (w0 w : World) (g R c : Nat) (hN : Blk w g T (cellsR l c 0)) (hP : Blk w R 175 (ptrR g c)) (hRg : R ≠ g) (hg : w0.heap.size ≤ g) (hB : Below w0.heap.size w0 w) (hErr : Errs w0) (hc : c ≤ 3) :
    Calls Tryz.prog 141 #[.string (str l), .slice (some ⟨R, 0, none⟩) c c] w (RnPost w0 l g T c) := by
  have HN1 := Lib.hid hN
  have HP1 := Lib.hid hP
  have HB1 := Lib.hid hB
  have HRg := Lib.hid hRg
  have Hg := Lib.hid hg
  have HS := Lib.hid hs
  clear hN hP hB hRg hg hs
  go_enter Tryz.func141, Tryz.ntmps141
  go_wp2
  go_loopw [0, 12] (fun rv i wr => ∃ (k : Nat), k ≤ c ∧ i = .int .i64 k ∧ rv = .string (str (restK l k)) ∧ Hid (Blk wr g T (cellsR l c k)) ∧ Hid (Blk wr R 175 (ptrR g c)) ∧ Hid (Below w0.heap.size w0 wr)) (fun _ i _ => c - (intOf i).toNat)
  case atStart => exact ⟨0, by omega, rfl, rfl, HN1.out, HP1.out, HB1.out⟩
  case round =>
    obtain ⟨k, hk, rfl, rfl, HN, HP, HB⟩ := hrel
    clear HN1 HP1 HB1
    by_cases hkc : k < c
    · have hr := restK_len l k
      have hs := HS.out
      have hwl := word_len (restK l k)
      have HV := Lib.hid (show atoiV (word (restK l k)).1 = rdV l k from rfl)
      have HQ := Lib.hid (show (word (restK l k)).2 = restK l (k + 1) from rfl)
      have HW := Lib.hid (fun W => cut_any (str (restK l k)) (by rw [str_size]; omega) W)
      have HD := Lib.hid (fun W h => atoi_any (str (word (restK l k)).1) (by rw [str_size]; omega) W h)
      unfold CutPost at HW
      rw [data_str] at HW HD
      clear hwl hr hs
      generalize word (restK l k) = pq at HV HQ HW HD
      generalize str (restK l k) = sr at HW ⊢
      obtain ⟨p, q⟩ := pq
      simp only at HV HQ HW HD
      have ix := (HP.out.cell k).trans (ptrR_at hkc g)
      have hk1 : (k : Int) < (c : Int) := by omega
      go_wp2_with fail
      clear ix
      refine (HW.out _).mono ?_
      rintro e w2 ⟨fb, rfl, hB2⟩
      have HB2 := Lib.hid (HB.out.trans (hB2.mono HB.out.size))
      have HE := Lib.hid (hErr.later HB2.out)
      have HN2 := Lib.hid (HN.out.below hB2 HN.out.lt)
      have HP2 := Lib.hid (HP.out.below hB2 HP.out.lt)
      clear hB2 HB HN HP HW
      go_wp2_with fail
      refine (HD.out _ HE.out).mono ?_
      rintro e w3 ⟨er, rfl, hB3⟩
      have HB3 := Lib.hid ((HB2.out.trans (hB3.mono HB2.out.size)).setCell (p := ⟨g, k, none⟩) Hg.out (.int .i64 (atoiV p)))
      have HP3 := Lib.hid ((HP2.out.below hB3 HP2.out.lt).far (p := ⟨g, k, none⟩) HRg.out (.int .i64 (atoiV p)))
      have hN3 := HN2.out.below hB3 HN2.out.lt
      have ho := cellsR_get l k hkc
      have c1 := (hN3.cell k).trans ho
      have fz := hN3.frozen k
      have R3 := hN3.put k (.int .i64 (atoiV p))
      rw [show (cellsR l c k).setIfInBounds k (.int .i64 (atoiV p)) = cellsR l c (k + 1) by rw [HV.out]; exact cellsR_put l hkc] at R3
      have HN3 := Lib.hid R3
      clear hB3 HB2 HN2 HP2 HE hN3 R3 ho HD HV
      generalize atoiV p = y at HB3 HN3 HP3 ⊢
      go_wp2
      go_roundw
      case rel => exact ⟨k + 1, by omega, by go_num, by rw [HQ.out], HN3, HP3, HB3⟩
      case measure => simp [intOf]; omega
    · obtain rfl : k = c := by omega
      have hk1 : ¬ (k : Int) < (k : Int) := by omega
      go_wp2
      go_ret
      exact ⟨rfl, HN.out, HB.out⟩
end Go.Proofs.YtgihbilpimempabGreatDoor.kp

/-
  Contracts of impl.readNumber, impl.readMark, impl.readNote, impl.markText, and of the records' text methods.
-/
namespace Go.Proofs.YtgihbilpimempabGreatDoor.kp
open Go.ChangeShapes Go.WideShapes Go.ChangeAt Go.RowKit
open Go.Proofs.YtgihbilpimempabGreatDoor.nb Go.Proofs.YtgihbilpimempabGreatDoor.ok Go.Proofs.YtgihbilpimempabGreatDoor.wd Go.Proofs.YtgihbilpimempabGreatDoor.dc

theorem itoa_i64 (n : Int) (h0 : -9223372036854775808 ≤ n) (h1 : n ≤ 9223372036854775807) (w : World) (h : Tab w) :
    Calls Tryz.prog 159 #[.int .i64 n] w (StrPost w (str (Lib.itoa n))) := by
  refine (Tryz.strconv_Itoa n h0 h1 w h).mono ?_
  rintro e w' ⟨rfl, k, os, rfl⟩
  exact ⟨rfl, below_grow w k os⟩
def i64 (v : Int) : Prop := -9223372036854775808 ≤ v ∧ v ≤ 9223372036854775807
theorem itoa_len {v : Int} (h : i64 v) : (str (Lib.itoa v)).size ≤ 21 := by
  obtain ⟨h0, h1⟩ := h
  rw [str_size]
  unfold Lib.itoa
  split
  · rw [List.length_cons, Lib.decDigits_length]
    have := Lib.nDigits_le20 v.natAbs (by omega)
    omega
  · rw [Lib.decDigits_length]
    have := Lib.nDigits_le20 v.toNat (by omega)
    omega
theorem atoi_i64 (l : List UInt8) : i64 (atoiV l) := by
  unfold i64
  unfold atoiV
  cases h : Lib.atoiAll l with
  | ok v =>
    simp only
    unfold Lib.atoiAll at h
    cases l with
    | nil => cases h
    | cons c r =>
      simp only at h
      cases hp : Lib.parseMag (if c.toNat = 43 ∨ c.toNat = 45 then r else c :: r) with
      | ok u =>
        rw [hp] at h
        simp only at h
        split at h
        · cases h
        · split at h
          · cases h
          · injection h with h
            rw [← h]
            split <;> omega
      | _ => rw [hp] at h; cases h
  | range => simp only; unfold Lib.atoiSat; split <;> omega
  | _ => simp only; omega

theorem cells1 (l : List UInt8) : cellsR l 1 0 = #[.int .i64 0] := by simp [cellsR, List.range, List.range.loop]
theorem cells3 (l : List UInt8) : cellsR l 3 0 = #[.int .i64 0, .int .i64 0, .int .i64 0] := by simp [cellsR, List.range, List.range.loop]
theorem ptr1 (g : Nat) : ptrR g 1 = #[.pointer (some ⟨g, 0, none⟩)] := by simp [ptrR, List.range, List.range.loop]
theorem ptr3 (g : Nat) : ptrR g 3 = #[.pointer (some ⟨g, 0, none⟩), .pointer (some ⟨g, 1, none⟩), .pointer (some ⟨g, 2, none⟩)] := by simp [ptrR, List.range, List.range.loop]

set_option maxRecDepth 100000 in
theorem rnum_any (l : List UInt8) (hs : l.length ≤ 1048576) (w : World) (hErr : Errs w) :
    Calls Tryz.prog 128 #[.string (str l)] w fun e w' => e = .returned (.int .i64 (rdV l 0)) ∧ Below w.heap.size w w' := by
  have hN := (Blk.new w 3 #[.int .i64 0]).alloc (.cells (ptrR w.heap.size 1) 175)
  have hP := Blk.new (w.alloc (.cells #[.int .i64 0] 3)) 175 (ptrR w.heap.size 1)
  rw [World.size_alloc] at hP
  have hB : Below w.heap.size w ((w.alloc (.cells #[.int .i64 0] 3)).alloc (.cells (ptrR w.heap.size 1) 175)) := ((Below.refl _ _).alloc (Nat.le_refl _) _).alloc (by simp) _
  rw [← cells1 l] at hN
  have HR := Lib.hid (rnumsR 3 l hs w _ w.heap.size (w.heap.size + 1) 1 hN hP (by omega) (Nat.le_refl _) hB hErr (by omega))
  rw [ptr1] at HR
  clear hN hP hB
  unfold RnPost at HR
  generalize str l = s at HR ⊢
  go_enter Tryz.func128, Tryz.ntmps128
  go_wp2_with fail
  refine HR.out.mono ?_
  rintro e w2 ⟨rfl, hN2, hB2⟩
  have c0 := (hN2.cell 0).trans (cellsR_get l 1 (show 0 < 1 by omega))
  have HB2 := Lib.hid hB2
  clear hN2 hB2 HR
  rw [if_pos (by omega)] at c0
  go_wp2
  go_ret
  exact ⟨rfl, HB2.out⟩

set_option maxRecDepth 100000 in
set_option maxHeartbeats 800000 in
theorem rmark_any (l : List UInt8) (hs : l.length ≤ 1048576) (w : World) (hErr : Errs w) :
    Calls Tryz.prog 130 #[.string (str l)] w fun e w' => e = .returned (mkV (mkR l)) ∧ Below w.heap.size w w' := by
  have k0 := ((Blk.new w 88 #[.int .i64 0, .int .i64 0, .int .i64 0]).alloc (.cells #[.int .i64 0, .int .i64 0, .int .i64 0] 88)).alloc (.cells (ptrR (w.heap.size + 1) 3) 175)
  have hN := (Blk.new (w.alloc (.cells #[.int .i64 0, .int .i64 0, .int .i64 0] 88)) 88 #[.int .i64 0, .int .i64 0, .int .i64 0]).alloc (.cells (ptrR (w.heap.size + 1) 3) 175)
  have hP := Blk.new ((w.alloc (.cells #[.int .i64 0, .int .i64 0, .int .i64 0] 88)).alloc (.cells #[.int .i64 0, .int .i64 0, .int .i64 0] 88)) 175 (ptrR (w.heap.size + 1) 3)
  simp only [World.size_alloc] at hN hP
  have hB : Below (w.alloc (.cells #[.int .i64 0, .int .i64 0, .int .i64 0] 88)).heap.size (w.alloc (.cells #[.int .i64 0, .int .i64 0, .int .i64 0] 88)) (((w.alloc (.cells #[.int .i64 0, .int .i64 0, .int .i64 0] 88)).alloc (.cells #[.int .i64 0, .int .i64 0, .int .i64 0] 88)).alloc (.cells (ptrR (w.heap.size + 1) 3) 175)) := ((Below.refl _ _).alloc (Nat.le_refl _) _).alloc (by simp) _
  have hB1 : Below w.heap.size w (w.alloc (.cells #[.int .i64 0, .int .i64 0, .int .i64 0] 88)) := (Below.refl _ _).alloc (Nat.le_refl _) _
  have k1 : Blk (w.alloc (.cells #[.int .i64 0, .int .i64 0, .int .i64 0] 88)) w.heap.size 88 #[.int .i64 0, .int .i64 0, .int .i64 0] := Blk.new w _ _
  rw [← cells3 l] at hN
  have HR := Lib.hid (rnumsR 88 l hs (w.alloc (.cells #[.int .i64 0, .int .i64 0, .int .i64 0] 88)) _ (w.heap.size + 1) (w.heap.size + 1 + 1) 3 hN hP (by omega) (by simp) hB (hErr.later hB1) (by omega))
  rw [ptr3] at HR
  have HB1 := Lib.hid hB1
  have HK1 := Lib.hid k1
  clear hN hP hB k0 hB1 k1
  unfold RnPost at HR
  generalize str l = s at HR ⊢
  go_enter Tryz.func130, Tryz.ntmps130
  go_wp2_with fail
  refine HR.out.mono ?_
  rintro e w2 ⟨rfl, hN2, hB2⟩
  have c0 := (hN2.cell 0).trans (cellsR_get l 3 (show 0 < 3 by omega))
  have c1 := (hN2.cell 1).trans (cellsR_get l 3 (show 1 < 3 by omega))
  have c2 := (hN2.cell 2).trans (cellsR_get l 3 (show 2 < 3 by omega))
  rw [if_pos (by omega)] at c0 c1 c2
  have z := HK1.out.below hB2 HK1.out.lt
  have z0 := z.cell 0
  have z1 := z.cell 1
  have z2 := z.cell 2
  have y0 := z.frozen 0
  have y1 := z.frozen 1
  have y2 := z.frozen 2
  simp only [List.getElem?_toArray, List.getElem?_cons_zero, List.getElem?_cons_succ] at z0 z1 z2
  have HB2 := Lib.hid (HB1.out.trans (hB2.mono HB1.out.size))
  have HM := Lib.hid (show mkV (mkR l) = mark (rdV l 0) (rdV l 1) (rdV l 2) from rfl)
  clear hN2 hB2 HR z
  generalize rdV l 0 = v0 at c0 HM
  generalize rdV l 1 = v1 at c1 HM
  generalize rdV l 2 = v2 at c2 HM
  go_wp2
  refine bodyPost_ret (v := mark v0 v1 v2) (by simp [results, Tryz.results130, go_sem, mark, *]) rfl ⟨by rw [HM.out], ?_⟩
  exact ((HB2.out.setCell (p := ⟨w.heap.size, 0, none⟩) (Nat.le_refl _) _).setCell (p := ⟨w.heap.size, 1, none⟩) (Nat.le_refl _) _).setCell (p := ⟨w.heap.size, 2, none⟩) (Nat.le_refl _) _

/-- what readNote gives back: a message, or it panics -/
def RNote (w : World) (l : List UInt8) (e : Ending) (w' : World) : Prop :=
  (∃ y : Nt, e = .returned (ntV y) ∧ RD (str l) true y.f y.n y.t y.u y.s ∧ Below w.heap.size w w') ∨ (e = Imp ∧ (∃ y : Nt, RD (str l) false y.f y.n y.t y.u y.s) ∧ Below w.heap.size w w')

set_option maxRecDepth 100000 in
set_option maxHeartbeats 800000 in
theorem rnote_any (l : List UInt8) (hs : l.length ≤ 1048576) (w : World) (hTab : Tab w) (hErr : Errs w) :
    Calls Tryz.prog 129 #[.string (str l)] w (RNote w l) := by
  have k1 := Blk.new w 74 #[.int .i64 0, .int .i64 0, .int .i64 0, .int .i64 0, .string ⟨#[]⟩]
  have hB0 := (Below.refl w.heap.size w).alloc (Nat.le_refl _) (.cells #[.int .i64 0, .int .i64 0, .int .i64 0, .int .i64 0, .string ⟨#[]⟩] 74)
  have HR := Lib.hid (fun V h1 h2 => iread_any (str l) (by rw [str_size]; omega) V h1 h2)
  unfold ReadPost at HR
  go_enter Tryz.func129, Tryz.ntmps129
  go_wp2_with fail
  generalize w.alloc (.cells #[.int .i64 0, .int .i64 0, .int .i64 0, .int .i64 0, .string ⟨#[]⟩] 74) = V at k1 hB0 ⊢
  refine (HR.out V (hTab.later hB0) (hErr.later hB0)).mono ?_
  rintro e w2 ⟨b, f, n, t, u, s, rfl, hrd, hB2⟩
  have HRD := Lib.hid hrd
  have HB2 := hB0.trans (hB2.mono hB0.size)
  have z2 := (k1.below hB2 k1.lt).alloc (.cells #[.int .i64 f, .int .i64 n, .int .i64 t, .int .i64 u, .string s] 74)
  have x2 := Blk.new w2 74 #[.int .i64 f, .int .i64 n, .int .i64 t, .int .i64 u, .string s]
  have HB3 := Lib.hid (HB2.alloc HB2.size (.cells #[.int .i64 f, .int .i64 n, .int .i64 t, .int .i64 u, .string s] 74))
  clear k1 hB0 HR hrd hB2 HB2
  unfold note
  go_upto_region 2 with (fail)
  generalize w2.alloc (.cells #[.int .i64 f, .int .i64 n, .int .i64 t, .int .i64 u, .string s] 74) = U at z2 x2 HB3 ⊢
  generalize w2.heap.size = xb at x2 ⊢
  cases b with
  | false =>
    go_wp2_with fail
    refine (require_f _).mono ?_
    rintro e w3 ⟨rfl, rfl⟩
    go_wp2
    exact ⟨rfl, .inr ⟨rfl, ⟨⟨f, n, t, u, s⟩, HRD.out⟩, HB3.out⟩⟩
  | true =>
    go_wp2_with fail
    refine (require_t _).mono ?_
    rintro e w3 ⟨rfl, rfl⟩
    have z0 := z2.cell 0
    have z1 := z2.cell 1
    have zz2 := z2.cell 2
    have z3 := z2.cell 3
    have z4 := z2.cell 4
    have y0 := z2.frozen 0
    have y1 := z2.frozen 1
    have y2 := z2.frozen 2
    have y3 := z2.frozen 3
    have y4 := z2.frozen 4
    have c0 := x2.cell 0
    have c1 := x2.cell 1
    have c2 := x2.cell 2
    have c3 := x2.cell 3
    have c4 := x2.cell 4
    simp only [List.getElem?_toArray, List.getElem?_cons_zero, List.getElem?_cons_succ] at z0 z1 zz2 z3 z4 c0 c1 c2 c3 c4
    clear z2 x2
    go_wp2
    refine bodyPost_ret (v := note f n t u s) (by simp [results, Tryz.results129, go_sem, note, *]) rfl (.inl ⟨⟨f, n, t, u, s⟩, rfl, HRD.out, ?_⟩)
    exact put5 HB3.out
end Go.Proofs.YtgihbilpimempabGreatDoor.kp

/-
  Contracts of impl.markText and of the records' text methods.
-/
namespace Go.Proofs.YtgihbilpimempabGreatDoor.kp
open Go.ChangeShapes Go.WideShapes Go.ChangeAt Go.RowKit
open Go.Proofs.YtgihbilpimempabGreatDoor.nb Go.Proofs.YtgihbilpimempabGreatDoor.ok Go.Proofs.YtgihbilpimempabGreatDoor.wd Go.Proofs.YtgihbilpimempabGreatDoor.dc

theorem m3I_cat (m : Mk) : ((((str (Lib.itoa m.f) ++ ⟨#[32]⟩) ++ str (Lib.itoa m.n)) ++ ⟨#[32]⟩) ++ str (Lib.itoa m.u)) = str (m3I m) := by
  rw [show (⟨#[32]⟩ : ByteArray) = str [32] from rfl, str_app, str_app, str_app, str_app]
  unfold m3I
  simp
def i64M (m : Mk) : Prop := i64 m.f ∧ i64 m.n ∧ i64 m.u
theorem m3I_len {m : Mk} (h : i64M m) : (str (m3I m)).size ≤ 65 := by
  obtain ⟨h1, h2, h3⟩ := h
  have l1 := itoa_len h1
  have l2 := itoa_len h2
  have l3 := itoa_len h3
  rw [← m3I_cat]
  simp only [ByteArray.size_append]
  have : (⟨#[32]⟩ : ByteArray).size = 1 := rfl
  omega

set_option maxRecDepth 100000 in
set_option maxHeartbeats 800000 in
theorem markText_any (m : Mk) (h : i64M m) (w : World) (hTab : Tab w) : Calls Tryz.prog 204 #[mkV m] w (StrPost w (str (m3I m))) := by
  have l1 := itoa_len h.1
  have l2 := itoa_len h.2.1
  have l3 := itoa_len h.2.2
  have D1 := Lib.hid (fun V hV => itoa_i64 m.f h.1.1 h.1.2 V hV)
  have D2 := Lib.hid (fun V hV => itoa_i64 m.n h.2.1.1 h.2.1.2 V hV)
  have D3 := Lib.hid (fun V hV => itoa_i64 m.u h.2.2.1 h.2.2.2 V hV)
  have HC := Lib.hid (m3I_cat m)
  unfold StrPost at D1 D2 D3
  generalize str (Lib.itoa m.f) = x1 at l1 D1 HC
  generalize str (Lib.itoa m.n) = x2 at l2 D2 HC
  generalize str (Lib.itoa m.u) = x3 at l3 D3 HC
  have lb : (⟨#[32]⟩ : ByteArray).size = 1 := rfl
  obtain ⟨a1, e1, q1, r1⟩ := adds x1 ⟨#[32]⟩ (by omega)
  obtain ⟨a2, e2, q2, r2⟩ := adds a1 x2 (by omega)
  obtain ⟨a3, e3, q3, r3⟩ := adds a2 ⟨#[32]⟩ (by omega)
  obtain ⟨a4, e4, q4, r4⟩ := adds a3 x3 (by omega)
  have HE : Hid (a4 = str (m3I m)) := by
    show _ = _
    rw [← HC.out, e4, e3, e2, e1]
  have hb := Blk.new w 88 #[.int .i64 m.f, .int .i64 m.n, .int .i64 m.u]
  have hB0 := (Below.refl w.heap.size w).alloc (Nat.le_refl _) (.cells #[.int .i64 m.f, .int .i64 m.n, .int .i64 m.u] 88)
  clear e1 e2 e3 e4 q1 q2 q3 q4 l1 l2 l3 lb HC h
  unfold mkV mark
  go_enter Tryz.func204, Tryz.ntmps204
  go_upto_region 1 with (fail)
  generalize w.alloc (.cells #[.int .i64 m.f, .int .i64 m.n, .int .i64 m.u] 88) = V at hb hB0 ⊢
  obtain ⟨c0, c1, c2⟩ := qa.three hb
  have HB := Lib.hid hB0
  have HT := Lib.hid (hTab.later hB0)
  clear hb hB0 hTab
  refine qa.region (by kernel_rfl) (by kernel_rfl) ?_
  repeat (go_big_quiet_step (first | (go_at_call 159; with_reducible exact qa.of_below (D1.out _ (HT.out.later (qa.After.h _)))) | (go_at_call 159; with_reducible exact qa.of_below (D2.out _ (HT.out.later (qa.After.h _)))) | (go_at_call 159; with_reducible exact qa.of_below (D3.out _ (HT.out.later (qa.After.h _))))))
  refine wpQuiet_nil ?_
  rintro _ ⟨p, rfl⟩
  have HB2 := Lib.hid (HB.out.trans (p.h.mono HB.out.size))
  clear c0 c1 c2
  go_wp2
  go_ret
  exact ⟨by rw [HE.out]; rfl, HB2.out⟩

/-- a record's numbers can be held -/
def rcI : Rc → Prop
  | .time v => i64 v
  | .next v => i64 v
  | .lets m => i64M m
  | .eat m => i64M m
  | .mark m => i64M m
  | _ => True
theorem wlN_len {x : Nt} (h : okNt x = true) : (str (wlN x)).size ≤ 1000 := by
  obtain ⟨⟨a1, a2⟩, ⟨b1, b2⟩, ⟨c1, c2⟩, ⟨d1, d2⟩, ⟨_, e2⟩, _⟩ := okN_parts h
  rw [str_size]
  unfold wlN wl
  have p1 := (dl_len (n := x.f) (by omega)).2
  have p2 := (dl_len (n := x.n) (by omega)).2
  have p3 := (dl_len (n := x.t) (by omega)).2
  have p4 := (dl_len (n := x.u) (by omega)).2
  have p5 : x.s.data.toList.length = x.s.size := (Lib.size_eq x.s).symm
  simp only [List.length_append, List.length_cons]
  omega

set_option maxRecDepth 100000 in
theorem text_time (v : Int) (h : i64 v) (w : World) (hTab : Tab w) : Calls Tryz.prog 199 #[.agg #[.int .i64 v]] w (StrPost w (str (txL (.time v)))) := by
  have l1 := itoa_len h
  have D1 := Lib.hid (fun V hV => itoa_i64 v h.1 h.2 V hV)
  have HC := Lib.hid (show (⟨#[116, 105, 109, 101, 32]⟩ : ByteArray) ++ str (Lib.itoa v) = str (txL (.time v)) by rw [show (⟨#[116, 105, 109, 101, 32]⟩ : ByteArray) = str (kwTime ++ [32]) from rfl, str_app]; unfold txL; rw [List.append_assoc]; rfl)
  generalize str (Lib.itoa v) = x1 at l1 D1 HC
  unfold StrPost at D1
  have lb : (⟨#[116, 105, 109, 101, 32]⟩ : ByteArray).size ≤ 10 := by decide
  obtain ⟨a1, e1, q1, r1⟩ := adds ⟨#[116, 105, 109, 101, 32]⟩ x1 (by omega)
  have HE : Hid (a1 = str (txL (.time v))) := by
    show _ = _
    rw [← HC.out, e1]
  have HB := Lib.hid ((Below.refl w.heap.size w).alloc (Nat.le_refl _) (.cells #[.int .i64 v] 130))
  have HT := Lib.hid (hTab.later HB.out)
  clear e1 q1 l1 lb HC h hTab
  go_enter Tryz.func199, Tryz.ntmps199
  go_wp2_with fail
  refine (D1.out _ HT.out).mono ?_
  rintro e w2 ⟨rfl, hB2⟩
  have HB2 := Lib.hid (HB.out.trans (hB2.mono HB.out.size))
  clear hB2
  go_wp2
  go_ret
  exact ⟨by rw [HE.out]; rfl, HB2.out⟩

set_option maxRecDepth 100000 in
theorem text_next (v : Int) (h : i64 v) (w : World) (hTab : Tab w) : Calls Tryz.prog 200 #[.agg #[.int .i64 v]] w (StrPost w (str (txL (.next v)))) := by
  have l1 := itoa_len h
  have D1 := Lib.hid (fun V hV => itoa_i64 v h.1 h.2 V hV)
  have HC := Lib.hid (show (⟨#[110, 101, 120, 116, 32]⟩ : ByteArray) ++ str (Lib.itoa v) = str (txL (.next v)) by rw [show (⟨#[110, 101, 120, 116, 32]⟩ : ByteArray) = str (kwNext ++ [32]) from rfl, str_app]; unfold txL; rw [List.append_assoc]; rfl)
  generalize str (Lib.itoa v) = x1 at l1 D1 HC
  unfold StrPost at D1
  have lb : (⟨#[110, 101, 120, 116, 32]⟩ : ByteArray).size ≤ 10 := by decide
  obtain ⟨a1, e1, q1, r1⟩ := adds ⟨#[110, 101, 120, 116, 32]⟩ x1 (by omega)
  have HE : Hid (a1 = str (txL (.next v))) := by
    show _ = _
    rw [← HC.out, e1]
  have HB := Lib.hid ((Below.refl w.heap.size w).alloc (Nat.le_refl _) (.cells #[.int .i64 v] 134))
  have HT := Lib.hid (hTab.later HB.out)
  clear e1 q1 l1 lb HC h hTab
  go_enter Tryz.func200, Tryz.ntmps200
  go_wp2_with fail
  refine (D1.out _ HT.out).mono ?_
  rintro e w2 ⟨rfl, hB2⟩
  have HB2 := Lib.hid (HB.out.trans (hB2.mono HB.out.size))
  clear hB2
  go_wp2
  go_ret
  exact ⟨by rw [HE.out]; rfl, HB2.out⟩

set_option maxRecDepth 100000 in
theorem text_own (x : Nt) (h : okNt x = true) (w : World) (hTab : Tab w) : Calls Tryz.prog 201 #[ntV x] w (StrPost w (str (txL (.own x)))) := by
  have l1 := wlN_len h
  have D1 := Lib.hid (fun V hV => (show Calls Tryz.prog 152 #[note x.f x.n x.t x.u x.s] V (StrPost V (str (wlN x))) by have := iwrite_any x.f x.n x.t x.u x.s V (by have := okNt_size h; unfold maxLen; omega) hV; rwa [nw_t h] at this))
  unfold note at D1
  have HC := Lib.hid (show (⟨#[111, 119, 110, 32]⟩ : ByteArray) ++ str (wlN x) = str (txL (.own x)) by rw [show (⟨#[111, 119, 110, 32]⟩ : ByteArray) = str (kwOwn ++ [32]) from rfl, str_app]; unfold txL; rw [List.append_assoc]; rfl)
  generalize str (wlN x) = x1 at l1 D1 HC
  unfold StrPost at D1
  have lb : (⟨#[111, 119, 110, 32]⟩ : ByteArray).size ≤ 10 := by decide
  obtain ⟨a1, e1, q1, r1⟩ := adds ⟨#[111, 119, 110, 32]⟩ x1 (by omega)
  have HE : Hid (a1 = str (txL (.own x))) := by
    show _ = _
    rw [← HC.out, e1]
  have HB := Lib.hid ((Below.refl w.heap.size w).alloc (Nat.le_refl _) (.cells #[.int .i64 x.f, .int .i64 x.n, .int .i64 x.t, .int .i64 x.u, .string x.s] 136))
  have HT := Lib.hid (hTab.later HB.out)
  clear e1 q1 l1 lb HC h hTab
  unfold ntV note
  go_enter Tryz.func201, Tryz.ntmps201
  go_wp2_with fail
  refine (D1.out _ HT.out).mono ?_
  rintro e w2 ⟨rfl, hB2⟩
  have HB2 := Lib.hid (HB.out.trans (hB2.mono HB.out.size))
  clear hB2
  go_wp2
  go_ret
  exact ⟨by rw [HE.out]; rfl, HB2.out⟩

set_option maxRecDepth 100000 in
theorem text_take (x : Nt) (h : okNt x = true) (w : World) (hTab : Tab w) : Calls Tryz.prog 202 #[ntV x] w (StrPost w (str (txL (.take x)))) := by
  have l1 := wlN_len h
  have D1 := Lib.hid (fun V hV => (show Calls Tryz.prog 152 #[note x.f x.n x.t x.u x.s] V (StrPost V (str (wlN x))) by have := iwrite_any x.f x.n x.t x.u x.s V (by have := okNt_size h; unfold maxLen; omega) hV; rwa [nw_t h] at this))
  unfold note at D1
  have HC := Lib.hid (show (⟨#[116, 97, 107, 101, 32]⟩ : ByteArray) ++ str (wlN x) = str (txL (.take x)) by rw [show (⟨#[116, 97, 107, 101, 32]⟩ : ByteArray) = str (kwTake ++ [32]) from rfl, str_app]; unfold txL; rw [List.append_assoc]; rfl)
  generalize str (wlN x) = x1 at l1 D1 HC
  unfold StrPost at D1
  have lb : (⟨#[116, 97, 107, 101, 32]⟩ : ByteArray).size ≤ 10 := by decide
  obtain ⟨a1, e1, q1, r1⟩ := adds ⟨#[116, 97, 107, 101, 32]⟩ x1 (by omega)
  have HE : Hid (a1 = str (txL (.take x))) := by
    show _ = _
    rw [← HC.out, e1]
  have HB := Lib.hid ((Below.refl w.heap.size w).alloc (Nat.le_refl _) (.cells #[.int .i64 x.f, .int .i64 x.n, .int .i64 x.t, .int .i64 x.u, .string x.s] 138))
  have HT := Lib.hid (hTab.later HB.out)
  clear e1 q1 l1 lb HC h hTab
  unfold ntV note
  go_enter Tryz.func202, Tryz.ntmps202
  go_wp2_with fail
  refine (D1.out _ HT.out).mono ?_
  rintro e w2 ⟨rfl, hB2⟩
  have HB2 := Lib.hid (HB.out.trans (hB2.mono HB.out.size))
  clear hB2
  go_wp2
  go_ret
  exact ⟨by rw [HE.out]; rfl, HB2.out⟩

set_option maxRecDepth 100000 in
theorem text_held (x : Nt) (h : okNt x = true) (w : World) (hTab : Tab w) : Calls Tryz.prog 207 #[ntV x] w (StrPost w (str (txL (.held x)))) := by
  have l1 := wlN_len h
  have D1 := Lib.hid (fun V hV => (show Calls Tryz.prog 152 #[note x.f x.n x.t x.u x.s] V (StrPost V (str (wlN x))) by have := iwrite_any x.f x.n x.t x.u x.s V (by have := okNt_size h; unfold maxLen; omega) hV; rwa [nw_t h] at this))
  unfold note at D1
  have HC := Lib.hid (show (⟨#[104, 101, 108, 100, 32]⟩ : ByteArray) ++ str (wlN x) = str (txL (.held x)) by rw [show (⟨#[104, 101, 108, 100, 32]⟩ : ByteArray) = str (kwHeld ++ [32]) from rfl, str_app]; unfold txL; rw [List.append_assoc]; rfl)
  generalize str (wlN x) = x1 at l1 D1 HC
  unfold StrPost at D1
  have lb : (⟨#[104, 101, 108, 100, 32]⟩ : ByteArray).size ≤ 10 := by decide
  obtain ⟨a1, e1, q1, r1⟩ := adds ⟨#[104, 101, 108, 100, 32]⟩ x1 (by omega)
  have HE : Hid (a1 = str (txL (.held x))) := by
    show _ = _
    rw [← HC.out, e1]
  have HB := Lib.hid ((Below.refl w.heap.size w).alloc (Nat.le_refl _) (.cells #[.int .i64 x.f, .int .i64 x.n, .int .i64 x.t, .int .i64 x.u, .string x.s] 144))
  have HT := Lib.hid (hTab.later HB.out)
  clear e1 q1 l1 lb HC h hTab
  unfold ntV note
  go_enter Tryz.func207, Tryz.ntmps207
  go_wp2_with fail
  refine (D1.out _ HT.out).mono ?_
  rintro e w2 ⟨rfl, hB2⟩
  have HB2 := Lib.hid (HB.out.trans (hB2.mono HB.out.size))
  clear hB2
  go_wp2
  go_ret
  exact ⟨by rw [HE.out]; rfl, HB2.out⟩

set_option maxRecDepth 100000 in
theorem text_inbox (x : Nt) (h : okNt x = true) (w : World) (hTab : Tab w) : Calls Tryz.prog 208 #[ntV x] w (StrPost w (str (txL (.inbox x)))) := by
  have l1 := wlN_len h
  have D1 := Lib.hid (fun V hV => (show Calls Tryz.prog 152 #[note x.f x.n x.t x.u x.s] V (StrPost V (str (wlN x))) by have := iwrite_any x.f x.n x.t x.u x.s V (by have := okNt_size h; unfold maxLen; omega) hV; rwa [nw_t h] at this))
  unfold note at D1
  have HC := Lib.hid (show (⟨#[105, 110, 98, 111, 120, 32]⟩ : ByteArray) ++ str (wlN x) = str (txL (.inbox x)) by rw [show (⟨#[105, 110, 98, 111, 120, 32]⟩ : ByteArray) = str (kwInbox ++ [32]) from rfl, str_app]; unfold txL; rw [List.append_assoc]; rfl)
  generalize str (wlN x) = x1 at l1 D1 HC
  unfold StrPost at D1
  have lb : (⟨#[105, 110, 98, 111, 120, 32]⟩ : ByteArray).size ≤ 10 := by decide
  obtain ⟨a1, e1, q1, r1⟩ := adds ⟨#[105, 110, 98, 111, 120, 32]⟩ x1 (by omega)
  have HE : Hid (a1 = str (txL (.inbox x))) := by
    show _ = _
    rw [← HC.out, e1]
  have HB := Lib.hid ((Below.refl w.heap.size w).alloc (Nat.le_refl _) (.cells #[.int .i64 x.f, .int .i64 x.n, .int .i64 x.t, .int .i64 x.u, .string x.s] 145))
  have HT := Lib.hid (hTab.later HB.out)
  clear e1 q1 l1 lb HC h hTab
  unfold ntV note
  go_enter Tryz.func208, Tryz.ntmps208
  go_wp2_with fail
  refine (D1.out _ HT.out).mono ?_
  rintro e w2 ⟨rfl, hB2⟩
  have HB2 := Lib.hid (HB.out.trans (hB2.mono HB.out.size))
  clear hB2
  go_wp2
  go_ret
  exact ⟨by rw [HE.out]; rfl, HB2.out⟩

set_option maxRecDepth 100000 in
theorem text_lets (m : Mk) (h : i64M m) (w : World) (hTab : Tab w) : Calls Tryz.prog 203 #[mkV m] w (StrPost w (str (txL (.lets m)))) := by
  have l1 := m3I_len h
  have D1 := Lib.hid (fun V hV => markText_any m h V hV)
  unfold mkV mark at D1
  have HC := Lib.hid (show (⟨#[108, 101, 116, 32]⟩ : ByteArray) ++ str (m3I m) = str (txL (.lets m)) by rw [show (⟨#[108, 101, 116, 32]⟩ : ByteArray) = str (kwLet ++ [32]) from rfl, str_app]; unfold txL; rw [List.append_assoc]; rfl)
  generalize str (m3I m) = x1 at l1 D1 HC
  unfold StrPost at D1
  have lb : (⟨#[108, 101, 116, 32]⟩ : ByteArray).size ≤ 10 := by decide
  obtain ⟨a1, e1, q1, r1⟩ := adds ⟨#[108, 101, 116, 32]⟩ x1 (by omega)
  have HE : Hid (a1 = str (txL (.lets m))) := by
    show _ = _
    rw [← HC.out, e1]
  have HB := Lib.hid ((Below.refl w.heap.size w).alloc (Nat.le_refl _) (.cells #[.int .i64 m.f, .int .i64 m.n, .int .i64 m.u] 140))
  have HT := Lib.hid (hTab.later HB.out)
  clear e1 q1 l1 lb HC h hTab
  unfold mkV mark
  go_enter Tryz.func203, Tryz.ntmps203
  go_wp2_with fail
  refine (D1.out _ HT.out).mono ?_
  rintro e w2 ⟨rfl, hB2⟩
  have HB2 := Lib.hid (HB.out.trans (hB2.mono HB.out.size))
  clear hB2
  go_wp2
  go_ret
  exact ⟨by rw [HE.out]; rfl, HB2.out⟩

set_option maxRecDepth 100000 in
theorem text_eat (m : Mk) (h : i64M m) (w : World) (hTab : Tab w) : Calls Tryz.prog 205 #[mkV m] w (StrPost w (str (txL (.eat m)))) := by
  have l1 := m3I_len h
  have D1 := Lib.hid (fun V hV => markText_any m h V hV)
  unfold mkV mark at D1
  have HC := Lib.hid (show (⟨#[101, 97, 116, 32]⟩ : ByteArray) ++ str (m3I m) = str (txL (.eat m)) by rw [show (⟨#[101, 97, 116, 32]⟩ : ByteArray) = str (kwEat ++ [32]) from rfl, str_app]; unfold txL; rw [List.append_assoc]; rfl)
  generalize str (m3I m) = x1 at l1 D1 HC
  unfold StrPost at D1
  have lb : (⟨#[101, 97, 116, 32]⟩ : ByteArray).size ≤ 10 := by decide
  obtain ⟨a1, e1, q1, r1⟩ := adds ⟨#[101, 97, 116, 32]⟩ x1 (by omega)
  have HE : Hid (a1 = str (txL (.eat m))) := by
    show _ = _
    rw [← HC.out, e1]
  have HB := Lib.hid ((Below.refl w.heap.size w).alloc (Nat.le_refl _) (.cells #[.int .i64 m.f, .int .i64 m.n, .int .i64 m.u] 142))
  have HT := Lib.hid (hTab.later HB.out)
  clear e1 q1 l1 lb HC h hTab
  unfold mkV mark
  go_enter Tryz.func205, Tryz.ntmps205
  go_wp2_with fail
  refine (D1.out _ HT.out).mono ?_
  rintro e w2 ⟨rfl, hB2⟩
  have HB2 := Lib.hid (HB.out.trans (hB2.mono HB.out.size))
  clear hB2
  go_wp2
  go_ret
  exact ⟨by rw [HE.out]; rfl, HB2.out⟩

set_option maxRecDepth 100000 in
theorem text_mark (m : Mk) (h : i64M m) (w : World) (hTab : Tab w) : Calls Tryz.prog 206 #[mkV m] w (StrPost w (str (txL (.mark m)))) := by
  have l1 := m3I_len h
  have D1 := Lib.hid (fun V hV => markText_any m h V hV)
  unfold mkV mark at D1
  have HC := Lib.hid (show (⟨#[109, 97, 114, 107, 32]⟩ : ByteArray) ++ str (m3I m) = str (txL (.mark m)) by rw [show (⟨#[109, 97, 114, 107, 32]⟩ : ByteArray) = str (kwMark ++ [32]) from rfl, str_app]; unfold txL; rw [List.append_assoc]; rfl)
  generalize str (m3I m) = x1 at l1 D1 HC
  unfold StrPost at D1
  have lb : (⟨#[109, 97, 114, 107, 32]⟩ : ByteArray).size ≤ 10 := by decide
  obtain ⟨a1, e1, q1, r1⟩ := adds ⟨#[109, 97, 114, 107, 32]⟩ x1 (by omega)
  have HE : Hid (a1 = str (txL (.mark m))) := by
    show _ = _
    rw [← HC.out, e1]
  have HB := Lib.hid ((Below.refl w.heap.size w).alloc (Nat.le_refl _) (.cells #[.int .i64 m.f, .int .i64 m.n, .int .i64 m.u] 143))
  have HT := Lib.hid (hTab.later HB.out)
  clear e1 q1 l1 lb HC h hTab
  unfold mkV mark
  go_enter Tryz.func206, Tryz.ntmps206
  go_wp2_with fail
  refine (D1.out _ HT.out).mono ?_
  rintro e w2 ⟨rfl, hB2⟩
  have HB2 := Lib.hid (HB.out.trans (hB2.mono HB.out.size))
  clear hB2
  go_wp2
  go_ret
  exact ⟨by rw [HE.out]; rfl, HB2.out⟩

def rcT : Rc → TypeId
  | .time _ => 130
  | .next _ => 134
  | .own _ => 136
  | .take _ => 138
  | .held _ => 144
  | .inbox _ => 145
  | .lets _ => 140
  | .eat _ => 142
  | .mark _ => 143
def rcP : Rc → Value
  | .time v => .agg #[.int .i64 v]
  | .next v => .agg #[.int .i64 v]
  | .own x => ntV x
  | .take x => ntV x
  | .held x => ntV x
  | .inbox x => ntV x
  | .lets m => mkV m
  | .eat m => mkV m
  | .mark m => mkV m
def rcFn : Rc → Nat
  | .time _ => 199
  | .next _ => 200
  | .own _ => 201
  | .take _ => 202
  | .held _ => 207
  | .inbox _ => 208
  | .lets _ => 203
  | .eat _ => 205
  | .mark _ => 206
/-- a record behind the interface -/
def rcV (r : Rc) : Value := .iface (rcT r) (rcP r)
theorem mText (r : Rc) (w : World) : (Go.method 338 (rcT r) (rcP r) "loop.example/bargeman/impl.text").run Tryz.prog w = .ok (rcFn r, rcP r) w := by
  cases r <;> kernel_rfl
theorem callRc (r : Rc) (w : World) : (callFunc (rcFn r) #[rcP r]).run Tryz.prog w = .ok (.enter (rcFn r) #[rcP r]) w := by
  cases r <;> kernel_rfl
theorem text_any (r : Rc) (h1 : ntIn r) (h2 : rcI r) (w : World) (hTab : Tab w) : Calls Tryz.prog (rcFn r) #[rcP r] w (StrPost w (str (txL r))) := by
  cases r with
  | time v => exact text_time v h2 w hTab
  | next v => exact text_next v h2 w hTab
  | own x => exact text_own x h1 w hTab
  | take x => exact text_take x h1 w hTab
  | held x => exact text_held x h1 w hTab
  | inbox x => exact text_inbox x h1 w hTab
  | lets m => exact text_lets m h2 w hTab
  | eat m => exact text_eat m h2 w hTab
  | mark m => exact text_mark m h2 w hTab
theorem txL_len {r : Rc} (h1 : ntIn r) (h2 : rcI r) : (str (txL r)).size ≤ 2000 := by
  rw [str_size]
  unfold txL
  rw [List.length_append, List.length_cons]
  have hk : (kw r).length ≤ 5 := by cases r <;> simp [kw, kwTime, kwNext, kwOwn, kwTake, kwHeld, kwInbox, kwLet, kwEat, kwMark]
  have hb : (bodyI r).length ≤ 1000 := by
    rw [← str_size]
    cases r with
    | time v => have := itoa_len (show i64 v from h2); show (str (Lib.itoa v)).size ≤ 1000; omega
    | next v => have := itoa_len (show i64 v from h2); show (str (Lib.itoa v)).size ≤ 1000; omega
    | own x => exact wlN_len h1
    | take x => exact wlN_len h1
    | held x => exact wlN_len h1
    | inbox x => exact wlN_len h1
    | lets m => have := m3I_len (show i64M m from h2); show (str (m3I m)).size ≤ 1000; omega
    | eat m => have := m3I_len (show i64M m from h2); show (str (m3I m)).size ≤ 1000; omega
    | mark m => have := m3I_len (show i64M m from h2); show (str (m3I m)).size ≤ 1000; omega
  omega
end Go.Proofs.YtgihbilpimempabGreatDoor.kp

