/-
  Merged texts: IWrite, IRead, DoPlain3, INums, IRec1.
-/
import Derived.Test.YtjmmojjjopjdpaaGreatDoorGFnKeepOf3
import Derived.Test.YtjmmojjjopjdpaaGreatDoorGFnKeepOf4
import Derived.Test.YtjmmojjjopjdpaaGreatDoorGFnKeepOf33
import Derived.Test.YtjmmojjjopjdpaaGreatDoorGFnKeepOf13
import Derived.Test.YtjmmojjjopjdpaaGreatDoorGFnKeepOf11
import Derived.Test.YtjmmojjjopjdpaaGreatDoorGFnKeepOf26
import Derived.Test.YtjmmojjjopjdpaaGreatDoorGFnKeepOf23
import Derived.Deep.RegionHeld3
import Derived.Deep.Cut
import Derived.Lib.ItoaLen
/-
  Contract of impl.NoteWrite.
-/
namespace Go.Proofs.YtjmmojjjopjdpaaGreatDoor.dc
open Go.ChangeShapes Go.WideShapes Go.ChangeAt Go.RowKit
open Go.Proofs.YtjmmojjjopjdpaaGreatDoor.nb Go.Proofs.YtjmmojjjopjdpaaGreatDoor.ok Go.Proofs.YtjmmojjjopjdpaaGreatDoor.wd

theorem wr_loop (f n t u : Int) (s : ByteArray) : ((((str [] ++ (str (dl f) ++ str [32])) ++ (str (dl n) ++ str [32])) ++ (str (dl t) ++ str [32])) ++ (str (dl u) ++ str [32])) ++ s = wr f n t u s := by
  unfold wr wl
  rw [← str_data s]
  simp only [str_app, data_str]
  congr 1
  simp

theorem iwrite_f (f n t u : Int) (s : ByteArray) (w : World) (hs : s.size ≤ maxLen) (h : okN f n t u s = false) :
    Calls Tryz.prog 304 #[note f n t u s] w (StrPost w (str [])) := by
  unfold note
  go_enter Tryz.func304, Tryz.ntmps304
  go_wp2_with fail
  refine (iok_any f n t u s _ hs).mono ?_
  rintro e w1 ⟨rfl, hB1⟩
  have HB := Lib.hid (((Below.refl w.heap.size w).alloc (Nat.le_refl _) _).trans (hB1.mono (by simp)))
  clear hB1
  rw [h]
  go_wp2
  go_ret
  exact ⟨rfl, HB.out⟩

set_option maxRecDepth 100000 in
set_option maxHeartbeats 1000000 in
theorem iwrite_t (f n t u : Int) (s : ByteArray) (w : World) (h : okN f n t u s = true) (hTab : Tab w) :
    Calls Tryz.prog 304 #[note f n t u s] w (StrPost w (wr f n t u s)) := by
  obtain ⟨⟨f0, f1⟩, ⟨n0, n1⟩, ⟨t0, t1⟩, ⟨u0, u1⟩, ⟨z0, z1⟩, _⟩ := okN_parts h
  have HD0 := Lib.hid (fun W hT => itoa_any f f0 (by omega) W hT)
  have HD1 := Lib.hid (fun W hT => itoa_any n (by omega) (by omega) W hT)
  have HD2 := Lib.hid (fun W hT => itoa_any t t0 (by omega) W hT)
  have HD3 := Lib.hid (fun W hT => itoa_any u (by omega) (by omega) W hT)
  have l0 : (str (dl f)).size ≤ 3 := by rw [str_size]; exact (dl_len (by omega)).2
  have l1 : (str (dl n)).size ≤ 3 := by rw [str_size]; exact (dl_len (by omega)).2
  have l2 : (str (dl t)).size ≤ 3 := by rw [str_size]; exact (dl_len (by omega)).2
  have l3 : (str (dl u)).size ≤ 3 := by rw [str_size]; exact (dl_len (by omega)).2
  have HW := Lib.hid (wr_loop f n t u s)
  have lb : (⟨#[32]⟩ : ByteArray).size = 1 := rfl
  have le : (⟨#[]⟩ : ByteArray).size = 0 := rfl
  generalize str (dl f) = D0 at HD0 l0 HW
  generalize str (dl n) = D1 at HD1 l1 HW
  generalize str (dl t) = D2 at HD2 l2 HW
  generalize str (dl u) = D3 at HD3 l3 HW
  obtain ⟨a0, e1, q1, r1⟩ := adds D0 ⟨#[32]⟩ (by omega)
  obtain ⟨p1, e2, q2, r2⟩ := adds ⟨#[]⟩ a0 (by omega)
  obtain ⟨a1, e3, q3, r3⟩ := adds D1 ⟨#[32]⟩ (by omega)
  obtain ⟨p2, e4, q4, r4⟩ := adds p1 a1 (by omega)
  obtain ⟨a2, e5, q5, r5⟩ := adds D2 ⟨#[32]⟩ (by omega)
  obtain ⟨p3, e6, q6, r6⟩ := adds p2 a2 (by omega)
  obtain ⟨a3, e7, q7, r7⟩ := adds D3 ⟨#[32]⟩ (by omega)
  obtain ⟨p4, e8, q8, r8⟩ := adds p3 a3 (by omega)
  obtain ⟨p5, e9, q9, r9⟩ := adds p4 s (by omega)
  have HP : Hid (p5 = wr f n t u s) := by rw [e9, e8, e7, e6, e5, e4, e3, e2, e1]; exact HW.out
  clear e1 e2 e3 e4 e5 e6 e7 e8 e9 q1 q2 q3 q4 q5 q6 q7 q8 q9 HW l0 l1 l2 l3 lb le
  have hs : s.size ≤ maxLen := by unfold maxLen; omega
  unfold note
  have hb := Blk.new w 131 #[.int .i64 f, .int .i64 n, .int .i64 t, .int .i64 u, .string s]
  have hB0 : Below w.heap.size w (w.alloc (.cells #[.int .i64 f, .int .i64 n, .int .i64 t, .int .i64 u, .string s] 131)) := (Below.refl _ _).alloc (Nat.le_refl _) _
  go_enter Tryz.func304, Tryz.ntmps304
  go_wp2_with fail
  generalize w.alloc (.cells #[.int .i64 f, .int .i64 n, .int .i64 t, .int .i64 u, .string s] 131) = W0 at hb hB0 ⊢
  refine (iok_any f n t u s _ hs).mono ?_
  rintro e W ⟨rfl, hB1⟩
  have hbW := hb.below hB1 hb.lt
  have hBW := hB0.trans (hB1.mono hB0.size)
  rw [h]
  clear hb hB0 hB1 h hs
  go_wp2_with fail
  refine (numbers_any _ _).mono ?_
  rintro e W1 ⟨R1, rfl, _, hP1, hB2⟩
  have HP1 := Lib.hid hP1
  clear hP1
  have HN := Lib.hid (hbW.below hB2 hbW.lt)
  have hBW1 := hBW.trans (hB2.mono hBW.size)
  have HT := Lib.hid (hTab.later hBW1)
  have HB1 := Lib.hid hBW1
  clear hbW hBW hB2 hBW1 hTab
  go_wp2
  go_loopw [3, 11] (fun x i wr => (i = .int .i64 0 ∧ x = .string ⟨#[]⟩ ∨ i = .int .i64 1 ∧ x = .string p1 ∨ i = .int .i64 2 ∧ x = .string p2 ∨ i = .int .i64 3 ∧ x = .string p3 ∨ i = .int .i64 4 ∧ x = .string p4) ∧ Below W1.heap.size W1 wr) (fun _ i _ => 4 - (intOf i).toNat)
  case atStart => exact ⟨.inl ⟨rfl, rfl⟩, Below.refl _ _⟩
  case round =>
    obtain ⟨hc, hBr⟩ := hrel
    obtain ⟨c0, c1, c2, c3, c4, hz⟩ := five (HN.out.below hBr HN.out.lt)
    have hT := HT.out.later hBr
    rcases hc with ⟨rfl, rfl⟩ | ⟨rfl, rfl⟩ | ⟨rfl, rfl⟩ | ⟨rfl, rfl⟩ | ⟨rfl, rfl⟩
    · have ix := ((HP1.out.below hBr HP1.out.lt).cell 0).trans (ptrA_at (k := 0) (by omega) w.heap.size)
      go_wp2_with fail
      clear ix
      refine (HD0.out _ hT).mono ?_
      rintro e w3 ⟨rfl, hB3⟩
      have R := Lib.hid (hBr.trans (hB3.mono hBr.size))
      clear hB3 hBr c0 c1 c2 c3 c4 hT hz
      go_wp2
      go_roundw
      case rel => exact ⟨.inr (.inl ⟨rfl, rfl⟩), R.out⟩
      case measure => simp [intOf]
    · have ix := ((HP1.out.below hBr HP1.out.lt).cell 1).trans (ptrA_at (k := 1) (by omega) w.heap.size)
      go_wp2_with fail
      clear ix
      refine (HD1.out _ hT).mono ?_
      rintro e w3 ⟨rfl, hB3⟩
      have R := Lib.hid (hBr.trans (hB3.mono hBr.size))
      clear hB3 hBr c0 c1 c2 c3 c4 hT hz
      go_wp2
      go_roundw
      case rel => exact ⟨.inr (.inr (.inl ⟨rfl, rfl⟩)), R.out⟩
      case measure => simp [intOf]
    · have ix := ((HP1.out.below hBr HP1.out.lt).cell 2).trans (ptrA_at (k := 2) (by omega) w.heap.size)
      go_wp2_with fail
      clear ix
      refine (HD2.out _ hT).mono ?_
      rintro e w3 ⟨rfl, hB3⟩
      have R := Lib.hid (hBr.trans (hB3.mono hBr.size))
      clear hB3 hBr c0 c1 c2 c3 c4 hT hz
      go_wp2
      go_roundw
      case rel => exact ⟨.inr (.inr (.inr (.inl ⟨rfl, rfl⟩))), R.out⟩
      case measure => simp [intOf]
    · have ix := ((HP1.out.below hBr HP1.out.lt).cell 3).trans (ptrA_at (k := 3) (by omega) w.heap.size)
      go_wp2_with fail
      clear ix
      refine (HD3.out _ hT).mono ?_
      rintro e w3 ⟨rfl, hB3⟩
      have R := Lib.hid (hBr.trans (hB3.mono hBr.size))
      clear hB3 hBr c0 c1 c2 c3 c4 hT hz
      go_wp2
      go_roundw
      case rel => exact ⟨.inr (.inr (.inr (.inr (⟨rfl, rfl⟩)))), R.out⟩
      case measure => simp [intOf]
    · have R := Lib.hid (HB1.out.trans (hBr.mono HB1.out.size))
      clear hBr hT
      go_wp2
      go_ret
      exact ⟨by rw [← HP.out]; rfl, R.out⟩

theorem iwrite_any (f n t u : Int) (s : ByteArray) (w : World) (hs : s.size ≤ maxLen) (hTab : Tab w) :
    Calls Tryz.prog 304 #[note f n t u s] w (StrPost w (nw f n t u s)) := by
  cases h : okN f n t u s with
  | true => rw [nw_t h]; exact iwrite_t f n t u s w h hTab
  | false => rw [nw_f h]; exact iwrite_f f n t u s w hs h
end Go.Proofs.YtjmmojjjopjdpaaGreatDoor.dc

/-
  Contracts of impl.readNumbers and of impl.NoteRead.
-/
namespace Go.Proofs.YtjmmojjjopjdpaaGreatDoor.dc
open Go.ChangeShapes Go.WideShapes Go.ChangeAt Go.RowKit
open Go.Proofs.YtjmmojjjopjdpaaGreatDoor.nb Go.Proofs.YtjmmojjjopjdpaaGreatDoor.ok Go.Proofs.YtjmmojjjopjdpaaGreatDoor.wd

/-- a message under way: its first numbers -/
def cellsN (vs : List Int) : Array Value := #[.int .i64 (vs.getD 0 0), .int .i64 (vs.getD 1 0), .int .i64 (vs.getD 2 0), .int .i64 (vs.getD 3 0), .string ⟨#[]⟩]
theorem cellsN_put {vs : List Int} {k : Nat} (h : vs.length = k) (hk : k < 4) (x : Int) : (cellsN vs).setIfInBounds k (.int .i64 x) = cellsN (vs ++ [x]) := by
  subst h
  match vs, hk with
  | [], _ => rfl
  | [a], _ => rfl
  | [a, b], _ => rfl
  | [a, b, c], _ => rfl
theorem cellsN_at {k : Nat} (vs : List Int) (hk : k < 4) : ∃ y : Int, (cellsN vs)[k]? = some (.int .i64 y) := by
  match k, hk with
  | 0, _ => exact ⟨_, rfl⟩
  | 1, _ => exact ⟨_, rfl⟩
  | 2, _ => exact ⟨_, rfl⟩
  | 3, _ => exact ⟨_, rfl⟩
theorem atoi_spells (l : List UInt8) : Spells l (atoiV l) := fun m h0 h1 e => by rw [e]; exact atoiV_dl h0 h1

def zN : Array Value := #[.int .i64 0, .int .i64 0, .int .i64 0, .int .i64 0, .string ⟨#[]⟩]

/-- what readNumbers leaves: four numbers in the message's box, and the rest of the text -/
def RNPost (w0 : World) (x : ByteArray) (z g : Nat) (e : Ending) (w' : World) : Prop :=
  ∃ (vs : List Int) (r : List UInt8), e = .returned (.string (str r)) ∧ vs.length = 4 ∧ Blk w' z 131 zN ∧ Blk w' g 131 (cellsN vs) ∧ Inv x.data.toList 4 vs r ∧ r.length ≤ x.size ∧ Below w0.heap.size w0 w'

set_option maxRecDepth 100000 in
set_option maxHeartbeats 2000000 in
theorem rnums_any (x : ByteArray) (hs : x.size ≤ 1048576) (w0 w : World) (z g R : Nat) (hZ : Blk w z 131 zN) (hN : Blk w g 131 (cellsN [])) (hP : Blk w R 354 (ptrA g)) (hzg : z ≠ g) (hRg : R ≠ g) (hg : w0.heap.size ≤ g) (hB : Below w0.heap.size w0 w) (hErr : Errs w0) :
    Calls Tryz.prog 278 #[.string x, .slice (some ⟨R, 0, none⟩) 4 4] w (RNPost w0 x z g) := by
  have hsz := Lib.hid (Lib.size_eq x)
  have HZ1 := Lib.hid hZ
  have HN1 := Lib.hid hN
  have HP1 := Lib.hid hP
  have HB1 := Lib.hid hB
  have Hzg := Lib.hid hzg
  have HRg := Lib.hid hRg
  have Hg := Lib.hid hg
  clear hZ hN hP hB hzg hRg hg
  go_enter Tryz.func278, Tryz.ntmps278
  go_wp2
  go_loopw [0, 12] (fun rv i wr => ∃ (k : Nat) (vs : List Int) (r : List UInt8), k ≤ 4 ∧ Hid (vs.length = k) ∧ i = .int .i64 k ∧ rv = .string (str r) ∧ Hid (Blk wr z 131 zN) ∧ Hid (Blk wr g 131 (cellsN vs)) ∧ Hid (Blk wr R 354 (ptrA g)) ∧ Hid (Inv x.data.toList k vs r) ∧ r.length ≤ x.size ∧ Hid (Below w0.heap.size w0 wr)) (fun _ i _ => 4 - (intOf i).toNat)
  case atStart => exact ⟨0, [], x.data.toList, by omega, rfl, rfl, by rw [str_data], HZ1.out, HN1.out, HP1.out, inv_start _, by rw [hsz.out]; exact Nat.le_refl _, HB1.out⟩
  case round =>
    obtain ⟨k, vs, r, hk, HL, rfl, rfl, HZ, HN, HP, HI, hr, HB⟩ := hrel
    clear HZ1 HN1 HP1 HB1
    by_cases hk4 : k < 4
    · have hwl := word_len r
      have HSt := Lib.hid (inv_step (v := atoiV (word r).1) hk4 HI.out (atoi_spells _))
      have HW := Lib.hid (fun W => cut_any (str r) (by rw [str_size]; omega) W)
      have HD := Lib.hid (fun W h => atoi_any (str (word r).1) (by rw [str_size]; omega) W h)
      unfold CutPost at HW
      rw [data_str] at HW HD
      generalize word r = pq at HSt HW HD hwl
      obtain ⟨p, q⟩ := pq
      simp only at HSt HW HD hwl
      have hq : q.length ≤ x.size := by omega
      have ix := (HP.out.cell k).trans (ptrA_at hk4 g)
      clear hwl HI
      go_wp2_with fail
      clear ix
      refine (HW.out _).mono ?_
      rintro e w2 ⟨fb, rfl, hB2⟩
      have HB2 := Lib.hid (HB.out.trans (hB2.mono HB.out.size))
      have HE := Lib.hid (hErr.later HB2.out)
      have HZ2 := Lib.hid (HZ.out.below hB2 HZ.out.lt)
      have HN2 := Lib.hid (HN.out.below hB2 HN.out.lt)
      have HP2 := Lib.hid (HP.out.below hB2 HP.out.lt)
      clear hB2 HB HZ HN HP HW
      go_wp2_with fail
      refine (HD.out _ HE.out).mono ?_
      rintro e w3 ⟨er, rfl, hB3⟩
      have HB3 := Lib.hid ((HB2.out.trans (hB3.mono HB2.out.size)).setCell (p := ⟨g, k, none⟩) Hg.out (.int .i64 (atoiV p)))
      have HZ3 := Lib.hid ((HZ2.out.below hB3 HZ2.out.lt).far (p := ⟨g, k, none⟩) Hzg.out (.int .i64 (atoiV p)))
      have HP3 := Lib.hid ((HP2.out.below hB3 HP2.out.lt).far (p := ⟨g, k, none⟩) HRg.out (.int .i64 (atoiV p)))
      have hN3 := HN2.out.below hB3 HN2.out.lt
      obtain ⟨o, ho⟩ := cellsN_at vs hk4
      have c := (hN3.cell k).trans ho
      have fz := hN3.frozen k
      have R3 := hN3.put k (.int .i64 (atoiV p))
      rw [cellsN_put HL.out hk4] at R3
      have HN3 := Lib.hid R3
      have HL3 : Hid ((vs ++ [atoiV p]).length = k + 1) := by show _ = _; rw [List.length_append, HL.out]; rfl
      clear hB3 HB2 HZ2 HN2 HP2 HE hN3 R3 ho HD HL
      generalize atoiV p = y at HSt HB3 HZ3 HN3 HP3 HL3 ⊢
      go_wp2
      go_roundw
      case rel => exact ⟨k + 1, vs ++ [y], q, by omega, HL3, by go_num, rfl, HZ3, HN3, HP3, HSt, hq, HB3⟩
      case measure => simp [intOf]; omega
    · obtain rfl : k = 4 := by omega
      go_wp2
      go_ret
      exact ⟨vs, r, rfl, HL.out, HZ.out, HN.out, HI.out, hr, HB.out⟩

set_option maxRecDepth 100000 in
set_option maxHeartbeats 2000000 in
theorem iread_any (x : ByteArray) (hs : x.size ≤ 1048576) (w : World) (hTab : Tab w) (hErr : Errs w) :
    Calls Tryz.prog 279 #[.string x] w (ReadPost w x) := by
  have hsz := Lib.hid (Lib.size_eq x)
  have hZ0 := (Blk.new w 131 zN).alloc (.cells zN 131)
  have hN0 := Blk.new (w.alloc (.cells zN 131)) 131 zN
  have e1 : (w.alloc (.cells zN 131)).heap.size = w.heap.size + 1 := by simp
  rw [e1] at hN0
  have hB0 : Below w.heap.size w ((w.alloc (.cells zN 131)).alloc (.cells zN 131)) := ((Below.refl _ _).alloc (Nat.le_refl _) _).alloc (by simp) _
  clear e1
  have HZ0 := Lib.hid hZ0
  have HN0 := Lib.hid hN0
  have HB0 := Lib.hid hB0
  clear hZ0 hN0 hB0
  unfold zN at HZ0 HN0 HB0
  go_enter Tryz.func279, Tryz.ntmps279
  go_wp2_with fail
  refine (numbers_any _ _).mono ?_
  rintro e W1 ⟨R1, rfl, hR1, hP1, hB1⟩
  have HZ1 := Lib.hid (HZ0.out.below hB1 HZ0.out.lt)
  have HN1 := Lib.hid (HN0.out.below hB1 HN0.out.lt)
  have HB1 := Lib.hid (HB0.out.trans (hB1.mono HB0.out.size))
  have HP1 := Lib.hid hP1
  have hR1' : R1 ≠ w.heap.size + 1 := by
    have := HN0.out.lt
    omega
  clear HZ0 HN0 HB0 hB1 hP1 hR1
  have hRN := rnums_any x hs w W1 w.heap.size (w.heap.size + 1) R1 HZ1.out HN1.out HP1.out (by omega) hR1' (by omega) HB1.out hErr
  have HRN := Lib.hid hRN
  clear hRN hR1' HZ1 HN1 HB1 HP1
  go_wp2_with fail
  refine HRN.out.mono ?_
  rintro e wr ⟨vs, r, rfl, hL, hZ, hN, hI, hr, hB⟩
  have HL := Lib.hid hL
  have HZ := Lib.hid hZ
  have HN := Lib.hid hN
  have HI := Lib.hid hI
  have HB := Lib.hid hB
  clear hL hZ hN hI hB HRN
  obtain ⟨a, b, c, d, rfl⟩ := four HL.out
  have hrz : (str r).size ≤ maxLen := by rw [str_size]; unfold maxLen; omega
  have HOk1 := Lib.hid (fun V => iok_any a b c d (str r) V hrz)
  have HW := Lib.hid (fun V h => iwrite_any a b c d (str r) V hrz h)
  have HQ := Lib.hid (⟨fun h => fin_bad HI.out h, fun h => fin_other HI.out h⟩ : (okN a b c d (str r) = false → NoNote x) ∧ (dc.wr a b c d (str r) ≠ x → NoNote x))
  generalize str r = rs at HOk1 HW HQ hrz ⊢
  obtain ⟨n0, n1, n2, n3, n4, _⟩ := five (show Blk wr (w.heap.size + 1) 131 #[.int .i64 a, .int .i64 b, .int .i64 c, .int .i64 d, .string ⟨#[]⟩] from HN.out)
  have f4 := HN.out.frozen 4
  have hN1 : Blk (wr.setCell ⟨w.heap.size + 1, 4, none⟩ (.string rs)) (w.heap.size + 1) 131 #[.int .i64 a, .int .i64 b, .int .i64 c, .int .i64 d, .string rs] := HN.out.put 4 (.string rs)
  have hZ1 := HZ.out.far (p := ⟨w.heap.size + 1, 4, none⟩) (by simp) (.string rs)
  have hB1 := HB.out.setCell (p := ⟨w.heap.size + 1, 4, none⟩) (by simp) (.string rs)
  clear HI hr HL HB HN HZ
  go_wp2_with fail
  clear n0 n1 n2 n3 n4 f4
  generalize wr.setCell ⟨w.heap.size + 1, 4, none⟩ (.string rs) = V0 at hN1 hZ1 hB1 ⊢
  refine (HOk1.out _).mono ?_
  rintro e V1 ⟨rfl, hB2⟩
  have hN2 := hN1.below hB2 hN1.lt
  have hZ2 := hZ1.below hB2 hZ1.lt
  have hB3 := hB1.trans (hB2.mono hB1.size)
  have HB3 := Lib.hid hB3
  have HT := Lib.hid (hTab.later hB3)
  clear hN1 hZ1 hB1 hB2 hB3 HOk1
  unfold zN at hZ2
  obtain ⟨z0, z1, z2, z3, z4, _⟩ := five hZ2
  obtain ⟨n0, n1, n2, n3, n4, _⟩ := five hN2
  have y0 := hZ2.frozen 0
  have y1 := hZ2.frozen 1
  have y2 := hZ2.frozen 2
  have y3 := hZ2.frozen 3
  have y4 := hZ2.frozen 4
  cases hok : okN a b c d rs with
  | false =>
    have HNo := Lib.hid (HQ.out.1 hok)
    clear hN2 hZ2 HW hok HQ
    go_wp2
    refine bodyPost_ret (v := .tuple #[note 0 0 0 0 ⟨#[]⟩, .bool false]) (by simp [results, Tryz.results279, go_sem, note, *]) rfl ⟨false, 0, 0, 0, 0, ⟨#[]⟩, rfl, .inr ⟨rfl, rfl, rfl, rfl, rfl, rfl, HNo.out⟩, ?_⟩
    exact put5 HB3.out
  | true =>
    have HOk := Lib.hid hok
    have HW' := Lib.hid (fun V h => (show Calls Tryz.prog 304 #[note a b c d rs] V (StrPost V (dc.wr a b c d rs)) by have := HW.out V h; rwa [nw_t hok] at this))
    clear hok HW
    by_cases hq : dc.wr a b c d rs = x
    · have HEq : Hid (x = dc.wr a b c d rs) := hq.symm
      rw [hq] at HW'
      clear hq HQ
      go_wp2_with fail
      refine (HW'.out _ HT.out).mono ?_
      rintro e V2 ⟨rfl, hB4⟩
      clear z0 z1 z2 z3 z4 y0 y1 y2 y3 y4 n0 n1 n2 n3 n4
      have hN3 := hN2.below hB4 hN2.lt
      have hZ3 := hZ2.below hB4 hZ2.lt
      have HB4 := Lib.hid (HB3.out.trans (hB4.mono HB3.out.size))
      obtain ⟨z0, z1, z2, z3, z4, _⟩ := five hZ3
      obtain ⟨n0, n1, n2, n3, n4, _⟩ := five hN3
      have y0 := hZ3.frozen 0
      have y1 := hZ3.frozen 1
      have y2 := hZ3.frozen 2
      have y3 := hZ3.frozen 3
      have y4 := hZ3.frozen 4
      clear hN2 hZ2 hN3 hZ3 hB4 HB3 HT HW'
      go_wp2
      refine bodyPost_ret (v := .tuple #[note a b c d rs, .bool true]) (by simp [results, Tryz.results279, go_sem, note, *]) rfl ⟨true, a, b, c, d, rs, rfl, .inl ⟨rfl, HOk.out, HEq.out⟩, ?_⟩
      exact put5 HB4.out
    · have HNo := Lib.hid (HQ.out.2 hq)
      have hx2 := toList_ne hq
      generalize dc.wr a b c d rs = es at HW' hx2
      clear hq HQ
      go_wp2_with fail
      refine (HW'.out _ HT.out).mono ?_
      rintro e V2 ⟨rfl, hB4⟩
      clear z0 z1 z2 z3 z4 y0 y1 y2 y3 y4 n0 n1 n2 n3 n4
      have hN3 := hN2.below hB4 hN2.lt
      have hZ3 := hZ2.below hB4 hZ2.lt
      have HB4 := Lib.hid (HB3.out.trans (hB4.mono HB3.out.size))
      obtain ⟨z0, z1, z2, z3, z4, _⟩ := five hZ3
      obtain ⟨n0, n1, n2, n3, n4, _⟩ := five hN3
      have y0 := hZ3.frozen 0
      have y1 := hZ3.frozen 1
      have y2 := hZ3.frozen 2
      have y3 := hZ3.frozen 3
      have y4 := hZ3.frozen 4
      clear hN2 hZ2 hN3 hZ3 hB4 HB3 HT HW'
      go_wp2
      refine bodyPost_ret (v := .tuple #[note 0 0 0 0 ⟨#[]⟩, .bool false]) (by simp [results, Tryz.results279, go_sem, note, *]) rfl ⟨false, 0, 0, 0, 0, ⟨#[]⟩, rfl, .inr ⟨rfl, rfl, rfl, rfl, rfl, rfl, HNo.out⟩, ?_⟩
      exact put5 HB4.out
end Go.Proofs.YtjmmojjjopjdpaaGreatDoor.dc

/-
  Plain: a record as the program reads it, and its text as the program writes it again. Nothing here speaks of a program.
-/
namespace Go.Proofs.YtjmmojjjopjdpaaGreatDoor.kp
open Go.Proofs.YtjmmojjjopjdpaaGreatDoor.nb Go.Proofs.YtjmmojjjopjdpaaGreatDoor.ok Go.Proofs.YtjmmojjjopjdpaaGreatDoor.dc

def m3I (m : Mk) : List UInt8 := Lib.itoa m.f ++ 32 :: (Lib.itoa m.n ++ 32 :: Lib.itoa m.u)
def bodyI : Rc → List UInt8
  | .time v => Lib.itoa v
  | .next v => Lib.itoa v
  | .own x => wlN x
  | .take x => wlN x
  | .held x => wlN x
  | .inbox x => wlN x
  | .lets m => m3I m
  | .eat m => m3I m
  | .mark m => m3I m
/-- the text that is written again -/
def txL (r : Rc) : List UInt8 := kw r ++ 32 :: bodyI r
/-- a record's message is in order -/
def ntIn : Rc → Prop
  | .own x => okNt x = true
  | .take x => okNt x = true
  | .held x => okNt x = true
  | .inbox x => okNt x = true
  | _ => True
theorem bodyI_ok {r : Rc} (h : rcOk r) : bodyI r = body r := by
  cases r with
  | time v => exact itoa_dl h.1
  | next v => exact itoa_dl h.1
  | own x => rfl
  | take x => rfl
  | held x => rfl
  | inbox x => rfl
  | lets m => obtain ⟨a, b, c⟩ := okMk_parts h; unfold bodyI body m3I m3M m3; simp only; rw [itoa_dl (by omega), itoa_dl (by omega), itoa_dl (by omega)]
  | eat m => obtain ⟨a, b, c⟩ := okMk_parts h; unfold bodyI body m3I m3M m3; simp only; rw [itoa_dl (by omega), itoa_dl (by omega), itoa_dl (by omega)]
  | mark m => obtain ⟨a, b, c⟩ := okMk_parts h; unfold bodyI body m3I m3M m3; simp only; rw [itoa_dl (by omega), itoa_dl (by omega), itoa_dl (by omega)]
theorem txL_ok {r : Rc} (h : rcOk r) : txL r = rcL r := by unfold txL rcL; rw [bodyI_ok h]

/-- what a word and the rest are read as -/
def RO (a b : List UInt8) : Option Rc → Prop
  | some r => ntIn r ∧ kw r = a ∧ ∀ r', rcOk r' → kw r' = a → body r' = b → r' = r
  | none => ∀ r', rcOk r' → kw r' = a → body r' ≠ b
/-- what a text is read as -/
def RR (l : List UInt8) : Option Rc → Prop
  | some r => ntIn r ∧ l = txL r ∧ ∀ r', rcOk r' → l = rcL r' → r' = r
  | none => ∀ r', rcOk r' → l ≠ rcL r'

theorem ro_time (b : List UInt8) : RO kwTime b (some (.time (atoiV (word b).1))) := by
  refine ⟨trivial, rfl, fun r' ho h1 h2 => ?_⟩
  obtain ⟨v, rfl⟩ := kw_time h1
  rw [← show dl v = b from h2, word_all, atoiV_dl ho.1 ho.2]
theorem ro_next (b : List UInt8) : RO kwNext b (some (.next (atoiV (word b).1))) := by
  refine ⟨trivial, rfl, fun r' ho h1 h2 => ?_⟩
  obtain ⟨v, rfl⟩ := kw_next h1
  rw [← show dl v = b from h2, word_all, atoiV_dl ho.1 ho.2]
/-- the three numbers of a mark's text -/
def mkR (b : List UInt8) : Mk := ⟨atoiV (word b).1, atoiV (word (restK b 1)).1, atoiV (word (restK b 2)).1⟩
theorem mkR_of {m : Mk} {b : List UInt8} (h : okMk m = true) (e : m3M m = b) : m = mkR b := by
  obtain ⟨a1, a2, a3⟩ := okMk_parts h
  have w0 : word b = (dl m.f, dl m.n ++ 32 :: dl m.u) := by rw [← e]; exact word_dl m.f _
  have w1 : word (restK b 1) = (dl m.n, dl m.u) := by show word (word b).2 = _; rw [w0]; exact word_dl m.n _
  have w2 : word (restK b 2) = (dl m.u, []) := by show word (word (restK b 1)).2 = _; rw [w1]; exact word_all m.u
  unfold mkR
  rw [w0, w1, w2]
  simp only
  rw [atoiV_dl (by omega) (by omega), atoiV_dl (by omega) (by omega), atoiV_dl (by omega) (by omega)]
theorem ro_let (b : List UInt8) : RO kwLet b (some (.lets (mkR b))) := by
  refine ⟨trivial, rfl, fun r' ho h1 h2 => ?_⟩
  obtain ⟨m, rfl⟩ := kw_let h1
  rw [mkR_of ho h2]
theorem ro_eat (b : List UInt8) : RO kwEat b (some (.eat (mkR b))) := by
  refine ⟨trivial, rfl, fun r' ho h1 h2 => ?_⟩
  obtain ⟨m, rfl⟩ := kw_eat h1
  rw [mkR_of ho h2]
theorem ro_mark (b : List UInt8) : RO kwMark b (some (.mark (mkR b))) := by
  refine ⟨trivial, rfl, fun r' ho h1 h2 => ?_⟩
  obtain ⟨m, rfl⟩ := kw_mark h1
  rw [mkR_of ho h2]
section
variable {b : List UInt8} {y : Nt}
theorem ro_own (h : RD (str b) true y.f y.n y.t y.u y.s) : RO kwOwn b (some (.own y)) := by
  refine ⟨(rd_true h).1, rfl, fun r' ho h1 h2 => ?_⟩
  obtain ⟨m, rfl⟩ := kw_own h1
  rw [(rd_note h ho h2).2]
theorem ro_own_no (h : RD (str b) false y.f y.n y.t y.u y.s) : RO kwOwn b none := by
  intro r' ho h1 h2
  obtain ⟨m, rfl⟩ := kw_own h1
  cases (rd_note h ho h2).1
theorem ro_take (h : RD (str b) true y.f y.n y.t y.u y.s) : RO kwTake b (some (.take y)) := by
  refine ⟨(rd_true h).1, rfl, fun r' ho h1 h2 => ?_⟩
  obtain ⟨m, rfl⟩ := kw_take h1
  rw [(rd_note h ho h2).2]
theorem ro_take_no (h : RD (str b) false y.f y.n y.t y.u y.s) : RO kwTake b none := by
  intro r' ho h1 h2
  obtain ⟨m, rfl⟩ := kw_take h1
  cases (rd_note h ho h2).1
theorem ro_held (h : RD (str b) true y.f y.n y.t y.u y.s) : RO kwHeld b (some (.held y)) := by
  refine ⟨(rd_true h).1, rfl, fun r' ho h1 h2 => ?_⟩
  obtain ⟨m, rfl⟩ := kw_held h1
  rw [(rd_note h ho h2).2]
theorem ro_held_no (h : RD (str b) false y.f y.n y.t y.u y.s) : RO kwHeld b none := by
  intro r' ho h1 h2
  obtain ⟨m, rfl⟩ := kw_held h1
  cases (rd_note h ho h2).1
theorem ro_inbox (h : RD (str b) true y.f y.n y.t y.u y.s) : RO kwInbox b (some (.inbox y)) := by
  refine ⟨(rd_true h).1, rfl, fun r' ho h1 h2 => ?_⟩
  obtain ⟨m, rfl⟩ := kw_inbox h1
  rw [(rd_note h ho h2).2]
theorem ro_inbox_no (h : RD (str b) false y.f y.n y.t y.u y.s) : RO kwInbox b none := by
  intro r' ho h1 h2
  obtain ⟨m, rfl⟩ := kw_inbox h1
  cases (rd_note h ho h2).1
end
theorem ro_other {a b : List UInt8} (h : ∀ r, kw r ≠ a) : RO a b none := fun r' _ h1 _ => h r' h1
theorem kw_cases (r : Rc) : kw r = kwTime ∨ kw r = kwNext ∨ kw r = kwOwn ∨ kw r = kwTake ∨ kw r = kwHeld ∨ kw r = kwInbox ∨ kw r = kwLet ∨ kw r = kwEat ∨ kw r = kwMark := by
  cases r <;> simp [kw]

/-- the record is the text's own, or there is none -/
theorem rr_some {l : List UInt8} {r : Rc} (h : RO (word l).1 (word l).2 (some r)) (e : l = txL r) : RR l (some r) := by
  obtain ⟨h1, _, h3⟩ := h
  refine ⟨h1, e, fun r' ho e' => h3 r' ho ?_ ?_⟩
  · rw [e', word_rcL]
  · rw [e', word_rcL]
theorem rr_none {l : List UInt8} (h : RO (word l).1 (word l).2 none) : RR l none := by
  intro r' ho e'
  refine h r' ho ?_ ?_
  · rw [e', word_rcL]
  · rw [e', word_rcL]
theorem rr_other {l : List UInt8} {r : Rc} (h : RO (word l).1 (word l).2 (some r)) (e : l ≠ txL r) : RR l none := by
  obtain ⟨_, _, h3⟩ := h
  intro r' ho e'
  have : r' = r := h3 r' ho (by rw [e', word_rcL]) (by rw [e', word_rcL])
  subst this
  exact e (by rw [txL_ok ho]; exact e')

/-- a record that can be done, and what comes of it is in order: then so is the record -/
theorem rcOk_of {k k' : Kp} {r : Rc} (hk : okK k = true) (hn : ntIn r) (ha : applyS k r = some k') (hk' : okK k' = true) : rcOk r := by
  cases r with
  | time v =>
    rw [applyS] at ha
    split at ha
    · cases ha
      obtain ⟨_, h1, _⟩ := okK_parts hk
      obtain ⟨_, h2, _⟩ := okK_parts hk'
      have h1 := inB_iff.1 h1
      have h2 := inB_iff.1 h2
      have : (timeS k v).time = v := rfl
      exact ⟨by omega, by omega⟩
    · cases ha
  | next v =>
    rw [applyS] at ha
    split at ha
    · cases ha
      obtain ⟨_, _, h1, _⟩ := okK_parts hk
      obtain ⟨_, _, h2, _⟩ := okK_parts hk'
      have h1 := inB_iff.1 h1
      have h2 := inB_iff.1 h2
      simp only at h2
      exact ⟨by omega, by omega⟩
    · cases ha
  | own x => exact hn
  | take x => exact hn
  | held x => exact hn
  | inbox x => exact hn
  | lets m =>
    rw [applyS] at ha
    obtain ⟨_, _, _, h4, _⟩ := okK_parts hk
    cases hf : k.held.findIdx? (isM m) with
    | none => simp only [hf] at ha; cases ha
    | some i => exact (findM_ok h4 hf).1
  | eat m =>
    rw [applyS] at ha
    obtain ⟨_, _, _, _, _, h6, _⟩ := okK_parts hk
    cases hf : k.inbox.findIdx? (isM m) with
    | none => simp only [hf] at ha; cases ha
    | some i => exact (findM_ok h6 hf).1
  | mark m =>
    rw [applyS] at ha
    split at ha
    · cases ha
    · cases ha
      cases ho : okMk m with
      | true => exact ho
      | false => rw [mark_bad ho] at hk'; cases hk'

theorem does_none {k : Kp} {l : List UInt8} (h : RR l none) : Does k l k false := .inr ⟨rfl, rfl, fun r' _ ho e => absurd e (h r' ho)⟩
theorem does_not {k : Kp} {l : List UInt8} {r : Rc} (h : RR l (some r)) (ha : applyS k r = none) : Does k l k false := by
  refine .inr ⟨rfl, rfl, fun r' x ho e hx => ?_⟩
  obtain ⟨_, _, h3⟩ := h
  have := h3 r' ho e
  subst this
  rw [ha] at hx; cases hx
theorem does_bad {k k' : Kp} {l : List UInt8} {r : Rc} (h : RR l (some r)) (ha : applyS k r = some k') (hk' : okK k' = false) : Does k l k false := by
  refine .inr ⟨rfl, rfl, fun r' x ho e hx => ?_⟩
  obtain ⟨_, _, h3⟩ := h
  have := h3 r' ho e
  subst this
  rw [ha] at hx
  cases hx
  exact hk'
theorem does_yes {k k' : Kp} {l : List UInt8} {r : Rc} (hk : okK k = true) (h : RR l (some r)) (ha : applyS k r = some k') (hk' : okK k' = true) : Does k l k' true := by
  obtain ⟨h1, h2, _⟩ := h
  have ho := rcOk_of hk h1 ha hk'
  exact .inl ⟨rfl, r, ho, by rw [h2, txL_ok ho], ha, hk'⟩
end Go.Proofs.YtjmmojjjopjdpaaGreatDoor.kp

/-
  Contract of impl.readNumbers at numbers that lie side by side in one block.
-/
namespace Go.Proofs.YtjmmojjjopjdpaaGreatDoor.kp
open Go.ChangeShapes Go.WideShapes Go.ChangeAt Go.RowKit
open Go.Proofs.YtjmmojjjopjdpaaGreatDoor.nb Go.Proofs.YtjmmojjjopjdpaaGreatDoor.ok Go.Proofs.YtjmmojjjopjdpaaGreatDoor.wd Go.Proofs.YtjmmojjjopjdpaaGreatDoor.dc

/-- the number that is read at place i of a text -/
def rdV (l : List UInt8) (i : Nat) : Int := atoiV (word (restK l i)).1
/-- a block of c numbers of which the first k have been read -/
def cellsR (l : List UInt8) (c k : Nat) : Array Value := ((List.range c).map fun i => Value.int .i64 (if i < k then rdV l i else 0)).toArray
def ptrR (g c : Nat) : Array Value := ((List.range c).map fun i => Value.pointer (some ⟨g, i, none⟩)).toArray
theorem ptrR_at {c k : Nat} (h : k < c) (g : Nat) : (ptrR g c)[k]? = some (.pointer (some ⟨g, k, none⟩)) := by simp [ptrR, h]
theorem cellsR_get (l : List UInt8) {c i : Nat} (k : Nat) (h : i < c) : (cellsR l c k)[i]? = some (.int .i64 (if i < k then rdV l i else 0)) := by simp [cellsR, h]
theorem cellsR_size (l : List UInt8) (c k : Nat) : (cellsR l c k).size = c := by simp [cellsR]
theorem cellsR_put (l : List UInt8) {c k : Nat} (_h : k < c) : (cellsR l c k).setIfInBounds k (.int .i64 (rdV l k)) = cellsR l c (k + 1) := by
  apply Array.ext_getElem?
  intro i
  by_cases hi : i < c
  · rw [Array.getElem?_setIfInBounds, cellsR_size, cellsR_get l _ hi, cellsR_get l _ hi]
    by_cases e : k = i
    · subst e; simp [hi]
    · rw [if_neg e]
      by_cases h2 : i < k
      · rw [if_pos h2, if_pos (by omega)]
      · rw [if_neg h2, if_neg (by omega)]
  · rw [Array.getElem?_eq_none (by rw [Array.size_setIfInBounds, cellsR_size]; omega), Array.getElem?_eq_none (by rw [cellsR_size]; omega)]

def RnPost (w0 : World) (l : List UInt8) (g : Nat) (T : TypeId) (c : Nat) (e : Ending) (w' : World) : Prop :=
  e = .returned (.string (str (restK l c))) ∧ Blk w' g T (cellsR l c c) ∧ Below w0.heap.size w0 w'

set_option maxRecDepth 100000 in
set_option maxHeartbeats 2000000 in
theorem rnumsR (T : TypeId) (l : List UInt8) (hs : l.length ≤ 1048576) (w0 w : World) (g R c : Nat) (hN : Blk w g T (cellsR l c 0)) (hP : Blk w R 354 (ptrR g c)) (hRg : R ≠ g) (hg : w0.heap.size ≤ g) (hB : Below w0.heap.size w0 w) (hErr : Errs w0) (hc : c ≤ 3) :
    Calls Tryz.prog 278 #[.string (str l), .slice (some ⟨R, 0, none⟩) c c] w (RnPost w0 l g T c) := by
  have HN1 := Lib.hid hN
  have HP1 := Lib.hid hP
  have HB1 := Lib.hid hB
  have HRg := Lib.hid hRg
  have Hg := Lib.hid hg
  have HS := Lib.hid hs
  clear hN hP hB hRg hg hs
  go_enter Tryz.func278, Tryz.ntmps278
  go_wp2
  go_loopw [0, 12] (fun rv i wr => ∃ (k : Nat), k ≤ c ∧ i = .int .i64 k ∧ rv = .string (str (restK l k)) ∧ Hid (Blk wr g T (cellsR l c k)) ∧ Hid (Blk wr R 354 (ptrR g c)) ∧ Hid (Below w0.heap.size w0 wr)) (fun _ i _ => c - (intOf i).toNat)
  case atStart => exact ⟨0, by omega, rfl, rfl, HN1.out, HP1.out, HB1.out⟩
  case round =>
    obtain ⟨k, hk, rfl, rfl, HN, HP, HB⟩ := hrel
    clear HN1 HP1 HB1
    by_cases hkc : k < c
    · have hr := restK_len l k
      have hs := HS.out
      have hwl := word_len (restK l k)
      have HV := Lib.hid (show atoiV (word (restK l k)).1 = rdV l k from rfl)
      have HQ := Lib.hid (show (word (restK l k)).2 = restK l (k + 1) from rfl)
      have HW := Lib.hid (fun W => cut_any (str (restK l k)) (by rw [str_size]; omega) W)
      have HD := Lib.hid (fun W h => atoi_any (str (word (restK l k)).1) (by rw [str_size]; omega) W h)
      unfold CutPost at HW
      rw [data_str] at HW HD
      clear hwl hr hs
      generalize word (restK l k) = pq at HV HQ HW HD
      generalize str (restK l k) = sr at HW ⊢
      obtain ⟨p, q⟩ := pq
      simp only at HV HQ HW HD
      have ix := (HP.out.cell k).trans (ptrR_at hkc g)
      have hk1 : (k : Int) < (c : Int) := by omega
      go_wp2_with fail
      clear ix
      refine (HW.out _).mono ?_
      rintro e w2 ⟨fb, rfl, hB2⟩
      have HB2 := Lib.hid (HB.out.trans (hB2.mono HB.out.size))
      have HE := Lib.hid (hErr.later HB2.out)
      have HN2 := Lib.hid (HN.out.below hB2 HN.out.lt)
      have HP2 := Lib.hid (HP.out.below hB2 HP.out.lt)
      clear hB2 HB HN HP HW
      go_wp2_with fail
      refine (HD.out _ HE.out).mono ?_
      rintro e w3 ⟨er, rfl, hB3⟩
      have HB3 := Lib.hid ((HB2.out.trans (hB3.mono HB2.out.size)).setCell (p := ⟨g, k, none⟩) Hg.out (.int .i64 (atoiV p)))
      have HP3 := Lib.hid ((HP2.out.below hB3 HP2.out.lt).far (p := ⟨g, k, none⟩) HRg.out (.int .i64 (atoiV p)))
      have hN3 := HN2.out.below hB3 HN2.out.lt
      have ho := cellsR_get l k hkc
      have c1 := (hN3.cell k).trans ho
      have fz := hN3.frozen k
      have R3 := hN3.put k (.int .i64 (atoiV p))
      rw [show (cellsR l c k).setIfInBounds k (.int .i64 (atoiV p)) = cellsR l c (k + 1) by rw [HV.out]; exact cellsR_put l hkc] at R3
      have HN3 := Lib.hid R3
      clear hB3 HB2 HN2 HP2 HE hN3 R3 ho HD HV
      generalize atoiV p = y at HB3 HN3 HP3 ⊢
      go_wp2
      go_roundw
      case rel => exact ⟨k + 1, by omega, by go_num, by rw [HQ.out], HN3, HP3, HB3⟩
      case measure => simp [intOf]; omega
    · obtain rfl : k = c := by omega
      have hk1 : ¬ (k : Int) < (k : Int) := by omega
      go_wp2
      go_ret
      exact ⟨rfl, HN.out, HB.out⟩
end Go.Proofs.YtjmmojjjopjdpaaGreatDoor.kp

/-
  Contracts of impl.readNumber, impl.readMark, impl.readNote, impl.markText, and of the records' text methods.
-/
namespace Go.Proofs.YtjmmojjjopjdpaaGreatDoor.kp
open Go.ChangeShapes Go.WideShapes Go.ChangeAt Go.RowKit
open Go.Proofs.YtjmmojjjopjdpaaGreatDoor.nb Go.Proofs.YtjmmojjjopjdpaaGreatDoor.ok Go.Proofs.YtjmmojjjopjdpaaGreatDoor.wd Go.Proofs.YtjmmojjjopjdpaaGreatDoor.dc

theorem itoa_i64 (n : Int) (h0 : -9223372036854775808 ≤ n) (h1 : n ≤ 9223372036854775807) (w : World) (h : Tab w) :
    Calls Tryz.prog 286 #[.int .i64 n] w (StrPost w (str (Lib.itoa n))) := by
  refine (Tryz.strconv_Itoa n h0 h1 w h).mono ?_
  rintro e w' ⟨rfl, k, os, rfl⟩
  exact ⟨rfl, below_grow w k os⟩
def i64 (v : Int) : Prop := -9223372036854775808 ≤ v ∧ v ≤ 9223372036854775807
theorem itoa_len {v : Int} (h : i64 v) : (str (Lib.itoa v)).size ≤ 21 := by
  obtain ⟨h0, h1⟩ := h
  rw [str_size]
  unfold Lib.itoa
  split
  · rw [List.length_cons, Lib.decDigits_length]
    have := Lib.nDigits_le20 v.natAbs (by omega)
    omega
  · rw [Lib.decDigits_length]
    have := Lib.nDigits_le20 v.toNat (by omega)
    omega
theorem atoi_i64 (l : List UInt8) : i64 (atoiV l) := by
  unfold i64
  unfold atoiV
  cases h : Lib.atoiAll l with
  | ok v =>
    simp only
    unfold Lib.atoiAll at h
    cases l with
    | nil => cases h
    | cons c r =>
      simp only at h
      cases hp : Lib.parseMag (if c.toNat = 43 ∨ c.toNat = 45 then r else c :: r) with
      | ok u =>
        rw [hp] at h
        simp only at h
        split at h
        · cases h
        · split at h
          · cases h
          · injection h with h
            rw [← h]
            split <;> omega
      | _ => rw [hp] at h; cases h
  | range => simp only; unfold Lib.atoiSat; split <;> omega
  | _ => simp only; omega

theorem cells1 (l : List UInt8) : cellsR l 1 0 = #[.int .i64 0] := by simp [cellsR, List.range, List.range.loop]
theorem cells3 (l : List UInt8) : cellsR l 3 0 = #[.int .i64 0, .int .i64 0, .int .i64 0] := by simp [cellsR, List.range, List.range.loop]
theorem ptr1 (g : Nat) : ptrR g 1 = #[.pointer (some ⟨g, 0, none⟩)] := by simp [ptrR, List.range, List.range.loop]
theorem ptr3 (g : Nat) : ptrR g 3 = #[.pointer (some ⟨g, 0, none⟩), .pointer (some ⟨g, 1, none⟩), .pointer (some ⟨g, 2, none⟩)] := by simp [ptrR, List.range, List.range.loop]

set_option maxRecDepth 100000 in
theorem rnum_any (l : List UInt8) (hs : l.length ≤ 1048576) (w : World) (hErr : Errs w) :
    Calls Tryz.prog 245 #[.string (str l)] w fun e w' => e = .returned (.int .i64 (rdV l 0)) ∧ Below w.heap.size w w' := by
  have hN := (Blk.new w 3 #[.int .i64 0]).alloc (.cells (ptrR w.heap.size 1) 354)
  have hP := Blk.new (w.alloc (.cells #[.int .i64 0] 3)) 354 (ptrR w.heap.size 1)
  rw [World.size_alloc] at hP
  have hB : Below w.heap.size w ((w.alloc (.cells #[.int .i64 0] 3)).alloc (.cells (ptrR w.heap.size 1) 354)) := ((Below.refl _ _).alloc (Nat.le_refl _) _).alloc (by simp) _
  rw [← cells1 l] at hN
  have HR := Lib.hid (rnumsR 3 l hs w _ w.heap.size (w.heap.size + 1) 1 hN hP (by omega) (Nat.le_refl _) hB hErr (by omega))
  rw [ptr1] at HR
  clear hN hP hB
  unfold RnPost at HR
  generalize str l = s at HR ⊢
  go_enter Tryz.func245, Tryz.ntmps245
  go_wp2_with fail
  refine HR.out.mono ?_
  rintro e w2 ⟨rfl, hN2, hB2⟩
  have c0 := (hN2.cell 0).trans (cellsR_get l 1 (show 0 < 1 by omega))
  have HB2 := Lib.hid hB2
  clear hN2 hB2 HR
  rw [if_pos (by omega)] at c0
  go_wp2
  go_ret
  exact ⟨rfl, HB2.out⟩

set_option maxRecDepth 100000 in
set_option maxHeartbeats 800000 in
theorem rmark_any (l : List UInt8) (hs : l.length ≤ 1048576) (w : World) (hErr : Errs w) :
    Calls Tryz.prog 247 #[.string (str l)] w fun e w' => e = .returned (mkV (mkR l)) ∧ Below w.heap.size w w' := by
  have k0 := ((Blk.new w 164 #[.int .i64 0, .int .i64 0, .int .i64 0]).alloc (.cells #[.int .i64 0, .int .i64 0, .int .i64 0] 164)).alloc (.cells (ptrR (w.heap.size + 1) 3) 354)
  have hN := (Blk.new (w.alloc (.cells #[.int .i64 0, .int .i64 0, .int .i64 0] 164)) 164 #[.int .i64 0, .int .i64 0, .int .i64 0]).alloc (.cells (ptrR (w.heap.size + 1) 3) 354)
  have hP := Blk.new ((w.alloc (.cells #[.int .i64 0, .int .i64 0, .int .i64 0] 164)).alloc (.cells #[.int .i64 0, .int .i64 0, .int .i64 0] 164)) 354 (ptrR (w.heap.size + 1) 3)
  simp only [World.size_alloc] at hN hP
  have hB : Below (w.alloc (.cells #[.int .i64 0, .int .i64 0, .int .i64 0] 164)).heap.size (w.alloc (.cells #[.int .i64 0, .int .i64 0, .int .i64 0] 164)) (((w.alloc (.cells #[.int .i64 0, .int .i64 0, .int .i64 0] 164)).alloc (.cells #[.int .i64 0, .int .i64 0, .int .i64 0] 164)).alloc (.cells (ptrR (w.heap.size + 1) 3) 354)) := ((Below.refl _ _).alloc (Nat.le_refl _) _).alloc (by simp) _
  have hB1 : Below w.heap.size w (w.alloc (.cells #[.int .i64 0, .int .i64 0, .int .i64 0] 164)) := (Below.refl _ _).alloc (Nat.le_refl _) _
  have k1 : Blk (w.alloc (.cells #[.int .i64 0, .int .i64 0, .int .i64 0] 164)) w.heap.size 164 #[.int .i64 0, .int .i64 0, .int .i64 0] := Blk.new w _ _
  rw [← cells3 l] at hN
  have HR := Lib.hid (rnumsR 164 l hs (w.alloc (.cells #[.int .i64 0, .int .i64 0, .int .i64 0] 164)) _ (w.heap.size + 1) (w.heap.size + 1 + 1) 3 hN hP (by omega) (by simp) hB (hErr.later hB1) (by omega))
  rw [ptr3] at HR
  have HB1 := Lib.hid hB1
  have HK1 := Lib.hid k1
  clear hN hP hB k0 hB1 k1
  unfold RnPost at HR
  generalize str l = s at HR ⊢
  go_enter Tryz.func247, Tryz.ntmps247
  go_wp2_with fail
  refine HR.out.mono ?_
  rintro e w2 ⟨rfl, hN2, hB2⟩
  have c0 := (hN2.cell 0).trans (cellsR_get l 3 (show 0 < 3 by omega))
  have c1 := (hN2.cell 1).trans (cellsR_get l 3 (show 1 < 3 by omega))
  have c2 := (hN2.cell 2).trans (cellsR_get l 3 (show 2 < 3 by omega))
  rw [if_pos (by omega)] at c0 c1 c2
  have z := HK1.out.below hB2 HK1.out.lt
  have z0 := z.cell 0
  have z1 := z.cell 1
  have z2 := z.cell 2
  have y0 := z.frozen 0
  have y1 := z.frozen 1
  have y2 := z.frozen 2
  simp only [List.getElem?_toArray, List.getElem?_cons_zero, List.getElem?_cons_succ] at z0 z1 z2
  have HB2 := Lib.hid (HB1.out.trans (hB2.mono HB1.out.size))
  have HM := Lib.hid (show mkV (mkR l) = mark (rdV l 0) (rdV l 1) (rdV l 2) from rfl)
  clear hN2 hB2 HR z
  generalize rdV l 0 = v0 at c0 HM
  generalize rdV l 1 = v1 at c1 HM
  generalize rdV l 2 = v2 at c2 HM
  go_wp2
  refine bodyPost_ret (v := mark v0 v1 v2) (by simp [results, Tryz.results247, go_sem, mark, *]) rfl ⟨by rw [HM.out], ?_⟩
  exact ((HB2.out.setCell (p := ⟨w.heap.size, 0, none⟩) (Nat.le_refl _) _).setCell (p := ⟨w.heap.size, 1, none⟩) (Nat.le_refl _) _).setCell (p := ⟨w.heap.size, 2, none⟩) (Nat.le_refl _) _

/-- what readNote gives back: a message, or it panics -/
def RNote (w : World) (l : List UInt8) (e : Ending) (w' : World) : Prop :=
  (∃ y : Nt, e = .returned (ntV y) ∧ RD (str l) true y.f y.n y.t y.u y.s ∧ Below w.heap.size w w') ∨ (e = Imp ∧ (∃ y : Nt, RD (str l) false y.f y.n y.t y.u y.s) ∧ Below w.heap.size w w')

set_option maxRecDepth 100000 in
set_option maxHeartbeats 800000 in
theorem rnote_any (l : List UInt8) (hs : l.length ≤ 1048576) (w : World) (hTab : Tab w) (hErr : Errs w) :
    Calls Tryz.prog 246 #[.string (str l)] w (RNote w l) := by
  have k1 := Blk.new w 131 #[.int .i64 0, .int .i64 0, .int .i64 0, .int .i64 0, .string ⟨#[]⟩]
  have hB0 := (Below.refl w.heap.size w).alloc (Nat.le_refl _) (.cells #[.int .i64 0, .int .i64 0, .int .i64 0, .int .i64 0, .string ⟨#[]⟩] 131)
  have HR := Lib.hid (fun V h1 h2 => iread_any (str l) (by rw [str_size]; omega) V h1 h2)
  unfold ReadPost at HR
  go_enter Tryz.func246, Tryz.ntmps246
  go_wp2_with fail
  generalize w.alloc (.cells #[.int .i64 0, .int .i64 0, .int .i64 0, .int .i64 0, .string ⟨#[]⟩] 131) = V at k1 hB0 ⊢
  refine (HR.out V (hTab.later hB0) (hErr.later hB0)).mono ?_
  rintro e w2 ⟨b, f, n, t, u, s, rfl, hrd, hB2⟩
  have HRD := Lib.hid hrd
  have HB2 := hB0.trans (hB2.mono hB0.size)
  have z2 := (k1.below hB2 k1.lt).alloc (.cells #[.int .i64 f, .int .i64 n, .int .i64 t, .int .i64 u, .string s] 131)
  have x2 := Blk.new w2 131 #[.int .i64 f, .int .i64 n, .int .i64 t, .int .i64 u, .string s]
  have HB3 := Lib.hid (HB2.alloc HB2.size (.cells #[.int .i64 f, .int .i64 n, .int .i64 t, .int .i64 u, .string s] 131))
  clear k1 hB0 HR hrd hB2 HB2
  unfold note
  go_upto_region 2 with (fail)
  generalize w2.alloc (.cells #[.int .i64 f, .int .i64 n, .int .i64 t, .int .i64 u, .string s] 131) = U at z2 x2 HB3 ⊢
  generalize w2.heap.size = xb at x2 ⊢
  cases b with
  | false =>
    go_wp2_with fail
    refine (require_f _).mono ?_
    rintro e w3 ⟨rfl, rfl⟩
    go_wp2
    exact ⟨rfl, .inr ⟨rfl, ⟨⟨f, n, t, u, s⟩, HRD.out⟩, HB3.out⟩⟩
  | true =>
    go_wp2_with fail
    refine (require_t _).mono ?_
    rintro e w3 ⟨rfl, rfl⟩
    have z0 := z2.cell 0
    have z1 := z2.cell 1
    have zz2 := z2.cell 2
    have z3 := z2.cell 3
    have z4 := z2.cell 4
    have y0 := z2.frozen 0
    have y1 := z2.frozen 1
    have y2 := z2.frozen 2
    have y3 := z2.frozen 3
    have y4 := z2.frozen 4
    have c0 := x2.cell 0
    have c1 := x2.cell 1
    have c2 := x2.cell 2
    have c3 := x2.cell 3
    have c4 := x2.cell 4
    simp only [List.getElem?_toArray, List.getElem?_cons_zero, List.getElem?_cons_succ] at z0 z1 zz2 z3 z4 c0 c1 c2 c3 c4
    clear z2 x2
    go_wp2
    refine bodyPost_ret (v := note f n t u s) (by simp [results, Tryz.results246, go_sem, note, *]) rfl (.inl ⟨⟨f, n, t, u, s⟩, rfl, HRD.out, ?_⟩)
    exact put5 HB3.out
end Go.Proofs.YtjmmojjjopjdpaaGreatDoor.kp

