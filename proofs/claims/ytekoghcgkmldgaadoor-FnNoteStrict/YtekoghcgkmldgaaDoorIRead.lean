/-
  Contracts of impl.readNumbers and of impl.NoteRead.
-/
import Derived.Test.YtekoghcgkmldgaaDoorSRead
import Derived.Test.YtekoghcgkmldgaaDoorIWrite
namespace Go.Proofs.YtekoghcgkmldgaaDoor.dc
open Go.ChangeShapes Go.WideShapes Go.ChangeAt Go.RowKit
open Go.Proofs.YtekoghcgkmldgaaDoor.nb Go.Proofs.YtekoghcgkmldgaaDoor.ok Go.Proofs.YtekoghcgkmldgaaDoor.wd

/-- a message under way: its first numbers -/
def cellsN (vs : List Int) : Array Value := #[.int .i64 (vs.getD 0 0), .int .i64 (vs.getD 1 0), .int .i64 (vs.getD 2 0), .int .i64 (vs.getD 3 0), .string ⟨#[]⟩]
theorem cellsN_put {vs : List Int} {k : Nat} (h : vs.length = k) (hk : k < 4) (x : Int) : (cellsN vs).setIfInBounds k (.int .i64 x) = cellsN (vs ++ [x]) := by
  subst h
  match vs, hk with
  | [], _ => rfl
  | [a], _ => rfl
  | [a, b], _ => rfl
  | [a, b, c], _ => rfl
theorem cellsN_at {k : Nat} (vs : List Int) (hk : k < 4) : ∃ y : Int, (cellsN vs)[k]? = some (.int .i64 y) := by
  match k, hk with
  | 0, _ => exact ⟨_, rfl⟩
  | 1, _ => exact ⟨_, rfl⟩
  | 2, _ => exact ⟨_, rfl⟩
  | 3, _ => exact ⟨_, rfl⟩
theorem atoi_spells (l : List UInt8) : Spells l (atoiV l) := fun m h0 h1 e => by rw [e]; exact atoiV_dl h0 h1

def zN : Array Value := #[.int .i64 0, .int .i64 0, .int .i64 0, .int .i64 0, .string ⟨#[]⟩]

/-- what readNumbers leaves: four numbers in the message's box, and the rest of the text -/
def RNPost (w0 : World) (x : ByteArray) (z g : Nat) (e : Ending) (w' : World) : Prop :=
  ∃ (vs : List Int) (r : List UInt8), e = .returned (.string (str r)) ∧ vs.length = 4 ∧ Blk w' z 24 zN ∧ Blk w' g 24 (cellsN vs) ∧ Inv x.data.toList 4 vs r ∧ r.length ≤ x.size ∧ Below w0.heap.size w0 w'

set_option maxRecDepth 100000 in
set_option maxHeartbeats 2000000 in
theorem rnums_any (x : ByteArray) (hs : x.size ≤ 1048576) (w0 w : World) (z g R : Nat) (hZ : Blk w z 24 zN) (hN : Blk w g 24 (cellsN [])) (hP : Blk w R 46 (ptrA g)) (hzg : z ≠ g) (hRg : R ≠ g) (hg : w0.heap.size ≤ g) (hB : Below w0.heap.size w0 w) (hErr : Errs w0) :
    Calls Tryd.prog 32 #[.string x, .slice (some ⟨R, 0, none⟩) 4 4] w (RNPost w0 x z g) := by
  have hsz := Lib.hid (Lib.size_eq x)
  have HZ1 := Lib.hid hZ
  have HN1 := Lib.hid hN
  have HP1 := Lib.hid hP
  have HB1 := Lib.hid hB
  have Hzg := Lib.hid hzg
  have HRg := Lib.hid hRg
  have Hg := Lib.hid hg
  clear hZ hN hP hB hzg hRg hg
  go_enter Tryd.func32, Tryd.ntmps32
  go_wp2
  go_loopw [0, 12] (fun rv i wr => ∃ (k : Nat) (vs : List Int) (r : List UInt8), k ≤ 4 ∧ Hid (vs.length = k) ∧ i = .int .i64 k ∧ rv = .string (str r) ∧ Hid (Blk wr z 24 zN) ∧ Hid (Blk wr g 24 (cellsN vs)) ∧ Hid (Blk wr R 46 (ptrA g)) ∧ Hid (Inv x.data.toList k vs r) ∧ r.length ≤ x.size ∧ Hid (Below w0.heap.size w0 wr)) (fun _ i _ => 4 - (intOf i).toNat)
  case atStart => exact ⟨0, [], x.data.toList, by omega, rfl, rfl, by rw [str_data], HZ1.out, HN1.out, HP1.out, inv_start _, by rw [hsz.out]; exact Nat.le_refl _, HB1.out⟩
  case round =>
    obtain ⟨k, vs, r, hk, HL, rfl, rfl, HZ, HN, HP, HI, hr, HB⟩ := hrel
    clear HZ1 HN1 HP1 HB1
    by_cases hk4 : k < 4
    · have hwl := word_len r
      have HSt := Lib.hid (inv_step (v := atoiV (word r).1) hk4 HI.out (atoi_spells _))
      have HW := Lib.hid (fun W => cut_any (str r) (by rw [str_size]; omega) W)
      have HD := Lib.hid (fun W h => atoi_any (str (word r).1) (by rw [str_size]; omega) W h)
      unfold CutPost at HW
      rw [data_str] at HW HD
      generalize word r = pq at HSt HW HD hwl
      obtain ⟨p, q⟩ := pq
      simp only at HSt HW HD hwl
      have hq : q.length ≤ x.size := by omega
      have ix := (HP.out.cell k).trans (ptrA_at hk4 g)
      clear hwl HI
      go_wp2_with fail
      clear ix
      refine (HW.out _).mono ?_
      rintro e w2 ⟨fb, rfl, hB2⟩
      have HB2 := Lib.hid (HB.out.trans (hB2.mono HB.out.size))
      have HE := Lib.hid (hErr.later HB2.out)
      have HZ2 := Lib.hid (HZ.out.below hB2 HZ.out.lt)
      have HN2 := Lib.hid (HN.out.below hB2 HN.out.lt)
      have HP2 := Lib.hid (HP.out.below hB2 HP.out.lt)
      clear hB2 HB HZ HN HP HW
      go_wp2_with fail
      refine (HD.out _ HE.out).mono ?_
      rintro e w3 ⟨er, rfl, hB3⟩
      have HB3 := Lib.hid ((HB2.out.trans (hB3.mono HB2.out.size)).setCell (p := ⟨g, k, none⟩) Hg.out (.int .i64 (atoiV p)))
      have HZ3 := Lib.hid ((HZ2.out.below hB3 HZ2.out.lt).far (p := ⟨g, k, none⟩) Hzg.out (.int .i64 (atoiV p)))
      have HP3 := Lib.hid ((HP2.out.below hB3 HP2.out.lt).far (p := ⟨g, k, none⟩) HRg.out (.int .i64 (atoiV p)))
      have hN3 := HN2.out.below hB3 HN2.out.lt
      obtain ⟨o, ho⟩ := cellsN_at vs hk4
      have c := (hN3.cell k).trans ho
      have fz := hN3.frozen k
      have R3 := hN3.put k (.int .i64 (atoiV p))
      rw [cellsN_put HL.out hk4] at R3
      have HN3 := Lib.hid R3
      have HL3 : Hid ((vs ++ [atoiV p]).length = k + 1) := by show _ = _; rw [List.length_append, HL.out]; rfl
      clear hB3 HB2 HZ2 HN2 HP2 HE hN3 R3 ho HD HL
      generalize atoiV p = y at HSt HB3 HZ3 HN3 HP3 HL3 ⊢
      go_wp2
      go_roundw
      case rel => exact ⟨k + 1, vs ++ [y], q, by omega, HL3, by go_num, rfl, HZ3, HN3, HP3, HSt, hq, HB3⟩
      case measure => simp [intOf]; omega
    · obtain rfl : k = 4 := by omega
      go_wp2
      go_ret
      exact ⟨vs, r, rfl, HL.out, HZ.out, HN.out, HI.out, hr, HB.out⟩

set_option maxRecDepth 100000 in
set_option maxHeartbeats 2000000 in
theorem iread_any (x : ByteArray) (hs : x.size ≤ 1048576) (w : World) (hTab : Tab w) (hErr : Errs w) :
    Calls Tryd.prog 12 #[.string x] w (ReadPost w x) := by
  have hsz := Lib.hid (Lib.size_eq x)
  have hZ0 := (Blk.new w 24 zN).alloc (.cells zN 24)
  have hN0 := Blk.new (w.alloc (.cells zN 24)) 24 zN
  have e1 : (w.alloc (.cells zN 24)).heap.size = w.heap.size + 1 := by simp
  rw [e1] at hN0
  have hB0 : Below w.heap.size w ((w.alloc (.cells zN 24)).alloc (.cells zN 24)) := ((Below.refl _ _).alloc (Nat.le_refl _) _).alloc (by simp) _
  clear e1
  have HZ0 := Lib.hid hZ0
  have HN0 := Lib.hid hN0
  have HB0 := Lib.hid hB0
  clear hZ0 hN0 hB0
  unfold zN at HZ0 HN0 HB0
  go_enter Tryd.func12, Tryd.ntmps12
  go_wp2_with fail
  refine (numbers_any _ _).mono ?_
  rintro e W1 ⟨R1, rfl, hR1, hP1, hB1⟩
  have HZ1 := Lib.hid (HZ0.out.below hB1 HZ0.out.lt)
  have HN1 := Lib.hid (HN0.out.below hB1 HN0.out.lt)
  have HB1 := Lib.hid (HB0.out.trans (hB1.mono HB0.out.size))
  have HP1 := Lib.hid hP1
  have hR1' : R1 ≠ w.heap.size + 1 := by
    have := HN0.out.lt
    omega
  clear HZ0 HN0 HB0 hB1 hP1 hR1
  have hRN := rnums_any x hs w W1 w.heap.size (w.heap.size + 1) R1 HZ1.out HN1.out HP1.out (by omega) hR1' (by omega) HB1.out hErr
  have HRN := Lib.hid hRN
  clear hRN hR1' HZ1 HN1 HB1 HP1
  go_wp2_with fail
  refine HRN.out.mono ?_
  rintro e wr ⟨vs, r, rfl, hL, hZ, hN, hI, hr, hB⟩
  have HL := Lib.hid hL
  have HZ := Lib.hid hZ
  have HN := Lib.hid hN
  have HI := Lib.hid hI
  have HB := Lib.hid hB
  clear hL hZ hN hI hB HRN
  obtain ⟨a, b, c, d, rfl⟩ := four HL.out
  have hrz : (str r).size ≤ maxLen := by rw [str_size]; unfold maxLen; omega
  have HOk1 := Lib.hid (fun V => iok_any a b c d (str r) V hrz)
  have HW := Lib.hid (fun V h => iwrite_any a b c d (str r) V hrz h)
  have HQ := Lib.hid (⟨fun h => fin_bad HI.out h, fun h => fin_other HI.out h⟩ : (okN a b c d (str r) = false → NoNote x) ∧ (dc.wr a b c d (str r) ≠ x → NoNote x))
  generalize str r = rs at HOk1 HW HQ hrz ⊢
  obtain ⟨n0, n1, n2, n3, n4, _⟩ := five (show Blk wr (w.heap.size + 1) 24 #[.int .i64 a, .int .i64 b, .int .i64 c, .int .i64 d, .string ⟨#[]⟩] from HN.out)
  have f4 := HN.out.frozen 4
  have hN1 : Blk (wr.setCell ⟨w.heap.size + 1, 4, none⟩ (.string rs)) (w.heap.size + 1) 24 #[.int .i64 a, .int .i64 b, .int .i64 c, .int .i64 d, .string rs] := HN.out.put 4 (.string rs)
  have hZ1 := HZ.out.far (p := ⟨w.heap.size + 1, 4, none⟩) (by simp) (.string rs)
  have hB1 := HB.out.setCell (p := ⟨w.heap.size + 1, 4, none⟩) (by simp) (.string rs)
  clear HI hr HL HB HN HZ
  go_wp2_with fail
  clear n0 n1 n2 n3 n4 f4
  generalize wr.setCell ⟨w.heap.size + 1, 4, none⟩ (.string rs) = V0 at hN1 hZ1 hB1 ⊢
  refine (HOk1.out _).mono ?_
  rintro e V1 ⟨rfl, hB2⟩
  have hN2 := hN1.below hB2 hN1.lt
  have hZ2 := hZ1.below hB2 hZ1.lt
  have hB3 := hB1.trans (hB2.mono hB1.size)
  have HB3 := Lib.hid hB3
  have HT := Lib.hid (hTab.later hB3)
  clear hN1 hZ1 hB1 hB2 hB3 HOk1
  unfold zN at hZ2
  obtain ⟨z0, z1, z2, z3, z4, _⟩ := five hZ2
  obtain ⟨n0, n1, n2, n3, n4, _⟩ := five hN2
  have y0 := hZ2.frozen 0
  have y1 := hZ2.frozen 1
  have y2 := hZ2.frozen 2
  have y3 := hZ2.frozen 3
  have y4 := hZ2.frozen 4
  cases hok : okN a b c d rs with
  | false =>
    have HNo := Lib.hid (HQ.out.1 hok)
    clear hN2 hZ2 HW hok HQ
    go_wp2
    refine bodyPost_ret (v := .tuple #[note 0 0 0 0 ⟨#[]⟩, .bool false]) (by simp [results, Tryd.results12, go_sem, note, *]) rfl ⟨false, 0, 0, 0, 0, ⟨#[]⟩, rfl, .inr ⟨rfl, rfl, rfl, rfl, rfl, rfl, HNo.out⟩, ?_⟩
    exact put5 HB3.out
  | true =>
    have HOk := Lib.hid hok
    have HW' := Lib.hid (fun V h => (show Calls Tryd.prog 10 #[note a b c d rs] V (StrPost V (dc.wr a b c d rs)) by have := HW.out V h; rwa [nw_t hok] at this))
    clear hok HW
    by_cases hq : dc.wr a b c d rs = x
    · have HEq : Hid (x = dc.wr a b c d rs) := hq.symm
      rw [hq] at HW'
      clear hq HQ
      go_wp2_with fail
      refine (HW'.out _ HT.out).mono ?_
      rintro e V2 ⟨rfl, hB4⟩
      clear z0 z1 z2 z3 z4 y0 y1 y2 y3 y4 n0 n1 n2 n3 n4
      have hN3 := hN2.below hB4 hN2.lt
      have hZ3 := hZ2.below hB4 hZ2.lt
      have HB4 := Lib.hid (HB3.out.trans (hB4.mono HB3.out.size))
      obtain ⟨z0, z1, z2, z3, z4, _⟩ := five hZ3
      obtain ⟨n0, n1, n2, n3, n4, _⟩ := five hN3
      have y0 := hZ3.frozen 0
      have y1 := hZ3.frozen 1
      have y2 := hZ3.frozen 2
      have y3 := hZ3.frozen 3
      have y4 := hZ3.frozen 4
      clear hN2 hZ2 hN3 hZ3 hB4 HB3 HT HW'
      go_wp2
      refine bodyPost_ret (v := .tuple #[note a b c d rs, .bool true]) (by simp [results, Tryd.results12, go_sem, note, *]) rfl ⟨true, a, b, c, d, rs, rfl, .inl ⟨rfl, HOk.out, HEq.out⟩, ?_⟩
      exact put5 HB4.out
    · have HNo := Lib.hid (HQ.out.2 hq)
      have hx2 := toList_ne hq
      generalize dc.wr a b c d rs = es at HW' hx2
      clear hq HQ
      go_wp2_with fail
      refine (HW'.out _ HT.out).mono ?_
      rintro e V2 ⟨rfl, hB4⟩
      clear z0 z1 z2 z3 z4 y0 y1 y2 y3 y4 n0 n1 n2 n3 n4
      have hN3 := hN2.below hB4 hN2.lt
      have hZ3 := hZ2.below hB4 hZ2.lt
      have HB4 := Lib.hid (HB3.out.trans (hB4.mono HB3.out.size))
      obtain ⟨z0, z1, z2, z3, z4, _⟩ := five hZ3
      obtain ⟨n0, n1, n2, n3, n4, _⟩ := five hN3
      have y0 := hZ3.frozen 0
      have y1 := hZ3.frozen 1
      have y2 := hZ3.frozen 2
      have y3 := hZ3.frozen 3
      have y4 := hZ3.frozen 4
      clear hN2 hZ2 hN3 hZ3 hB4 HB3 HT HW'
      go_wp2
      refine bodyPost_ret (v := .tuple #[note 0 0 0 0 ⟨#[]⟩, .bool false]) (by simp [results, Tryd.results12, go_sem, note, *]) rfl ⟨false, 0, 0, 0, 0, ⟨#[]⟩, rfl, .inr ⟨rfl, rfl, rfl, rfl, rfl, rfl, HNo.out⟩, ?_⟩
      exact put5 HB4.out
end Go.Proofs.YtekoghcgkmldgaaDoor.dc
