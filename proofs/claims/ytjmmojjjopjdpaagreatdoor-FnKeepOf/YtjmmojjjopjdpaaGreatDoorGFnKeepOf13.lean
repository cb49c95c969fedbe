/-
  Merged texts: SRead, SRec1, SRec2.
-/
import Derived.Test.YtjmmojjjopjdpaaGreatDoorGFnKeepOf11
import Derived.Test.YtjmmojjjopjdpaaGreatDoorGFnKeepOf4
import Derived.Test.YtjmmojjjopjdpaaGreatDoorGFnKeepOf5
import Derived.Test.YtjmmojjjopjdpaaGreatDoorGFnKeepOf12
import Derived.Deep.RegionHeld3
/-
  Contract of spec.NoteRead.
-/
namespace Go.Proofs.YtjmmojjjopjdpaaGreatDoor.dc
open Go.ChangeShapes Go.WideShapes Go.ChangeAt Go.RowKit
open Go.Proofs.YtjmmojjjopjdpaaGreatDoor.nb Go.Proofs.YtjmmojjjopjdpaaGreatDoor.ok Go.Proofs.YtjmmojjjopjdpaaGreatDoor.wd

def ReadPost (w : World) (x : ByteArray) (e : Ending) (w' : World) : Prop :=
  ∃ (b : Bool) (f n t u : Int) (s : ByteArray), e = .returned (.tuple #[note f n t u s, .bool b]) ∧ RD x b f n t u s ∧ Below w.heap.size w w'

theorem four {vs : List Int} (h : vs.length = 4) : ∃ a b c d, vs = [a, b, c, d] := by
  match vs, h with
  | [a, b, c, d], _ => exact ⟨a, b, c, d, rfl⟩

theorem own_four {w0 w : World} {v : Value} {a b c d : Int} (h : ow.Own 3 w0 w v (iv [a, b, c, d])) :
    ∃ g cap, v = .slice (some ⟨g, 0, none⟩) 4 cap ∧ w0.heap.size ≤ g ∧ g < w.heap.size ∧ w.cell? ⟨g, 0, none⟩ = some (.int .i64 a) ∧ w.cell? ⟨g, 1, none⟩ = some (.int .i64 b) ∧ w.cell? ⟨g, 2, none⟩ = some (.int .i64 c) ∧ w.cell? ⟨g, 3, none⟩ = some (.int .i64 d) := by
  obtain ⟨A, cap, rfl, hc⟩ := h.form
  obtain ⟨g, rfl, h1, h2, h3⟩ := hc (by simp [iv])
  exact ⟨g, cap, rfl, h1, h2, h3 0 _ rfl, h3 1 _ rfl, h3 2 _ rfl, h3 3 _ rfl⟩

theorem put5 {B : Nat} {w W : World} {v0 v1 v2 v3 v4 : Value} {g : Nat} (h : Below B w W) (hg : B ≤ g := by omega) :
    Below B w (((((W.setCell ⟨g, 0, none⟩ v0).setCell ⟨g, 1, none⟩ v1).setCell ⟨g, 2, none⟩ v2).setCell ⟨g, 3, none⟩ v3).setCell ⟨g, 4, none⟩ v4) :=
  ((((h.setCell hg _).setCell hg _).setCell hg _).setCell hg _).setCell hg _
theorem not_blank {x : ByteArray} (h : x ≠ ⟨#[]⟩) : (x.toList == []) = false ∧ x.toList.isEmpty = false := by
  have e : x.toList ≠ [] := fun e => by
    apply h
    rw [ByteArray.toList_eq] at e
    cases x
    simp at e
    rw [e]
  exact ⟨by simpa using e, by simpa using e⟩
theorem behind {w W V : World} {T : TypeId} {cs ds : Array Value} (hZ : Blk W w.heap.size T cs) (hBW : Below w.heap.size w W) (hB : Below (W.alloc (.cells ds T)).drew.heap.size (W.alloc (.cells ds T)).drew V) :
    Blk V w.heap.size T cs ∧ Blk V W.heap.size T ds ∧ Below w.heap.size w V := by
  have hB' : Below (W.alloc (.cells ds T)).heap.size (W.alloc (.cells ds T)) V := ⟨hB.os, hB.tape, hB.output, hB.size, hB.block⟩
  have h1 := hBW.alloc hBW.size (.cells ds T)
  exact ⟨(hZ.alloc _).below hB' (hZ.alloc (.cells ds T)).lt, (Blk.new W T ds).below hB' (Blk.new W T ds).lt, h1.trans (hB'.mono h1.size)⟩
theorem no_blank : (⟨#[]⟩ : ByteArray) = str [] := rfl

set_option maxRecDepth 100000 in
set_option maxHeartbeats 1600000 in
theorem sread_any (x : ByteArray) (hs : x.size ≤ 1048576) (w : World) :
    Calls Tryz.prog 171 #[.string x] w (ReadPost w x) := by
  have hZ := Blk.new w 131 #[.int .i64 0, .int .i64 0, .int .i64 0, .int .i64 0, .string ⟨#[]⟩]
  have hB0 : Below w.heap.size w (w.alloc (.cells #[.int .i64 0, .int .i64 0, .int .i64 0, .int .i64 0, .string ⟨#[]⟩] 131)) := (Below.refl _ _).alloc (Nat.le_refl _) _
  have HN := Lib.hid (fun W => nums_any x hs W)
  go_enter Tryz.func171, Tryz.ntmps171
  go_wp2_with fail
  generalize w.alloc (.cells #[.int .i64 0, .int .i64 0, .int .i64 0, .int .i64 0, .string ⟨#[]⟩] 131) = W0 at hZ hB0 ⊢
  refine (HN.out _).mono ?_
  rintro e W ⟨v, vs, r, rfl, hl4, hO, HI, hr⟩
  obtain ⟨a, b, c, d, rfl⟩ := four hl4
  obtain ⟨g, cap, rfl, hg0, hg1, c0, c1, c2, c3⟩ := own_four hO
  have hZ1 := hZ.below hO.2 hZ.lt
  have hBW := hB0.trans (hO.2.mono hB0.size)
  have HI := Lib.hid HI
  have hrz : (str r).size ≤ maxLen := by rw [str_size]; rw [Lib.size_eq] at hs; unfold maxLen; omega
  have HW := Lib.hid (fun V => swrite_any a b c d (str r) V hrz)
  have HQ := Lib.hid (⟨fun h => fin_bad HI.out h, fun h => fin_other HI.out h⟩ : (okN a b c d (str r) = false → NoNote x) ∧ (wr a b c d (str r) ≠ x → NoNote x))
  generalize str r = rs at HW HQ hrz ⊢
  have hZl := hZ1.lt
  clear hO HN hZ hB0 hl4 HI hr hrz
  go_wp2_with fail
  go_region_held3 (fun w' => w'.cell? ⟨g, 0, none⟩ = some (.int .i64 a) ∧ w'.cell? ⟨g, 1, none⟩ = some (.int .i64 b) ∧ w'.cell? ⟨g, 2, none⟩ = some (.int .i64 c) ∧ w'.cell? ⟨g, 3, none⟩ = some (.int .i64 d)) (first | exact ⟨c0, c1, c2, c3⟩ | go_keep) (fail)
  clear c0 c1 c2 c3
  have HZ := Lib.hid hZ1
  obtain ⟨z0, z1, z2, z3, z4, _⟩ := five hZ1
  have y0 := hZ1.frozen 0
  have y1 := hZ1.frozen 1
  have y2 := hZ1.frozen 2
  have y3 := hZ1.frozen 3
  have y4 := hZ1.frozen 4
  clear hZ1
  have hBW' := hBW.size
  by_cases hx : x = ⟨#[]⟩
  · subst hx
    go_wp2
    refine bodyPost_ret (v := .tuple #[note 0 0 0 0 ⟨#[]⟩, .bool false]) (by simp [results, Tryz.results171, go_sem, note, *]) rfl ⟨false, 0, 0, 0, 0, ⟨#[]⟩, rfl, .inr ⟨rfl, rfl, rfl, rfl, rfl, rfl, no_empty⟩, ?_⟩
    exact ((put5 hBW).alloc (by simp; omega) _).drew
  obtain ⟨hx0, hx1⟩ := not_blank hx
  cases hok : okN a b c d rs with
  | false =>
    rw [nw_f hok] at HW
    have HNo := Lib.hid (HQ.out.1 hok)
    have hx2 : ((str []).toList == x.toList) = false := toList_ne (fun e => hx e.symm)
    generalize str [] = es at HW hx2
    clear hok HQ hx
    go_wp2_with fail
    refine (HW.out _).mono ?_
    rintro e V ⟨rfl, hB2⟩
    clear z0 z1 z2 z3 z4 y0 y1 y2 y3 y4
    obtain ⟨hZV, hNV, hBV⟩ := behind HZ.out hBW hB2
    obtain ⟨z0, z1, z2, z3, z4, _⟩ := five hZV
    obtain ⟨n0, n1, n2, n3, n4, hNl⟩ := five hNV
    have y0 := hZV.frozen 0
    have y1 := hZV.frozen 1
    have y2 := hZV.frozen 2
    have y3 := hZV.frozen 3
    have y4 := hZV.frozen 4
    clear hZV hNV hB2 hBW HZ
    go_wp2
    refine bodyPost_ret (v := .tuple #[note 0 0 0 0 ⟨#[]⟩, .bool false]) (by simp [results, Tryz.results171, go_sem, note, *]) rfl ⟨false, 0, 0, 0, 0, ⟨#[]⟩, rfl, .inr ⟨rfl, rfl, rfl, rfl, rfl, rfl, HNo.out⟩, ?_⟩
    exact put5 hBV
  | true =>
    rw [nw_t hok] at HW
    by_cases hq : wr a b c d rs = x
    · have HOk := Lib.hid hok
      have HEq : Hid (x = wr a b c d rs) := hq.symm
      rw [hq] at HW
      clear hok HQ hx hq
      go_wp2_with fail
      refine (HW.out _).mono ?_
      rintro e V ⟨rfl, hB2⟩
      clear z0 z1 z2 z3 z4 y0 y1 y2 y3 y4
      obtain ⟨hZV, hNV, hBV⟩ := behind HZ.out hBW hB2
      obtain ⟨z0, z1, z2, z3, z4, _⟩ := five hZV
      obtain ⟨n0, n1, n2, n3, n4, hNl⟩ := five hNV
      have y0 := hZV.frozen 0
      have y1 := hZV.frozen 1
      have y2 := hZV.frozen 2
      have y3 := hZV.frozen 3
      have y4 := hZV.frozen 4
      clear hZV hNV hB2 hBW HZ
      go_wp2
      refine bodyPost_ret (v := .tuple #[note a b c d rs, .bool true]) (by simp [results, Tryz.results171, go_sem, note, *]) rfl ⟨true, a, b, c, d, rs, rfl, .inl ⟨rfl, HOk.out, HEq.out⟩, ?_⟩
      exact put5 hBV
    · have HNo := Lib.hid (HQ.out.2 hq)
      have hx2 := toList_ne hq
      generalize wr a b c d rs = es at HW hx2
      clear hok HQ hx hq
      go_wp2_with fail
      refine (HW.out _).mono ?_
      rintro e V ⟨rfl, hB2⟩
      clear z0 z1 z2 z3 z4 y0 y1 y2 y3 y4
      obtain ⟨hZV, hNV, hBV⟩ := behind HZ.out hBW hB2
      obtain ⟨z0, z1, z2, z3, z4, _⟩ := five hZV
      obtain ⟨n0, n1, n2, n3, n4, hNl⟩ := five hNV
      have y0 := hZV.frozen 0
      have y1 := hZV.frozen 1
      have y2 := hZV.frozen 2
      have y3 := hZV.frozen 3
      have y4 := hZV.frozen 4
      clear hZV hNV hB2 hBW HZ
      go_wp2
      refine bodyPost_ret (v := .tuple #[note 0 0 0 0 ⟨#[]⟩, .bool false]) (by simp [results, Tryz.results171, go_sem, note, *]) rfl ⟨false, 0, 0, 0, 0, ⟨#[]⟩, rfl, .inr ⟨rfl, rfl, rfl, rfl, rfl, rfl, HNo.out⟩, ?_⟩
      exact put5 hBV
end Go.Proofs.YtjmmojjjopjdpaaGreatDoor.dc

/-
  Contract of spec.l12Rec: records of time and of the next number.
-/
namespace Go.Proofs.YtjmmojjjopjdpaaGreatDoor.kp
open Go.ChangeShapes Go.WideShapes Go.ChangeAt Go.RowKit
open Go.Proofs.YtjmmojjjopjdpaaGreatDoor.wd Go.Proofs.YtjmmojjjopjdpaaGreatDoor.ow Go.Proofs.YtjmmojjjopjdpaaGreatDoor.rl Go.Proofs.YtjmmojjjopjdpaaGreatDoor.ok Go.Proofs.YtjmmojjjopjdpaaGreatDoor.nb Go.Proofs.YtjmmojjjopjdpaaGreatDoor.dc

set_option maxRecDepth 100000 in
set_option maxHeartbeats 4000000 in
theorem rec_time (w : World) (k : Kp) (a b c : Value) (x : ByteArray) (hs : x.size ≤ 1048576) (h : SeesK w k a b c) (ho : okK k = true) (hw : (word x.data.toList).1 = kwTime) :
    Calls Tryz.prog 110 #[kpV k.id k.time k.next a b c, .string x] w (RecPost w k x.data.toList) := by
  have HZ := Lib.hid (sz_ok ho)
  have HS := Lib.hid h
  have HW := Lib.hid (fun W => sword_any x hs W)
  unfold WordPost at HW
  have hrl : (str (word x.data.toList).2).size ≤ 1048576 := by rw [str_size]; have := (word_len x.data.toList).2; rw [← Lib.size_eq] at this; omega
  have HR := Lib.hid (fun v (hr : Reads (word x.data.toList).2 v) => (⟨fun hv => rec_time_no hw hr hv, fun hv => rec_time_yes ho hw hr hv⟩ : (v ≤ k.time → RecP k x.data.toList k false) ∧ (k.time < v → RecP k x.data.toList (timeS k v) true)))
  have HN := Lib.hid (fun W => dec3x_any (str (word x.data.toList).2) (by omega) W)
  rw [data_str] at HN
  generalize (word x.data.toList).2 = rest at HW HR HN hrl
  have hkw : str kwTime = ⟨#[116, 105, 109, 101]⟩ := rfl
  rw [hw, hkw] at HW
  clear hkw
  obtain ⟨Aa, ca, rfl, _⟩ := h.held
  obtain ⟨Ab, cb, rfl, _⟩ := h.marks
  obtain ⟨Ac, cc, rfl, _⟩ := h.inbox
  have HT := Lib.hid (CB.new w k (.slice Aa k.held.length ca) (.slice Ab k.marks.length cb) (.slice Ac k.inbox.length cc))
  have HM := Lib.hid (fun V v (hV : Below w.heap.size w V) => time_any V k _ _ _ v (h.later hV) (HZ.out.few (by omega)))
  unfold RetK at HM
  clear h hw ho hrl
  go_enter Tryz.func110, Tryz.ntmps110
  go_upto_region 1 with (fail)
  generalize (w.alloc (.cells #[.int .i64 k.id, .int .i64 k.time, .int .i64 k.next, .slice Aa k.held.length ca, .slice Ab k.marks.length cb, .slice Ac k.inbox.length cc] 29)).alloc (.cells #[.int .i64 0, .int .i64 0, .int .i64 0, .slice none 0 0, .slice none 0 0, .slice none 0 0] 29) = V at HT ⊢
  go_wp2_with fail
  refine (HW.out _).mono ?_
  rintro e w1 ⟨rfl, hB1⟩
  have HT1 := Lib.hid (HT.out.later hB1)
  clear HT hB1 HW
  go_wp2_with fail
  refine (HN.out _).mono ?_
  rintro e w2 ⟨v, rfl, hrd, hB2⟩
  have HT2 := Lib.hid (HT1.out.later hB2)
  obtain ⟨hR1, hR2⟩ := HR.out v hrd
  clear hB2 HT1 HR hrd HN
  obtain ⟨b0, b1, b2, b3, b4, b5, g0, g1, g2, g3, g4, g5⟩ := res_cells HT2.out.box
  obtain ⟨r0, r1, r2, r3, r4, r5, f0, f1, f2, f3, f4, f5⟩ := res_cells HT2.out.res
  by_cases hv : v ≤ k.time
  · have HP := Lib.hid (hR1 hv)
    clear hR1 hR2 HM
    have HZZ := Lib.hid (HZ.out.up (show 12 ≤ 14 by omega))
    have HC := Lib.hid (put6_blk (V := w2) (a' := .int .i64 k.id) (b' := .int .i64 k.time) (c' := .int .i64 k.next) (d' := .slice Aa k.held.length ca) (e' := .slice Ab k.marks.length cb) (f' := .slice Ac k.inbox.length cc) HT2.out.res)
    have HD := Lib.hid (put6_below (V := w2) (B := w.heap.size) (R := w.heap.size + 1) (by omega) HT2.out.bel (.int .i64 k.id) (.int .i64 k.time) (.int .i64 k.next) (.slice Aa k.held.length ca) (.slice Ab k.marks.length cb) (.slice Ac k.inbox.length cc))
    have HG := Lib.hid (show SeesK (put6 w2 (w.heap.size + 1) (.int .i64 k.id) (.int .i64 k.time) (.int .i64 k.next) (.slice Aa k.held.length ca) (.slice Ab k.marks.length cb) (.slice Ac k.inbox.length cc)) k (.slice Aa k.held.length ca) (.slice Ab k.marks.length cb) (.slice Ac k.inbox.length cc) from HS.out.later HD.out)
    go_wp2
    have x0 := HC.out.cell 0
    have x1 := HC.out.cell 1
    have x2 := HC.out.cell 2
    have x3 := HC.out.cell 3
    have x4 := HC.out.cell 4
    have x5 := HC.out.cell 5
    refine bodyPost_ret (v := .tuple #[kpV (k).id (k).time (k).next (.slice Aa k.held.length ca) (.slice Ab k.marks.length cb) (.slice Ac k.inbox.length cc), .bool false]) (by simp [results, Tryz.results110, go_sem, x0, x1, x2, x3, x4, x5]) rfl ⟨k, false, HP.out, HZZ.out, _, _, _, rfl, HG.out, HD.out⟩

  · have hv' : k.time < v := by omega
    have hR := hR2 hv'
    have hZ3 := sz_time HZ.out v
    have hM := HM.out _ v HT2.out.bel
    clear hR1 hR2 HM
    generalize timeS k v = k3 at hR hZ3 hM
    have HP := Lib.hid hR
    have HZZ := Lib.hid (hZ3.up (show 12 ≤ 14 by omega))
    have HM := Lib.hid hM
    clear hR hZ3 hM
    go_wp2_with fail
    refine HM.out.mono ?_
    rintro e w3 ⟨vh, vm, vi, rfl, hO3⟩
    have HT3 := Lib.hid (HT2.out.later hO3.bel)
    have hs2 := HT2.out.sz
    have HG3 := Lib.hid (fun x0 x1 x2 x3 x4 x5 => hO3.put6 HS.out (show w.heap.size ≤ w.heap.size + 1 by omega) (by omega) x0 x1 x2 x3 x4 x5)
    obtain ⟨A3, c3, rfl, _⟩ := id hO3.sees.held
    obtain ⟨A4, c4, rfl, _⟩ := id hO3.sees.marks
    obtain ⟨A5, c5, rfl, _⟩ := id hO3.sees.inbox
    clear hO3 HT2
    clear b0 b1 b2 b3 b4 b5 g0 g1 g2 g3 g4 g5 r0 r1 r2 r3 r4 r5 f0 f1 f2 f3 f4 f5
    obtain ⟨b0, b1, b2, b3, b4, b5, g0, g1, g2, g3, g4, g5⟩ := res_cells HT3.out.box
    obtain ⟨r0, r1, r2, r3, r4, r5, f0, f1, f2, f3, f4, f5⟩ := res_cells HT3.out.res
    clear HM
    have HC := Lib.hid (put6_blk (V := w3) (a' := .int .i64 k3.id) (b' := .int .i64 k3.time) (c' := .int .i64 k3.next) (d' := .slice A3 k3.held.length c3) (e' := .slice A4 k3.marks.length c4) (f' := .slice A5 k3.inbox.length c5) HT3.out.res)
    have HD := Lib.hid (put6_below (V := w3) (B := w.heap.size) (R := w.heap.size + 1) (by omega) HT3.out.bel (.int .i64 k3.id) (.int .i64 k3.time) (.int .i64 k3.next) (.slice A3 k3.held.length c3) (.slice A4 k3.marks.length c4) (.slice A5 k3.inbox.length c5))
    have HG := Lib.hid (show SeesK (put6 w3 (w.heap.size + 1) (.int .i64 k3.id) (.int .i64 k3.time) (.int .i64 k3.next) (.slice A3 k3.held.length c3) (.slice A4 k3.marks.length c4) (.slice A5 k3.inbox.length c5)) k3 (.slice A3 k3.held.length c3) (.slice A4 k3.marks.length c4) (.slice A5 k3.inbox.length c5) from HG3.out _ _ _ _ _ _)
    go_wp2
    have x0 := HC.out.cell 0
    have x1 := HC.out.cell 1
    have x2 := HC.out.cell 2
    have x3 := HC.out.cell 3
    have x4 := HC.out.cell 4
    have x5 := HC.out.cell 5
    refine bodyPost_ret (v := .tuple #[kpV (k3).id (k3).time (k3).next (.slice A3 k3.held.length c3) (.slice A4 k3.marks.length c4) (.slice A5 k3.inbox.length c5), .bool true]) (by simp [results, Tryz.results110, go_sem, x0, x1, x2, x3, x4, x5]) rfl ⟨k3, true, HP.out, HZZ.out, _, _, _, rfl, HG.out, HD.out⟩

set_option maxRecDepth 100000 in
set_option maxHeartbeats 4000000 in
theorem rec_next (w : World) (k : Kp) (a b c : Value) (x : ByteArray) (hs : x.size ≤ 1048576) (h : SeesK w k a b c) (ho : okK k = true) (hw : (word x.data.toList).1 = kwNext) :
    Calls Tryz.prog 110 #[kpV k.id k.time k.next a b c, .string x] w (RecPost w k x.data.toList) := by
  have HZ := Lib.hid (sz_ok ho)
  have HS := Lib.hid h
  have HW := Lib.hid (fun W => sword_any x hs W)
  unfold WordPost at HW
  have hrl : (str (word x.data.toList).2).size ≤ 1048576 := by rw [str_size]; have := (word_len x.data.toList).2; rw [← Lib.size_eq] at this; omega
  have HR := Lib.hid (fun v (hr : Reads (word x.data.toList).2 v) => (⟨fun hv => rec_next_no hw hr hv, fun hv => rec_next_yes ho hw hr hv⟩ : (v ≤ k.next → RecP k x.data.toList k false) ∧ (k.next < v → RecP k x.data.toList { k with next := v } true)))
  have HN := Lib.hid (fun W => dec3x_any (str (word x.data.toList).2) (by omega) W)
  rw [data_str] at HN
  generalize (word x.data.toList).2 = rest at HW HR HN hrl
  have hkw : str kwNext = ⟨#[110, 101, 120, 116]⟩ := rfl
  rw [hw, hkw] at HW
  clear hkw
  obtain ⟨Aa, ca, rfl, _⟩ := h.held
  obtain ⟨Ab, cb, rfl, _⟩ := h.marks
  obtain ⟨Ac, cc, rfl, _⟩ := h.inbox
  have HT := Lib.hid (CB.new w k (.slice Aa k.held.length ca) (.slice Ab k.marks.length cb) (.slice Ac k.inbox.length cc))
  clear h hw ho hrl
  go_enter Tryz.func110, Tryz.ntmps110
  go_upto_region 1 with (fail)
  generalize (w.alloc (.cells #[.int .i64 k.id, .int .i64 k.time, .int .i64 k.next, .slice Aa k.held.length ca, .slice Ab k.marks.length cb, .slice Ac k.inbox.length cc] 29)).alloc (.cells #[.int .i64 0, .int .i64 0, .int .i64 0, .slice none 0 0, .slice none 0 0, .slice none 0 0] 29) = V at HT ⊢
  go_wp2_with fail
  refine (HW.out _).mono ?_
  rintro e w1 ⟨rfl, hB1⟩
  have HT1 := Lib.hid (HT.out.later hB1)
  clear HT hB1 HW
  go_wp2_with fail
  refine (HN.out _).mono ?_
  rintro e w2 ⟨v, rfl, hrd, hB2⟩
  have HT2 := Lib.hid (HT1.out.later hB2)
  obtain ⟨hR1, hR2⟩ := HR.out v hrd
  clear hB2 HT1 HR hrd HN
  obtain ⟨b0, b1, b2, b3, b4, b5, g0, g1, g2, g3, g4, g5⟩ := res_cells HT2.out.box
  obtain ⟨r0, r1, r2, r3, r4, r5, f0, f1, f2, f3, f4, f5⟩ := res_cells HT2.out.res
  by_cases hv : v ≤ k.next
  · have HP := Lib.hid (hR1 hv)
    clear hR1 hR2
    have HZZ := Lib.hid (HZ.out.up (show 12 ≤ 14 by omega))
    have HC := Lib.hid (put6_blk (V := w2) (a' := .int .i64 k.id) (b' := .int .i64 k.time) (c' := .int .i64 k.next) (d' := .slice Aa k.held.length ca) (e' := .slice Ab k.marks.length cb) (f' := .slice Ac k.inbox.length cc) HT2.out.res)
    have HD := Lib.hid (put6_below (V := w2) (B := w.heap.size) (R := w.heap.size + 1) (by omega) HT2.out.bel (.int .i64 k.id) (.int .i64 k.time) (.int .i64 k.next) (.slice Aa k.held.length ca) (.slice Ab k.marks.length cb) (.slice Ac k.inbox.length cc))
    have HG := Lib.hid (show SeesK (put6 w2 (w.heap.size + 1) (.int .i64 k.id) (.int .i64 k.time) (.int .i64 k.next) (.slice Aa k.held.length ca) (.slice Ab k.marks.length cb) (.slice Ac k.inbox.length cc)) k (.slice Aa k.held.length ca) (.slice Ab k.marks.length cb) (.slice Ac k.inbox.length cc) from HS.out.later HD.out)
    go_wp2
    have x0 := HC.out.cell 0
    have x1 := HC.out.cell 1
    have x2 := HC.out.cell 2
    have x3 := HC.out.cell 3
    have x4 := HC.out.cell 4
    have x5 := HC.out.cell 5
    refine bodyPost_ret (v := .tuple #[kpV (k).id (k).time (k).next (.slice Aa k.held.length ca) (.slice Ab k.marks.length cb) (.slice Ac k.inbox.length cc), .bool false]) (by simp [results, Tryz.results110, go_sem, x0, x1, x2, x3, x4, x5]) rfl ⟨k, false, HP.out, HZZ.out, _, _, _, rfl, HG.out, HD.out⟩

  · have hv' : k.next < v := by omega
    have HP := Lib.hid (hR2 hv')
    have HZZ := Lib.hid ((sz_next HZ.out v).up (show 12 ≤ 14 by omega))
    have HT3 := Lib.hid (HT2.out.put2 v)
    have HS3 := Lib.hid (fun V (hV : Below w.heap.size w V) => show SeesK V { k with next := v } (.slice Aa k.held.length ca) (.slice Ab k.marks.length cb) (.slice Ac k.inbox.length cc) from ⟨HS.out.held.later hV, HS.out.marks.later hV, HS.out.inbox.later hV⟩)
    clear hR1 hR2
    go_upto_region 24 with (fail)
    generalize w2.setCell ⟨w.heap.size, 2, none⟩ (.int .i64 v) = w3 at HT3 ⊢
    clear b0 b1 b2 b3 b4 b5 g0 g1 g2 g3 g4 g5 r0 r1 r2 r3 r4 r5 f0 f1 f2 f3 f4 f5
    obtain ⟨b0, b1, b2, b3, b4, b5, g0, g1, g2, g3, g4, g5⟩ := res_cells HT3.out.box
    obtain ⟨r0, r1, r2, r3, r4, r5, f0, f1, f2, f3, f4, f5⟩ := res_cells HT3.out.res
    have HC := Lib.hid (put6_blk (V := w3) (a' := .int .i64 k.id) (b' := .int .i64 k.time) (c' := .int .i64 v) (d' := .slice Aa k.held.length ca) (e' := .slice Ab k.marks.length cb) (f' := .slice Ac k.inbox.length cc) HT3.out.res)
    have HD := Lib.hid (put6_below (V := w3) (B := w.heap.size) (R := w.heap.size + 1) (by omega) HT3.out.bel (.int .i64 k.id) (.int .i64 k.time) (.int .i64 v) (.slice Aa k.held.length ca) (.slice Ab k.marks.length cb) (.slice Ac k.inbox.length cc))
    have HG := Lib.hid (show SeesK (put6 w3 (w.heap.size + 1) (.int .i64 k.id) (.int .i64 k.time) (.int .i64 v) (.slice Aa k.held.length ca) (.slice Ab k.marks.length cb) (.slice Ac k.inbox.length cc)) { k with next := v } (.slice Aa k.held.length ca) (.slice Ab k.marks.length cb) (.slice Ac k.inbox.length cc) from HS3.out _ HD.out)
    go_wp2
    have x0 := HC.out.cell 0
    have x1 := HC.out.cell 1
    have x2 := HC.out.cell 2
    have x3 := HC.out.cell 3
    have x4 := HC.out.cell 4
    have x5 := HC.out.cell 5
    refine bodyPost_ret (v := .tuple #[kpV ({ k with next := v }).id ({ k with next := v }).time ({ k with next := v }).next (.slice Aa k.held.length ca) (.slice Ab k.marks.length cb) (.slice Ac k.inbox.length cc), .bool true]) (by simp [results, Tryz.results110, go_sem, x0, x1, x2, x3, x4, x5]) rfl ⟨{ k with next := v }, true, HP.out, HZZ.out, _, _, _, rfl, HG.out, HD.out⟩

end Go.Proofs.YtjmmojjjopjdpaaGreatDoor.kp

/-
  Contract of spec.l12Rec: own and take records.
-/
namespace Go.Proofs.YtjmmojjjopjdpaaGreatDoor.kp
open Go.ChangeShapes Go.WideShapes Go.ChangeAt Go.RowKit
open Go.Proofs.YtjmmojjjopjdpaaGreatDoor.wd Go.Proofs.YtjmmojjjopjdpaaGreatDoor.ow Go.Proofs.YtjmmojjjopjdpaaGreatDoor.rl Go.Proofs.YtjmmojjjopjdpaaGreatDoor.ok Go.Proofs.YtjmmojjjopjdpaaGreatDoor.nb Go.Proofs.YtjmmojjjopjdpaaGreatDoor.dc

set_option maxRecDepth 100000 in
set_option maxHeartbeats 4000000 in
theorem rec_own (w : World) (k : Kp) (a b c : Value) (x : ByteArray) (hs : x.size ≤ 1048576) (h : SeesK w k a b c) (ho : okK k = true) (hw : (word x.data.toList).1 = kwOwn) :
    Calls Tryz.prog 110 #[kpV k.id k.time k.next a b c, .string x] w (RecPost w k x.data.toList) := by
  have HZ := Lib.hid (sz_ok ho)
  have HS := Lib.hid h
  have HW := Lib.hid (fun W => sword_any x hs W)
  unfold WordPost at HW
  have hrl : (str (word x.data.toList).2).size ≤ 1048576 := by rw [str_size]; have := (word_len x.data.toList).2; rw [← Lib.size_eq] at this; omega
  have HR := Lib.hid (fun (bb : Bool) (y : Nt) (hr : RD (str (word x.data.toList).2) bb y.f y.n y.t y.u y.s) => (⟨fun hv => rec_own_no hw hr hv, fun hb h1 h2 => rec_own_yes hw (hb ▸ hr) h1 h2⟩ : (bb = false ∨ y.f ≠ k.id ∨ y.n ≠ k.next → RecP k x.data.toList k false) ∧ (bb = true → y.f = k.id → y.n = k.next → RecP k x.data.toList (takeS { k with next := k.next + 1 } y) (takeB { k with next := k.next + 1 } y))))
  obtain ⟨_, _, hnx, _⟩ := okK_parts ho
  have hnx := inB_iff.1 hnx
  have HN := Lib.hid (fun W => sread_any (str (word x.data.toList).2) hrl W)
  generalize (word x.data.toList).2 = rest at HW HR HN hrl
  have hkw : str kwOwn = ⟨#[111, 119, 110]⟩ := rfl
  rw [hw, hkw] at HW
  clear hkw
  obtain ⟨Aa, ca, rfl, _⟩ := h.held
  obtain ⟨Ab, cb, rfl, _⟩ := h.marks
  obtain ⟨Ac, cc, rfl, _⟩ := h.inbox
  have HT := Lib.hid (CB.new w k (.slice Aa k.held.length ca) (.slice Ab k.marks.length cb) (.slice Ac k.inbox.length cc))
  clear h hw ho hrl
  go_enter Tryz.func110, Tryz.ntmps110
  go_upto_region 1 with (fail)
  generalize (w.alloc (.cells #[.int .i64 k.id, .int .i64 k.time, .int .i64 k.next, .slice Aa k.held.length ca, .slice Ab k.marks.length cb, .slice Ac k.inbox.length cc] 29)).alloc (.cells #[.int .i64 0, .int .i64 0, .int .i64 0, .slice none 0 0, .slice none 0 0, .slice none 0 0] 29) = V at HT ⊢
  go_wp2_with fail
  refine (HW.out _).mono ?_
  rintro e w1 ⟨rfl, hB1⟩
  have HT1 := Lib.hid (HT.out.later hB1)
  clear HT hB1 HW
  go_wp2_with fail
  refine (HN.out _).mono ?_
  rintro e w2 ⟨bb, f, n, t, u, s, rfl, hrd, hB2⟩
  obtain ⟨y, hy⟩ : ∃ y : Nt, y = ⟨f, n, t, u, s⟩ := ⟨_, rfl⟩
  have e1 : f = y.f := by rw [hy]
  have e2 : n = y.n := by rw [hy]
  have e3 : t = y.t := by rw [hy]
  have e4 : u = y.u := by rw [hy]
  have e5 : s = y.s := by rw [hy]
  subst e1; subst e2; subst e3; subst e4; subst e5
  clear hy
  have HT2 := Lib.hid (HT1.out.later hB2)
  have hR := HR.out bb y hrd
  have HR2 := Lib.hid hR
  have hNt := HT2.out.sz
  clear hB2 HT1 HR hR HN
  have HTa := Lib.hid (HT2.out.later ((Below.refl w2.heap.size w2).alloc (Nat.le_refl _) (.cells #[.int .i64 y.f, .int .i64 y.n, .int .i64 y.t, .int .i64 y.u, .string y.s] 131)))
  have HNa := Lib.hid (Blk.new w2 131 #[.int .i64 y.f, .int .i64 y.n, .int .i64 y.t, .int .i64 y.u, .string y.s])
  have HRd := Lib.hid hrd
  clear hrd HT2
  unfold note
  go_upto_region 10 with (fail)
  generalize w2.alloc (.cells #[.int .i64 y.f, .int .i64 y.n, .int .i64 y.t, .int .i64 y.u, .string y.s] 131) = W at HTa HNa ⊢
  generalize w2.heap.size = NB at HNa hNt ⊢
  obtain ⟨n0, n1, n2, n3, n4⟩ := nt_cells HNa.out
  obtain ⟨b0, b1, b2, b3, b4, b5, g0, g1, g2, g3, g4, g5⟩ := res_cells HTa.out.box
  obtain ⟨r0, r1, r2, r3, r4, r5, f0, f1, f2, f3, f4, f5⟩ := res_cells HTa.out.res
  cases bb with
  | false =>
    have HP := Lib.hid (HR2.out.1 (.inl rfl))
    clear n0 n1 n2 n3 n4 HNa
    have HZZ := Lib.hid (HZ.out.up (show 12 ≤ 14 by omega))
    have HC := Lib.hid (put6_blk (V := W) (a' := .int .i64 k.id) (b' := .int .i64 k.time) (c' := .int .i64 k.next) (d' := .slice Aa k.held.length ca) (e' := .slice Ab k.marks.length cb) (f' := .slice Ac k.inbox.length cc) HTa.out.res)
    have HD := Lib.hid (put6_below (V := W) (B := w.heap.size) (R := w.heap.size + 1) (by omega) HTa.out.bel (.int .i64 k.id) (.int .i64 k.time) (.int .i64 k.next) (.slice Aa k.held.length ca) (.slice Ab k.marks.length cb) (.slice Ac k.inbox.length cc))
    have HG := Lib.hid (show SeesK (put6 W (w.heap.size + 1) (.int .i64 k.id) (.int .i64 k.time) (.int .i64 k.next) (.slice Aa k.held.length ca) (.slice Ab k.marks.length cb) (.slice Ac k.inbox.length cc)) k (.slice Aa k.held.length ca) (.slice Ab k.marks.length cb) (.slice Ac k.inbox.length cc) from HS.out.later HD.out)
    go_wp2
    have x0 := HC.out.cell 0
    have x1 := HC.out.cell 1
    have x2 := HC.out.cell 2
    have x3 := HC.out.cell 3
    have x4 := HC.out.cell 4
    have x5 := HC.out.cell 5
    refine bodyPost_ret (v := .tuple #[kpV (k).id (k).time (k).next (.slice Aa k.held.length ca) (.slice Ab k.marks.length cb) (.slice Ac k.inbox.length cc), .bool false]) (by simp [results, Tryz.results110, go_sem, x0, x1, x2, x3, x4, x5]) rfl ⟨k, false, HP.out, HZZ.out, _, _, _, rfl, HG.out, HD.out⟩

  | true =>
    by_cases h1 : y.f = k.id
    · have k1 : (y.f != k.id) = false := by simpa using h1
      by_cases h2 : y.n = k.next
      · have k2 : (y.n != k.next) = false := by simpa using h2
        have hR := HR2.out.2 rfl h1 h2
        have hys' : y.s.size ≤ 1048576 := okNt_size (rd_true HRd.out).1
        have hys : y.s.size ≤ maxLen := by unfold maxLen; omega
        have hwr : IntKind.i64.wrap (k.next + 1) = k.next + 1 := by rw [IntKind.wrap_i64]; omega
        have HTb := Lib.hid (HTa.out.put2 (k.next + 1))
        have HNb := Lib.hid (HNa.out.far (p := ⟨w.heap.size, 2, none⟩) (by show NB ≠ w.heap.size; omega) (.int .i64 (k.next + 1)))
        clear h1 h2 HR2 HNa HTa
        go_upto_region 13 with (fail)
        generalize W.setCell ⟨w.heap.size, 2, none⟩ (.int .i64 (k.next + 1)) = W2 at HTb HNb ⊢
        clear n0 n1 n2 n3 n4 k1 k2 hwr
        obtain ⟨n0, n1, n2, n3, n4⟩ := nt_cells HNb.out
        clear b0 b1 b2 b3 b4 b5 g0 g1 g2 g3 g4 g5 r0 r1 r2 r3 r4 r5 f0 f1 f2 f3 f4 f5
        obtain ⟨b0, b1, b2, b3, b4, b5, g0, g1, g2, g3, g4, g5⟩ := res_cells HTb.out.box
        obtain ⟨r0, r1, r2, r3, r4, r5, f0, f1, f2, f3, f4, f5⟩ := res_cells HTb.out.res
        have hM : Calls Tryz.prog 172 #[kpV k.id k.time (k.next + 1) (.slice Aa k.held.length ca) (.slice Ab k.marks.length cb) (.slice Ac k.inbox.length cc), note y.f y.n y.t y.u y.s] W2 (ResK W2 (takeS { k with next := k.next + 1 } y) (takeB { k with next := k.next + 1 } y) (.slice Aa k.held.length ca) (.slice Ab k.marks.length cb) (.slice Ac k.inbox.length cc)) := take_any W2 { k with next := k.next + 1 } _ _ _ y ⟨HS.out.held.later HTb.out.bel, HS.out.marks.later HTb.out.bel, HS.out.inbox.later HTb.out.bel⟩ (HZ.out.few (by omega)) hys
        have hZ3 := sz_take (k := { k with next := k.next + 1 }) (x := y) (n := 12) ⟨HZ.out.h, HZ.out.m, HZ.out.i, HZ.out.ht, HZ.out.it⟩ hys'
        generalize takeS { k with next := k.next + 1 } y = k3 at hR hZ3 hM
        generalize takeB { k with next := k.next + 1 } y = bt at hR hM
        have HP := Lib.hid hR
        have HZZ := Lib.hid (hZ3.up (show 12 + 1 ≤ 14 by omega))
        unfold ResK note at hM
        have HM := Lib.hid hM
        clear hR hZ3 hM hys hys'
        go_wp2_with fail
        refine HM.out.mono ?_
        rintro e w3 ⟨vh, vm, vi, rfl, hO3⟩
        have HT3 := Lib.hid (HTb.out.later hO3.bel)
        have hs2 := HTb.out.sz
        have HG3 := Lib.hid (fun x0 x1 x2 x3 x4 x5 => hO3.put6 HS.out (show w.heap.size ≤ w.heap.size + 1 by omega) (by omega) x0 x1 x2 x3 x4 x5)
        obtain ⟨A3, c3, rfl, _⟩ := id hO3.sees.held
        obtain ⟨A4, c4, rfl, _⟩ := id hO3.sees.marks
        obtain ⟨A5, c5, rfl, _⟩ := id hO3.sees.inbox
        clear hO3 HTb
        clear b0 b1 b2 b3 b4 b5 g0 g1 g2 g3 g4 g5 r0 r1 r2 r3 r4 r5 f0 f1 f2 f3 f4 f5
        obtain ⟨b0, b1, b2, b3, b4, b5, g0, g1, g2, g3, g4, g5⟩ := res_cells HT3.out.box
        obtain ⟨r0, r1, r2, r3, r4, r5, f0, f1, f2, f3, f4, f5⟩ := res_cells HT3.out.res
        clear HM HNb n0 n1 n2 n3 n4
        have HC := Lib.hid (put6_blk (V := w3) (a' := .int .i64 k3.id) (b' := .int .i64 k3.time) (c' := .int .i64 k3.next) (d' := .slice A3 k3.held.length c3) (e' := .slice A4 k3.marks.length c4) (f' := .slice A5 k3.inbox.length c5) HT3.out.res)
        have HD := Lib.hid (put6_below (V := w3) (B := w.heap.size) (R := w.heap.size + 1) (by omega) HT3.out.bel (.int .i64 k3.id) (.int .i64 k3.time) (.int .i64 k3.next) (.slice A3 k3.held.length c3) (.slice A4 k3.marks.length c4) (.slice A5 k3.inbox.length c5))
        have HG := Lib.hid (show SeesK (put6 w3 (w.heap.size + 1) (.int .i64 k3.id) (.int .i64 k3.time) (.int .i64 k3.next) (.slice A3 k3.held.length c3) (.slice A4 k3.marks.length c4) (.slice A5 k3.inbox.length c5)) k3 (.slice A3 k3.held.length c3) (.slice A4 k3.marks.length c4) (.slice A5 k3.inbox.length c5) from HG3.out _ _ _ _ _ _)
        go_wp2
        have x0 := HC.out.cell 0
        have x1 := HC.out.cell 1
        have x2 := HC.out.cell 2
        have x3 := HC.out.cell 3
        have x4 := HC.out.cell 4
        have x5 := HC.out.cell 5
        refine bodyPost_ret (v := .tuple #[kpV (k3).id (k3).time (k3).next (.slice A3 k3.held.length c3) (.slice A4 k3.marks.length c4) (.slice A5 k3.inbox.length c5), .bool bt]) (by simp [results, Tryz.results110, go_sem, x0, x1, x2, x3, x4, x5]) rfl ⟨k3, bt, HP.out, HZZ.out, _, _, _, rfl, HG.out, HD.out⟩

      · have k2 : (y.n != k.next) = true := by simpa using h2
        have HP := Lib.hid (HR2.out.1 (.inr (.inr h2)))
        clear h1 h2 HR2
        have HZZ := Lib.hid (HZ.out.up (show 12 ≤ 14 by omega))
        have HC := Lib.hid (put6_blk (V := W) (a' := .int .i64 k.id) (b' := .int .i64 k.time) (c' := .int .i64 k.next) (d' := .slice Aa k.held.length ca) (e' := .slice Ab k.marks.length cb) (f' := .slice Ac k.inbox.length cc) HTa.out.res)
        have HD := Lib.hid (put6_below (V := W) (B := w.heap.size) (R := w.heap.size + 1) (by omega) HTa.out.bel (.int .i64 k.id) (.int .i64 k.time) (.int .i64 k.next) (.slice Aa k.held.length ca) (.slice Ab k.marks.length cb) (.slice Ac k.inbox.length cc))
        have HG := Lib.hid (show SeesK (put6 W (w.heap.size + 1) (.int .i64 k.id) (.int .i64 k.time) (.int .i64 k.next) (.slice Aa k.held.length ca) (.slice Ab k.marks.length cb) (.slice Ac k.inbox.length cc)) k (.slice Aa k.held.length ca) (.slice Ab k.marks.length cb) (.slice Ac k.inbox.length cc) from HS.out.later HD.out)
        go_wp2
        have x0 := HC.out.cell 0
        have x1 := HC.out.cell 1
        have x2 := HC.out.cell 2
        have x3 := HC.out.cell 3
        have x4 := HC.out.cell 4
        have x5 := HC.out.cell 5
        refine bodyPost_ret (v := .tuple #[kpV (k).id (k).time (k).next (.slice Aa k.held.length ca) (.slice Ab k.marks.length cb) (.slice Ac k.inbox.length cc), .bool false]) (by simp [results, Tryz.results110, go_sem, x0, x1, x2, x3, x4, x5]) rfl ⟨k, false, HP.out, HZZ.out, _, _, _, rfl, HG.out, HD.out⟩

    · have k1 : (y.f != k.id) = true := by simpa using h1
      have HP := Lib.hid (HR2.out.1 (.inr (.inl h1)))
      clear h1 HR2
      have HZZ := Lib.hid (HZ.out.up (show 12 ≤ 14 by omega))
      have HC := Lib.hid (put6_blk (V := W) (a' := .int .i64 k.id) (b' := .int .i64 k.time) (c' := .int .i64 k.next) (d' := .slice Aa k.held.length ca) (e' := .slice Ab k.marks.length cb) (f' := .slice Ac k.inbox.length cc) HTa.out.res)
      have HD := Lib.hid (put6_below (V := W) (B := w.heap.size) (R := w.heap.size + 1) (by omega) HTa.out.bel (.int .i64 k.id) (.int .i64 k.time) (.int .i64 k.next) (.slice Aa k.held.length ca) (.slice Ab k.marks.length cb) (.slice Ac k.inbox.length cc))
      have HG := Lib.hid (show SeesK (put6 W (w.heap.size + 1) (.int .i64 k.id) (.int .i64 k.time) (.int .i64 k.next) (.slice Aa k.held.length ca) (.slice Ab k.marks.length cb) (.slice Ac k.inbox.length cc)) k (.slice Aa k.held.length ca) (.slice Ab k.marks.length cb) (.slice Ac k.inbox.length cc) from HS.out.later HD.out)
      go_wp2
      have x0 := HC.out.cell 0
      have x1 := HC.out.cell 1
      have x2 := HC.out.cell 2
      have x3 := HC.out.cell 3
      have x4 := HC.out.cell 4
      have x5 := HC.out.cell 5
      refine bodyPost_ret (v := .tuple #[kpV (k).id (k).time (k).next (.slice Aa k.held.length ca) (.slice Ab k.marks.length cb) (.slice Ac k.inbox.length cc), .bool false]) (by simp [results, Tryz.results110, go_sem, x0, x1, x2, x3, x4, x5]) rfl ⟨k, false, HP.out, HZZ.out, _, _, _, rfl, HG.out, HD.out⟩

set_option maxRecDepth 100000 in
set_option maxHeartbeats 4000000 in
theorem rec_take (w : World) (k : Kp) (a b c : Value) (x : ByteArray) (hs : x.size ≤ 1048576) (h : SeesK w k a b c) (ho : okK k = true) (hw : (word x.data.toList).1 = kwTake) :
    Calls Tryz.prog 110 #[kpV k.id k.time k.next a b c, .string x] w (RecPost w k x.data.toList) := by
  have HZ := Lib.hid (sz_ok ho)
  have HS := Lib.hid h
  have HW := Lib.hid (fun W => sword_any x hs W)
  unfold WordPost at HW
  have hrl : (str (word x.data.toList).2).size ≤ 1048576 := by rw [str_size]; have := (word_len x.data.toList).2; rw [← Lib.size_eq] at this; omega
  have HR := Lib.hid (fun (bb : Bool) (y : Nt) (hr : RD (str (word x.data.toList).2) bb y.f y.n y.t y.u y.s) => (⟨fun hv => rec_take_no hw hr hv, fun hb h1 => rec_take_yes hw (hb ▸ hr) h1⟩ : (bb = false ∨ y.f = k.id → RecP k x.data.toList k false) ∧ (bb = true → y.f ≠ k.id → RecP k x.data.toList (takeS k y) (takeB k y))))
  have HN := Lib.hid (fun W => sread_any (str (word x.data.toList).2) hrl W)
  generalize (word x.data.toList).2 = rest at HW HR HN hrl
  have hkw : str kwTake = ⟨#[116, 97, 107, 101]⟩ := rfl
  rw [hw, hkw] at HW
  clear hkw
  obtain ⟨Aa, ca, rfl, _⟩ := h.held
  obtain ⟨Ab, cb, rfl, _⟩ := h.marks
  obtain ⟨Ac, cc, rfl, _⟩ := h.inbox
  have HT := Lib.hid (CB.new w k (.slice Aa k.held.length ca) (.slice Ab k.marks.length cb) (.slice Ac k.inbox.length cc))
  clear h hw ho hrl
  go_enter Tryz.func110, Tryz.ntmps110
  go_upto_region 1 with (fail)
  generalize (w.alloc (.cells #[.int .i64 k.id, .int .i64 k.time, .int .i64 k.next, .slice Aa k.held.length ca, .slice Ab k.marks.length cb, .slice Ac k.inbox.length cc] 29)).alloc (.cells #[.int .i64 0, .int .i64 0, .int .i64 0, .slice none 0 0, .slice none 0 0, .slice none 0 0] 29) = V at HT ⊢
  go_wp2_with fail
  refine (HW.out _).mono ?_
  rintro e w1 ⟨rfl, hB1⟩
  have HT1 := Lib.hid (HT.out.later hB1)
  clear HT hB1 HW
  go_wp2_with fail
  refine (HN.out _).mono ?_
  rintro e w2 ⟨bb, f, n, t, u, s, rfl, hrd, hB2⟩
  obtain ⟨y, hy⟩ : ∃ y : Nt, y = ⟨f, n, t, u, s⟩ := ⟨_, rfl⟩
  have e1 : f = y.f := by rw [hy]
  have e2 : n = y.n := by rw [hy]
  have e3 : t = y.t := by rw [hy]
  have e4 : u = y.u := by rw [hy]
  have e5 : s = y.s := by rw [hy]
  subst e1; subst e2; subst e3; subst e4; subst e5
  clear hy
  have HT2 := Lib.hid (HT1.out.later hB2)
  have hR := HR.out bb y hrd
  have HR2 := Lib.hid hR
  have hNt := HT2.out.sz
  clear hB2 HT1 HR hR HN
  have HTa := Lib.hid (HT2.out.later ((Below.refl w2.heap.size w2).alloc (Nat.le_refl _) (.cells #[.int .i64 y.f, .int .i64 y.n, .int .i64 y.t, .int .i64 y.u, .string y.s] 131)))
  have HNa := Lib.hid (Blk.new w2 131 #[.int .i64 y.f, .int .i64 y.n, .int .i64 y.t, .int .i64 y.u, .string y.s])
  have HRd := Lib.hid hrd
  clear hrd HT2
  unfold note
  go_upto_region 16 with (fail)
  generalize w2.alloc (.cells #[.int .i64 y.f, .int .i64 y.n, .int .i64 y.t, .int .i64 y.u, .string y.s] 131) = W at HTa HNa ⊢
  generalize w2.heap.size = NB at HNa hNt ⊢
  obtain ⟨n0, n1, n2, n3, n4⟩ := nt_cells HNa.out
  obtain ⟨b0, b1, b2, b3, b4, b5, g0, g1, g2, g3, g4, g5⟩ := res_cells HTa.out.box
  obtain ⟨r0, r1, r2, r3, r4, r5, f0, f1, f2, f3, f4, f5⟩ := res_cells HTa.out.res
  cases bb with
  | false =>
    have HP := Lib.hid (HR2.out.1 (.inl rfl))
    clear n0 n1 n2 n3 n4 HNa
    have HZZ := Lib.hid (HZ.out.up (show 12 ≤ 14 by omega))
    have HC := Lib.hid (put6_blk (V := W) (a' := .int .i64 k.id) (b' := .int .i64 k.time) (c' := .int .i64 k.next) (d' := .slice Aa k.held.length ca) (e' := .slice Ab k.marks.length cb) (f' := .slice Ac k.inbox.length cc) HTa.out.res)
    have HD := Lib.hid (put6_below (V := W) (B := w.heap.size) (R := w.heap.size + 1) (by omega) HTa.out.bel (.int .i64 k.id) (.int .i64 k.time) (.int .i64 k.next) (.slice Aa k.held.length ca) (.slice Ab k.marks.length cb) (.slice Ac k.inbox.length cc))
    have HG := Lib.hid (show SeesK (put6 W (w.heap.size + 1) (.int .i64 k.id) (.int .i64 k.time) (.int .i64 k.next) (.slice Aa k.held.length ca) (.slice Ab k.marks.length cb) (.slice Ac k.inbox.length cc)) k (.slice Aa k.held.length ca) (.slice Ab k.marks.length cb) (.slice Ac k.inbox.length cc) from HS.out.later HD.out)
    go_wp2
    have x0 := HC.out.cell 0
    have x1 := HC.out.cell 1
    have x2 := HC.out.cell 2
    have x3 := HC.out.cell 3
    have x4 := HC.out.cell 4
    have x5 := HC.out.cell 5
    refine bodyPost_ret (v := .tuple #[kpV (k).id (k).time (k).next (.slice Aa k.held.length ca) (.slice Ab k.marks.length cb) (.slice Ac k.inbox.length cc), .bool false]) (by simp [results, Tryz.results110, go_sem, x0, x1, x2, x3, x4, x5]) rfl ⟨k, false, HP.out, HZZ.out, _, _, _, rfl, HG.out, HD.out⟩

  | true =>
    by_cases h1 : y.f = k.id
    · have k1 : (y.f == k.id) = true := by simpa using h1
      have HP := Lib.hid (HR2.out.1 (.inr h1))
      clear h1 HR2
      have HZZ := Lib.hid (HZ.out.up (show 12 ≤ 14 by omega))
      have HC := Lib.hid (put6_blk (V := W) (a' := .int .i64 k.id) (b' := .int .i64 k.time) (c' := .int .i64 k.next) (d' := .slice Aa k.held.length ca) (e' := .slice Ab k.marks.length cb) (f' := .slice Ac k.inbox.length cc) HTa.out.res)
      have HD := Lib.hid (put6_below (V := W) (B := w.heap.size) (R := w.heap.size + 1) (by omega) HTa.out.bel (.int .i64 k.id) (.int .i64 k.time) (.int .i64 k.next) (.slice Aa k.held.length ca) (.slice Ab k.marks.length cb) (.slice Ac k.inbox.length cc))
      have HG := Lib.hid (show SeesK (put6 W (w.heap.size + 1) (.int .i64 k.id) (.int .i64 k.time) (.int .i64 k.next) (.slice Aa k.held.length ca) (.slice Ab k.marks.length cb) (.slice Ac k.inbox.length cc)) k (.slice Aa k.held.length ca) (.slice Ab k.marks.length cb) (.slice Ac k.inbox.length cc) from HS.out.later HD.out)
      go_wp2
      have x0 := HC.out.cell 0
      have x1 := HC.out.cell 1
      have x2 := HC.out.cell 2
      have x3 := HC.out.cell 3
      have x4 := HC.out.cell 4
      have x5 := HC.out.cell 5
      refine bodyPost_ret (v := .tuple #[kpV (k).id (k).time (k).next (.slice Aa k.held.length ca) (.slice Ab k.marks.length cb) (.slice Ac k.inbox.length cc), .bool false]) (by simp [results, Tryz.results110, go_sem, x0, x1, x2, x3, x4, x5]) rfl ⟨k, false, HP.out, HZZ.out, _, _, _, rfl, HG.out, HD.out⟩

    · have k1 : (y.f == k.id) = false := by simpa using h1
      have hR := HR2.out.2 rfl h1
      have hys' : y.s.size ≤ 1048576 := okNt_size (rd_true HRd.out).1
      have hys : y.s.size ≤ maxLen := by unfold maxLen; omega
      clear h1 HR2
      have hM : Calls Tryz.prog 172 #[kpV k.id k.time k.next (.slice Aa k.held.length ca) (.slice Ab k.marks.length cb) (.slice Ac k.inbox.length cc), note y.f y.n y.t y.u y.s] W (ResK W (takeS k y) (takeB k y) (.slice Aa k.held.length ca) (.slice Ab k.marks.length cb) (.slice Ac k.inbox.length cc)) := take_any W k _ _ _ y ⟨HS.out.held.later HTa.out.bel, HS.out.marks.later HTa.out.bel, HS.out.inbox.later HTa.out.bel⟩ (HZ.out.few (by omega)) hys
      have hZ3 := sz_take (k := k) (x := y) (n := 12) ⟨HZ.out.h, HZ.out.m, HZ.out.i, HZ.out.ht, HZ.out.it⟩ hys'
      generalize takeS k y = k3 at hR hZ3 hM
      generalize takeB k y = bt at hR hM
      have HP := Lib.hid hR
      have HZZ := Lib.hid (hZ3.up (show 12 + 1 ≤ 14 by omega))
      unfold ResK note at hM
      have HM := Lib.hid hM
      clear hR hZ3 hM hys hys'
      go_wp2_with fail
      refine HM.out.mono ?_
      rintro e w3 ⟨vh, vm, vi, rfl, hO3⟩
      have HT3 := Lib.hid (HTa.out.later hO3.bel)
      have hs2 := HTa.out.sz
      have HG3 := Lib.hid (fun x0 x1 x2 x3 x4 x5 => hO3.put6 HS.out (show w.heap.size ≤ w.heap.size + 1 by omega) (by omega) x0 x1 x2 x3 x4 x5)
      obtain ⟨A3, c3, rfl, _⟩ := id hO3.sees.held
      obtain ⟨A4, c4, rfl, _⟩ := id hO3.sees.marks
      obtain ⟨A5, c5, rfl, _⟩ := id hO3.sees.inbox
      clear hO3 HTa
      clear b0 b1 b2 b3 b4 b5 g0 g1 g2 g3 g4 g5 r0 r1 r2 r3 r4 r5 f0 f1 f2 f3 f4 f5
      obtain ⟨b0, b1, b2, b3, b4, b5, g0, g1, g2, g3, g4, g5⟩ := res_cells HT3.out.box
      obtain ⟨r0, r1, r2, r3, r4, r5, f0, f1, f2, f3, f4, f5⟩ := res_cells HT3.out.res
      clear HM HNa n0 n1 n2 n3 n4 k1
      have HC := Lib.hid (put6_blk (V := w3) (a' := .int .i64 k3.id) (b' := .int .i64 k3.time) (c' := .int .i64 k3.next) (d' := .slice A3 k3.held.length c3) (e' := .slice A4 k3.marks.length c4) (f' := .slice A5 k3.inbox.length c5) HT3.out.res)
      have HD := Lib.hid (put6_below (V := w3) (B := w.heap.size) (R := w.heap.size + 1) (by omega) HT3.out.bel (.int .i64 k3.id) (.int .i64 k3.time) (.int .i64 k3.next) (.slice A3 k3.held.length c3) (.slice A4 k3.marks.length c4) (.slice A5 k3.inbox.length c5))
      have HG := Lib.hid (show SeesK (put6 w3 (w.heap.size + 1) (.int .i64 k3.id) (.int .i64 k3.time) (.int .i64 k3.next) (.slice A3 k3.held.length c3) (.slice A4 k3.marks.length c4) (.slice A5 k3.inbox.length c5)) k3 (.slice A3 k3.held.length c3) (.slice A4 k3.marks.length c4) (.slice A5 k3.inbox.length c5) from HG3.out _ _ _ _ _ _)
      go_wp2
      have x0 := HC.out.cell 0
      have x1 := HC.out.cell 1
      have x2 := HC.out.cell 2
      have x3 := HC.out.cell 3
      have x4 := HC.out.cell 4
      have x5 := HC.out.cell 5
      refine bodyPost_ret (v := .tuple #[kpV (k3).id (k3).time (k3).next (.slice A3 k3.held.length c3) (.slice A4 k3.marks.length c4) (.slice A5 k3.inbox.length c5), .bool bt]) (by simp [results, Tryz.results110, go_sem, x0, x1, x2, x3, x4, x5]) rfl ⟨k3, bt, HP.out, HZZ.out, _, _, _, rfl, HG.out, HD.out⟩

end Go.Proofs.YtjmmojjjopjdpaaGreatDoor.kp

