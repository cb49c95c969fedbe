/-
  Contract of spec.NoteRead.
-/
import Derived.Test.YtekoghcgkmldgaaDoorNums
import Derived.Test.YtekoghcgkmldgaaDoorSWrite
import Derived.Deep.RegionHeld3
namespace Go.Proofs.YtekoghcgkmldgaaDoor.dc
open Go.ChangeShapes Go.WideShapes Go.ChangeAt Go.RowKit
open Go.Proofs.YtekoghcgkmldgaaDoor.nb Go.Proofs.YtekoghcgkmldgaaDoor.ok Go.Proofs.YtekoghcgkmldgaaDoor.wd

def ReadPost (w : World) (x : ByteArray) (e : Ending) (w' : World) : Prop :=
  ∃ (b : Bool) (f n t u : Int) (s : ByteArray), e = .returned (.tuple #[note f n t u s, .bool b]) ∧ RD x b f n t u s ∧ Below w.heap.size w w'

theorem four {vs : List Int} (h : vs.length = 4) : ∃ a b c d, vs = [a, b, c, d] := by
  match vs, h with
  | [a, b, c, d], _ => exact ⟨a, b, c, d, rfl⟩

theorem own_four {w0 w : World} {v : Value} {a b c d : Int} (h : ow.Own 3 w0 w v (iv [a, b, c, d])) :
    ∃ g cap, v = .slice (some ⟨g, 0, none⟩) 4 cap ∧ w0.heap.size ≤ g ∧ g < w.heap.size ∧ w.cell? ⟨g, 0, none⟩ = some (.int .i64 a) ∧ w.cell? ⟨g, 1, none⟩ = some (.int .i64 b) ∧ w.cell? ⟨g, 2, none⟩ = some (.int .i64 c) ∧ w.cell? ⟨g, 3, none⟩ = some (.int .i64 d) := by
  obtain ⟨A, cap, rfl, hc⟩ := h.form
  obtain ⟨g, rfl, h1, h2, h3⟩ := hc (by simp [iv])
  exact ⟨g, cap, rfl, h1, h2, h3 0 _ rfl, h3 1 _ rfl, h3 2 _ rfl, h3 3 _ rfl⟩

theorem put5 {B : Nat} {w W : World} {v0 v1 v2 v3 v4 : Value} {g : Nat} (h : Below B w W) (hg : B ≤ g := by omega) :
    Below B w (((((W.setCell ⟨g, 0, none⟩ v0).setCell ⟨g, 1, none⟩ v1).setCell ⟨g, 2, none⟩ v2).setCell ⟨g, 3, none⟩ v3).setCell ⟨g, 4, none⟩ v4) :=
  ((((h.setCell hg _).setCell hg _).setCell hg _).setCell hg _).setCell hg _
theorem not_blank {x : ByteArray} (h : x ≠ ⟨#[]⟩) : (x.toList == []) = false ∧ x.toList.isEmpty = false := by
  have e : x.toList ≠ [] := fun e => by
    apply h
    rw [ByteArray.toList_eq] at e
    cases x
    simp at e
    rw [e]
  exact ⟨by simpa using e, by simpa using e⟩
theorem behind {w W V : World} {T : TypeId} {cs ds : Array Value} (hZ : Blk W w.heap.size T cs) (hBW : Below w.heap.size w W) (hB : Below (W.alloc (.cells ds T)).drew.heap.size (W.alloc (.cells ds T)).drew V) :
    Blk V w.heap.size T cs ∧ Blk V W.heap.size T ds ∧ Below w.heap.size w V := by
  have hB' : Below (W.alloc (.cells ds T)).heap.size (W.alloc (.cells ds T)) V := ⟨hB.os, hB.tape, hB.output, hB.size, hB.block⟩
  have h1 := hBW.alloc hBW.size (.cells ds T)
  exact ⟨(hZ.alloc _).below hB' (hZ.alloc (.cells ds T)).lt, (Blk.new W T ds).below hB' (Blk.new W T ds).lt, h1.trans (hB'.mono h1.size)⟩
theorem no_blank : (⟨#[]⟩ : ByteArray) = str [] := rfl

set_option maxRecDepth 100000 in
set_option maxHeartbeats 1600000 in
theorem sread_any (x : ByteArray) (hs : x.size ≤ 1048576) (w : World) :
    Calls Tryd.prog 14 #[.string x] w (ReadPost w x) := by
  have hZ := Blk.new w 24 #[.int .i64 0, .int .i64 0, .int .i64 0, .int .i64 0, .string ⟨#[]⟩]
  have hB0 : Below w.heap.size w (w.alloc (.cells #[.int .i64 0, .int .i64 0, .int .i64 0, .int .i64 0, .string ⟨#[]⟩] 24)) := (Below.refl _ _).alloc (Nat.le_refl _) _
  have HN := Lib.hid (fun W => nums_any x hs W)
  go_enter Tryd.func14, Tryd.ntmps14
  go_wp2_with fail
  generalize w.alloc (.cells #[.int .i64 0, .int .i64 0, .int .i64 0, .int .i64 0, .string ⟨#[]⟩] 24) = W0 at hZ hB0 ⊢
  refine (HN.out _).mono ?_
  rintro e W ⟨v, vs, r, rfl, hl4, hO, HI, hr⟩
  obtain ⟨a, b, c, d, rfl⟩ := four hl4
  obtain ⟨g, cap, rfl, hg0, hg1, c0, c1, c2, c3⟩ := own_four hO
  have hZ1 := hZ.below hO.2 hZ.lt
  have hBW := hB0.trans (hO.2.mono hB0.size)
  have HI := Lib.hid HI
  have hrz : (str r).size ≤ maxLen := by rw [str_size]; rw [Lib.size_eq] at hs; unfold maxLen; omega
  have HW := Lib.hid (fun V => swrite_any a b c d (str r) V hrz)
  have HQ := Lib.hid (⟨fun h => fin_bad HI.out h, fun h => fin_other HI.out h⟩ : (okN a b c d (str r) = false → NoNote x) ∧ (wr a b c d (str r) ≠ x → NoNote x))
  generalize str r = rs at HW HQ hrz ⊢
  have hZl := hZ1.lt
  clear hO HN hZ hB0 hl4 HI hr hrz
  go_wp2_with fail
  go_region_held3 (fun w' => w'.cell? ⟨g, 0, none⟩ = some (.int .i64 a) ∧ w'.cell? ⟨g, 1, none⟩ = some (.int .i64 b) ∧ w'.cell? ⟨g, 2, none⟩ = some (.int .i64 c) ∧ w'.cell? ⟨g, 3, none⟩ = some (.int .i64 d)) (first | exact ⟨c0, c1, c2, c3⟩ | go_keep) (fail)
  clear c0 c1 c2 c3
  have HZ := Lib.hid hZ1
  obtain ⟨z0, z1, z2, z3, z4, _⟩ := five hZ1
  have y0 := hZ1.frozen 0
  have y1 := hZ1.frozen 1
  have y2 := hZ1.frozen 2
  have y3 := hZ1.frozen 3
  have y4 := hZ1.frozen 4
  clear hZ1
  have hBW' := hBW.size
  by_cases hx : x = ⟨#[]⟩
  · subst hx
    go_wp2
    refine bodyPost_ret (v := .tuple #[note 0 0 0 0 ⟨#[]⟩, .bool false]) (by simp [results, Tryd.results14, go_sem, note, *]) rfl ⟨false, 0, 0, 0, 0, ⟨#[]⟩, rfl, .inr ⟨rfl, rfl, rfl, rfl, rfl, rfl, no_empty⟩, ?_⟩
    exact ((put5 hBW).alloc (by simp; omega) _).drew
  obtain ⟨hx0, hx1⟩ := not_blank hx
  cases hok : okN a b c d rs with
  | false =>
    rw [nw_f hok] at HW
    have HNo := Lib.hid (HQ.out.1 hok)
    have hx2 : ((str []).toList == x.toList) = false := toList_ne (fun e => hx e.symm)
    generalize str [] = es at HW hx2
    clear hok HQ hx
    go_wp2_with fail
    refine (HW.out _).mono ?_
    rintro e V ⟨rfl, hB2⟩
    clear z0 z1 z2 z3 z4 y0 y1 y2 y3 y4
    obtain ⟨hZV, hNV, hBV⟩ := behind HZ.out hBW hB2
    obtain ⟨z0, z1, z2, z3, z4, _⟩ := five hZV
    obtain ⟨n0, n1, n2, n3, n4, hNl⟩ := five hNV
    have y0 := hZV.frozen 0
    have y1 := hZV.frozen 1
    have y2 := hZV.frozen 2
    have y3 := hZV.frozen 3
    have y4 := hZV.frozen 4
    clear hZV hNV hB2 hBW HZ
    go_wp2
    refine bodyPost_ret (v := .tuple #[note 0 0 0 0 ⟨#[]⟩, .bool false]) (by simp [results, Tryd.results14, go_sem, note, *]) rfl ⟨false, 0, 0, 0, 0, ⟨#[]⟩, rfl, .inr ⟨rfl, rfl, rfl, rfl, rfl, rfl, HNo.out⟩, ?_⟩
    exact put5 hBV
  | true =>
    rw [nw_t hok] at HW
    by_cases hq : wr a b c d rs = x
    · have HOk := Lib.hid hok
      have HEq : Hid (x = wr a b c d rs) := hq.symm
      rw [hq] at HW
      clear hok HQ hx hq
      go_wp2_with fail
      refine (HW.out _).mono ?_
      rintro e V ⟨rfl, hB2⟩
      clear z0 z1 z2 z3 z4 y0 y1 y2 y3 y4
      obtain ⟨hZV, hNV, hBV⟩ := behind HZ.out hBW hB2
      obtain ⟨z0, z1, z2, z3, z4, _⟩ := five hZV
      obtain ⟨n0, n1, n2, n3, n4, hNl⟩ := five hNV
      have y0 := hZV.frozen 0
      have y1 := hZV.frozen 1
      have y2 := hZV.frozen 2
      have y3 := hZV.frozen 3
      have y4 := hZV.frozen 4
      clear hZV hNV hB2 hBW HZ
      go_wp2
      refine bodyPost_ret (v := .tuple #[note a b c d rs, .bool true]) (by simp [results, Tryd.results14, go_sem, note, *]) rfl ⟨true, a, b, c, d, rs, rfl, .inl ⟨rfl, HOk.out, HEq.out⟩, ?_⟩
      exact put5 hBV
    · have HNo := Lib.hid (HQ.out.2 hq)
      have hx2 := toList_ne hq
      generalize wr a b c d rs = es at HW hx2
      clear hok HQ hx hq
      go_wp2_with fail
      refine (HW.out _).mono ?_
      rintro e V ⟨rfl, hB2⟩
      clear z0 z1 z2 z3 z4 y0 y1 y2 y3 y4
      obtain ⟨hZV, hNV, hBV⟩ := behind HZ.out hBW hB2
      obtain ⟨z0, z1, z2, z3, z4, _⟩ := five hZV
      obtain ⟨n0, n1, n2, n3, n4, hNl⟩ := five hNV
      have y0 := hZV.frozen 0
      have y1 := hZV.frozen 1
      have y2 := hZV.frozen 2
      have y3 := hZV.frozen 3
      have y4 := hZV.frozen 4
      clear hZV hNV hB2 hBW HZ
      go_wp2
      refine bodyPost_ret (v := .tuple #[note 0 0 0 0 ⟨#[]⟩, .bool false]) (by simp [results, Tryd.results14, go_sem, note, *]) rfl ⟨false, 0, 0, 0, 0, ⟨#[]⟩, rfl, .inr ⟨rfl, rfl, rfl, rfl, rfl, rfl, HNo.out⟩, ?_⟩
      exact put5 hBV
end Go.Proofs.YtekoghcgkmldgaaDoor.dc
