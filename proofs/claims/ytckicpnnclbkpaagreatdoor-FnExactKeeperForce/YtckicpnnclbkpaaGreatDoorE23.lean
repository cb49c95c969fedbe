/-
  Merged texts: SRead, INum, IOk0, IOk, IWrite, IRead.
-/
import Derived.Test.YtckicpnnclbkpaaGreatDoorE19
namespace Go.Proofs.YtckicpnnclbkpaaGreatDoor.dc
open Go.ChangeShapes Go.WideShapes Go.ChangeAt Go.RowKit
open nb ok wd
def ReadPost (w : World) (x : ByteArray) (e : Ending) (w' : World) : Prop :=
 ∃ (b : Bool) (f n t u : Int) (s : ByteArray), e = .returned (.tuple #[note f n t u s, .bool b]) ∧ RD x b f n t u s ∧ Below w.heap.size w w'
theorem four {vs : List Int} (h : vs.length = 4) : ∃ a b c d, vs = [a, b, c, d] := by
 match vs, h with
 | [a, b, c, d], _ => exact ⟨a, b, c, d, rfl⟩
theorem own_four {w0 w : World} {v : Value} {a b c d : Int} (h : ow.Own 3 w0 w v (iv [a, b, c, d])) :
  ∃ g cap, v = .slice (some ⟨g, 0, none⟩) 4 cap ∧ w0.heap.size ≤ g ∧ g < w.heap.size ∧ w.cell? ⟨g, 0, none⟩ = some (.int .i64 a) ∧ w.cell? ⟨g, 1, none⟩ = some (.int .i64 b) ∧ w.cell? ⟨g, 2, none⟩ = some (.int .i64 c) ∧ w.cell? ⟨g, 3, none⟩ = some (.int .i64 d) := by
 obtain ⟨A, cap, rfl, hc⟩ := h.form
 obtain ⟨g, rfl, h1, h2, h3⟩ := hc (by simp [iv])
 exact ⟨g, cap, rfl, h1, h2, h3 0 _ rfl, h3 1 _ rfl, h3 2 _ rfl, h3 3 _ rfl⟩
theorem put5 {B : Nat} {w W : World} {v0 v1 v2 v3 v4 : Value} {g : Nat} (h : Below B w W) (hg : B ≤ g := by omega) :
  Below B w (((((W.setCell ⟨g, 0, none⟩ v0).setCell ⟨g, 1, none⟩ v1).setCell ⟨g, 2, none⟩ v2).setCell ⟨g, 3, none⟩ v3).setCell ⟨g, 4, none⟩ v4) :=
 ((((h.setCell hg _).setCell hg _).setCell hg _).setCell hg _).setCell hg _
theorem not_blank {x : ByteArray} (h : x ≠ ⟨#[]⟩) : (x.toList == []) = false ∧ x.toList.isEmpty = false := by
 have e : x.toList ≠ [] := fun e => by
  apply h
  rw [ByteArray.toList_eq] at e
  cases x
  simp at e
  rw [e]
 exact ⟨by simpa using e, by simpa using e⟩
theorem behind {w W V : World} {T : TypeId} {cs ds : Array Value} (hZ : Blk W w.heap.size T cs) (hBW : Below w.heap.size w W) (hB : Below (W.alloc (.cells ds T)).drew.heap.size (W.alloc (.cells ds T)).drew V) :
  Blk V w.heap.size T cs ∧ Blk V W.heap.size T ds ∧ Below w.heap.size w V := by
 have hB' : Below (W.alloc (.cells ds T)).heap.size (W.alloc (.cells ds T)) V := ⟨hB.os, hB.tape, hB.output, hB.size, hB.block⟩
 have h1 := hBW.alloc hBW.size (.cells ds T)
 exact ⟨(hZ.alloc _).below hB' (hZ.alloc (.cells ds T)).lt, (Blk.new W T ds).below hB' (Blk.new W T ds).lt, h1.trans (hB'.mono h1.size)⟩
set_option maxRecDepth 100000 in
set_option maxHeartbeats 1600000 in
theorem sread_any (x : ByteArray) (hs : x.size ≤ 1048576) (w : World) :
  Calls Tryz.prog 111 #[.string x] w (ReadPost w x) := by
 have hZ := Blk.new w 105 #[.int .i64 0, .int .i64 0, .int .i64 0, .int .i64 0, .string ⟨#[]⟩]
 have hB0 : Below w.heap.size w (w.alloc (.cells #[.int .i64 0, .int .i64 0, .int .i64 0, .int .i64 0, .string ⟨#[]⟩] 105)) := (Below.refl _ _).alloc (Nat.le_refl _) _
 have HN := Lib.hid (fun W => nums_any x hs W)
 go_enter Tryz.func111, Tryz.ntmps111
 go_wp2_with fail
 generalize w.alloc (.cells #[.int .i64 0, .int .i64 0, .int .i64 0, .int .i64 0, .string ⟨#[]⟩] 105) = W0 at hZ hB0 ⊢
 refine (HN.out _).mono ?_
 rintro e W ⟨v, vs, r, rfl, hl4, hO, HI, hr⟩
 obtain ⟨a, b, c, d, rfl⟩ := four hl4
 obtain ⟨g, cap, rfl, hg0, hg1, c0, c1, c2, c3⟩ := own_four hO
 have hZ1 := hZ.below hO.2 hZ.lt
 have hBW := hB0.trans (hO.2.mono hB0.size)
 have HI := Lib.hid HI
 have hrz : (str r).size ≤ maxLen := by rw [str_size]; rw [Lib.size_eq] at hs; unfold maxLen; omega
 have HW := Lib.hid (fun V => swrite_any a b c d (str r) V hrz)
 have HQ := Lib.hid (⟨fun h => fin_bad HI.out h, fun h => fin_other HI.out h⟩ : (okN a b c d (str r) = false → NoNote x) ∧ (wr a b c d (str r) ≠ x → NoNote x))
 generalize str r = rs at HW HQ hrz ⊢
 have hZl := hZ1.lt
 clear hO HN hZ hB0 hl4 HI hr hrz
 go_wp2_with fail
 go_region_held3 (fun w' => w'.cell? ⟨g, 0, none⟩ = some (.int .i64 a) ∧ w'.cell? ⟨g, 1, none⟩ = some (.int .i64 b) ∧ w'.cell? ⟨g, 2, none⟩ = some (.int .i64 c) ∧ w'.cell? ⟨g, 3, none⟩ = some (.int .i64 d)) (first | exact ⟨c0, c1, c2, c3⟩ | go_keep) (fail)
 clear c0 c1 c2 c3
 have HZ := Lib.hid hZ1
 obtain ⟨z0, z1, z2, z3, z4, _⟩ := five hZ1
 have y0 := hZ1.frozen 0
 have y1 := hZ1.frozen 1
 have y2 := hZ1.frozen 2
 have y3 := hZ1.frozen 3
 have y4 := hZ1.frozen 4
 clear hZ1
 have hBW' := hBW.size
 by_cases hx : x = ⟨#[]⟩
 ·subst hx
  go_wp2
  refine bodyPost_ret (v := .tuple #[note 0 0 0 0 ⟨#[]⟩, .bool false]) (by simp [results, Tryz.results111, go_sem, note, *]) rfl ⟨false, 0, 0, 0, 0, ⟨#[]⟩, rfl, .inr ⟨rfl, rfl, rfl, rfl, rfl, rfl, no_empty⟩, ?_⟩
  exact ((put5 hBW).alloc (by simp; omega) _).drew
 obtain ⟨hx0, hx1⟩ := not_blank hx
 cases hok : okN a b c d rs with
 | false =>
  rw [nw_f hok] at HW
  have HNo := Lib.hid (HQ.out.1 hok)
  have hx2 : ((str []).toList == x.toList) = false := toList_ne (fun e => hx e.symm)
  generalize str [] = es at HW hx2
  clear hok HQ hx
  go_wp2_with fail
  refine (HW.out _).mono ?_
  rintro e V ⟨rfl, hB2⟩
  clear z0 z1 z2 z3 z4 y0 y1 y2 y3 y4
  obtain ⟨hZV, hNV, hBV⟩ := behind HZ.out hBW hB2
  obtain ⟨z0, z1, z2, z3, z4, _⟩ := five hZV
  obtain ⟨n0, n1, n2, n3, n4, hNl⟩ := five hNV
  have y0 := hZV.frozen 0
  have y1 := hZV.frozen 1
  have y2 := hZV.frozen 2
  have y3 := hZV.frozen 3
  have y4 := hZV.frozen 4
  clear hZV hNV hB2 hBW HZ
  go_wp2
  refine bodyPost_ret (v := .tuple #[note 0 0 0 0 ⟨#[]⟩, .bool false]) (by simp [results, Tryz.results111, go_sem, note, *]) rfl ⟨false, 0, 0, 0, 0, ⟨#[]⟩, rfl, .inr ⟨rfl, rfl, rfl, rfl, rfl, rfl, HNo.out⟩, ?_⟩
  exact put5 hBV
 | true =>
  rw [nw_t hok] at HW
  by_cases hq : wr a b c d rs = x
  ·have HOk := Lib.hid hok
   have HEq : Hid (x = wr a b c d rs) := hq.symm
   rw [hq] at HW
   clear hok HQ hx hq
   go_wp2_with fail
   refine (HW.out _).mono ?_
   rintro e V ⟨rfl, hB2⟩
   clear z0 z1 z2 z3 z4 y0 y1 y2 y3 y4
   obtain ⟨hZV, hNV, hBV⟩ := behind HZ.out hBW hB2
   obtain ⟨z0, z1, z2, z3, z4, _⟩ := five hZV
   obtain ⟨n0, n1, n2, n3, n4, hNl⟩ := five hNV
   have y0 := hZV.frozen 0
   have y1 := hZV.frozen 1
   have y2 := hZV.frozen 2
   have y3 := hZV.frozen 3
   have y4 := hZV.frozen 4
   clear hZV hNV hB2 hBW HZ
   go_wp2
   refine bodyPost_ret (v := .tuple #[note a b c d rs, .bool true]) (by simp [results, Tryz.results111, go_sem, note, *]) rfl ⟨true, a, b, c, d, rs, rfl, .inl ⟨rfl, HOk.out, HEq.out⟩, ?_⟩
   exact put5 hBV
  ·have HNo := Lib.hid (HQ.out.2 hq)
   have hx2 := toList_ne hq
   generalize wr a b c d rs = es at HW hx2
   clear hok HQ hx hq
   go_wp2_with fail
   refine (HW.out _).mono ?_
   rintro e V ⟨rfl, hB2⟩
   clear z0 z1 z2 z3 z4 y0 y1 y2 y3 y4
   obtain ⟨hZV, hNV, hBV⟩ := behind HZ.out hBW hB2
   obtain ⟨z0, z1, z2, z3, z4, _⟩ := five hZV
   obtain ⟨n0, n1, n2, n3, n4, hNl⟩ := five hNV
   have y0 := hZV.frozen 0
   have y1 := hZV.frozen 1
   have y2 := hZV.frozen 2
   have y3 := hZV.frozen 3
   have y4 := hZV.frozen 4
   clear hZV hNV hB2 hBW HZ
   go_wp2
   refine bodyPost_ret (v := .tuple #[note 0 0 0 0 ⟨#[]⟩, .bool false]) (by simp [results, Tryz.results111, go_sem, note, *]) rfl ⟨false, 0, 0, 0, 0, ⟨#[]⟩, rfl, .inr ⟨rfl, rfl, rfl, rfl, rfl, rfl, HNo.out⟩, ?_⟩
   exact put5 hBV
end Go.Proofs.YtckicpnnclbkpaaGreatDoor.dc

namespace Go.Proofs.YtckicpnnclbkpaaGreatDoor.dc
open Go.ChangeShapes Go.WideShapes Go.ChangeAt Go.RowKit
open wd
def ptrA (g : Nat) : Array Value := #[.pointer (some ⟨g, 0, none⟩), .pointer (some ⟨g, 1, none⟩), .pointer (some ⟨g, 2, none⟩), .pointer (some ⟨g, 3, none⟩)]
theorem ptrA_at {k : Nat} (hk : k < 4) (g : Nat) : (ptrA g)[k]? = some (.pointer (some ⟨g, k, none⟩)) := by
 match k, hk with
 | 0, _ => rfl
 | 1, _ => rfl
 | 2, _ => rfl
 | 3, _ => rfl
def NumPost (g : Nat) (w : World) (e : Ending) (w' : World) : Prop := ∃ R, e = .returned (.slice (some ⟨R, 0, none⟩) 4 4) ∧ w.heap.size ≤ R ∧ Blk w' R 290 (ptrA g) ∧ Below w.heap.size w w'
set_option maxRecDepth 100000 in
set_option maxHeartbeats 1000000 in
theorem numbers_any (g : Nat) (w : World) :
  Calls Tryz.prog 241 #[.pointer (some ⟨g, 0, none⟩)] w (NumPost g w) := by
 go_enter Tryz.func241, Tryz.ntmps241
 go_wp2_with fail
 go_region
 all_goals
  go_wp2
  go_ret
  exact ⟨_, rfl, Nat.le_refl _, Blk.new _ _ _, ((Below.refl _ _).alloc (Nat.le_refl _) _).drew⟩
end Go.Proofs.YtckicpnnclbkpaaGreatDoor.dc

namespace Go.Proofs.YtckicpnnclbkpaaGreatDoor.ok
open Go.ChangeShapes Go.WideShapes Go.ChangeAt Go.RowKit
open nb li wd
theorem unpr_any (c : UInt8) (w : World) :
  Calls Tryz.prog 191 #[.int .u8 (c.toNat : Int)] w fun e w' => e = .returned (.bool (!pr c)) ∧ w = w' := by
 by_cases p0 : (c.toNat : Int) < 32
 ·rw [pr_f (.inl p0)]
  go_enter Tryz.func191, Tryz.ntmps191
  go_wp2
  go_ret
  exact ⟨rfl, rfl⟩
 ·by_cases p1 : 126 < (c.toNat : Int)
  ·rw [pr_f (.inr p1)]
   go_enter Tryz.func191, Tryz.ntmps191
   go_wp2
   go_ret
   exact ⟨rfl, rfl⟩
  ·rw [pr_t (by omega) (by omega)]
   go_enter Tryz.func191, Tryz.ntmps191
   go_wp2
   go_ret
   exact ⟨rfl, rfl⟩
abbrev L3 := Int × Int × Int
def l3c (x : L3) : List Value := [.int .i64 x.1, .int .i64 x.2.1, .int .i64 x.2.2]
def fits (x : L3) : Bool := inB x.1 x.2.1 x.2.2
def Limits (w : World) (g : Nat) (l : List L3) : Prop :=
 g < w.heap.size ∧ ∀ i x, l[i]? = some x → w.cell? ⟨g, i * 3, none⟩ = some (.int .i64 x.1) ∧ w.cell? ⟨g, i * 3 + 1, none⟩ = some (.int .i64 x.2.1) ∧ w.cell? ⟨g, i * 3 + 2, none⟩ = some (.int .i64 x.2.2)
theorem Limits.later {w w' : World} {g : Nat} {l : List L3} (h : Limits w g l) (hB : Below w.heap.size w w') : Limits w' g l :=
 ⟨Nat.lt_of_lt_of_le h.1 hB.size, fun i x hx => ⟨(hB.cell (p := ⟨g, _, none⟩) h.1).trans (h.2 i x hx).1, (hB.cell (p := ⟨g, _, none⟩) h.1).trans (h.2 i x hx).2.1, (hB.cell (p := ⟨g, _, none⟩) h.1).trans (h.2 i x hx).2.2⟩⟩
def SearchPost (w : World) (b : Bool) (e : Ending) (w' : World) : Prop := ∃ i : Int, e = .returned (.tuple #[.int .i64 i, .bool b]) ∧ Below w.heap.size w w'
theorem searchL (w : World) (g c : Nat) (l : List L3) (h : Limits w g l) (hl : l.length ≤ 100) :
  Calls Tryz.prog 124 #[.slice (some ⟨g, 0, none⟩) l.length c, .func (.func 125) #[] #[]] w (SearchPost w (!(l.all fits))) := by
 have H := Lib.hid h
 clear h
 go_enter Tryz.func124, Tryz.ntmps124
 go_wp2
 go_loopw [10] (fun i wr => ∃ k : Nat, k ≤ l.length ∧ i = .int .i64 k ∧ Hid ((l.take k).all fits = true) ∧ Below w.heap.size w wr) (fun i _ => l.length - (intOf i).toNat)
 case atStart => exact ⟨0, by omega, rfl, rfl, Below.refl _ _⟩
 case round =>
  obtain ⟨k, hk, rfl, HA, hB⟩ := hrel
  by_cases hlt : k < l.length
  ·have hx : l[k]? = some l[k] := List.getElem?_eq_getElem hlt
   obtain ⟨r0, r1, r2⟩ := (H.out.later hB).2 k _ hx
   have hg := (H.out.later hB).1
   have HT := Lib.hid (show l.take (k + 1) = l.take k ++ [l[k]] by rw [List.take_succ_eq_append_getElem hlt])
   have hm := List.getElem_mem hlt
   generalize l[k] = x at r0 r1 r2 HT hm
   obtain ⟨v, a, b⟩ := x
   clear hx
   go_wp2_with fail
   refine (outside_any v a b _).mono ?_
   rintro e w2 ⟨rfl, hB2⟩
   have hB3 := hB.trans ((((Below.refl wr.heap.size wr).alloc (Nat.le_refl _) _).trans (hB2.mono (by simp))).mono hB.size)
   cases hf : inB v a b with
   | true =>
    have R := Lib.hid (show (l.take (k + 1)).all fits = true by rw [HT.out, List.all_append, HA.out]; simp [fits, hf])
    clear hB2
    go_wp2
    go_roundw
    case rel => exact ⟨k + 1, by omega, by go_num, R, hB3⟩
    case measure => simp [intOf]; omega
   | false =>
    have R := Lib.hid (show l.all fits = false from List.all_eq_false.2 ⟨_, hm, by simp [fits, hf]⟩)
    clear hB2
    go_wp2
    go_ret2
    exact ⟨k, by rw [R.out]; rfl, hB3⟩
  ·have R := Lib.hid (show l.all fits = true by have := HA.out; rwa [List.take_of_length_le (by omega)] at this)
   go_wp2
   go_ret2
   exact ⟨l.length, by rw [R.out]; rfl, hB⟩
def ByteRow (w : World) (g : Nat) (s : ByteArray) : Prop :=
 g < w.heap.size ∧ ∀ i (h : i < s.size), w.cell? ⟨g, i, none⟩ = some (.int .u8 (s[i].toNat : Int))
theorem searchB (w : World) (g c : Nat) (s : ByteArray) (h : ByteRow w g s) (hl : s.size ≤ 100) :
  Calls Tryz.prog 190 #[.slice (some ⟨g, 0, none⟩) s.size c, .func (.func 191) #[] #[]] w (SearchPost w (!(allPr s))) := by
 have H := Lib.hid h.2
 clear h
 go_enter Tryz.func190, Tryz.ntmps190
 go_wp2
 go_loop [10] (fun i => ∃ k : Nat, k ≤ s.size ∧ i = .int .i64 k ∧ Hid ((s.data.toList.take k).all pr = true)) (fun i => s.size - (intOf i).toNat)
 case atStart => exact ⟨0, by omega, rfl, rfl⟩
 case round =>
  obtain ⟨k, hk, rfl, HA⟩ := hrel
  by_cases hlt : k < s.size
  ·have r0 := H.out k hlt
   cases hf : pr s[k] with
   | true =>
    have R := Lib.hid (all_more hlt HA.out hf)
    go_wp2_with fail
    refine (unpr_any s[k] _).mono ?_
    rintro e w' ⟨rfl, rfl⟩
    go_wp2
    go_round
    case rel => exact ⟨k + 1, by omega, by go_num, R⟩
    case measure => simp [intOf]; omega
   | false =>
    have R := Lib.hid (all_not hlt hf)
    go_wp2_with fail
    refine (unpr_any s[k] _).mono ?_
    rintro e w' ⟨rfl, rfl⟩
    go_wp2
    go_ret2
    exact ⟨k, by rw [R.out]; rfl, Below.refl _ _⟩
  ·have R := Lib.hid (all_whole (by omega) HA.out)
   go_wp2
   go_ret2
   exact ⟨s.size, by rw [R.out]; rfl, Below.refl _ _⟩
end Go.Proofs.YtckicpnnclbkpaaGreatDoor.ok

namespace Go.Proofs.YtckicpnnclbkpaaGreatDoor.ok
open Go.ChangeShapes Go.WideShapes Go.ChangeAt Go.RowKit
open nb li wd
def lims (f n t u : Int) (s : ByteArray) : List L3 := [(f, 0, 3), (n, 1, 99), (t, 0, 3), (u, 1, 999), (s.size, 1, 24)]
theorem lims_all (f n t u : Int) (s : ByteArray) : (lims f n t u s).all fits = (inB f 0 3 && inB n 1 99 && inB t 0 3 && inB u 1 999 && okS s) := by
 have e : inB (s.size : Int) 1 24 = okS s := by
  unfold inB okS
  congr 1
  exact propext ⟨fun h => ⟨by omega, by omega⟩, fun h => ⟨by omega, by omega⟩⟩
 simp [lims, fits, e, Bool.and_assoc]
theorem lims_f {f n t u : Int} {s : ByteArray} (h : (lims f n t u s).all fits = false) : okN f n t u s = false := by
 rw [lims_all] at h
 unfold okN
 revert h
 cases inB f 0 3 <;> cases inB n 1 99 <;> cases inB t 0 3 <;> cases inB u 1 999 <;> cases okS s <;> simp
theorem lims_t {f n t u : Int} {s : ByteArray} (h : (lims f n t u s).all fits = true) : okN f n t u s = allPr s ∧ 1 ≤ s.size ∧ s.size ≤ 24 := by
 rw [lims_all] at h
 simp only [Bool.and_eq_true] at h
 obtain ⟨⟨⟨⟨a, b⟩, c⟩, d⟩, e⟩ := h
 exact ⟨okN_t a c b d e, of_decide_eq_true e⟩
theorem searchL5 (w : World) (g : Nat) (f n t u : Int) (s : ByteArray) (h : Blk w g 167 #[.int .i64 f, .int .i64 0, .int .i64 3, .int .i64 n, .int .i64 1, .int .i64 99, .int .i64 t, .int .i64 0, .int .i64 3, .int .i64 u, .int .i64 1, .int .i64 999, .int .i64 s.size, .int .i64 1, .int .i64 24]) :
  Calls Tryz.prog 124 #[.slice (some ⟨g, 0, none⟩) 5 5, .func (.func 125) #[] #[]] w (SearchPost w (!((lims f n t u s).all fits))) := by
 refine searchL w g 5 (lims f n t u s) ⟨h.lt, fun i x hx => ?_⟩ (by simp [lims])
 have hi : i < 5 := (List.getElem?_eq_some_iff.1 hx).1
 rw [h.cell, h.cell, h.cell]
 match i, hi with
 | 0, _ => simp [lims] at hx; subst hx; exact ⟨rfl, rfl, rfl⟩
 | 1, _ => simp [lims] at hx; subst hx; exact ⟨rfl, rfl, rfl⟩
 | 2, _ => simp [lims] at hx; subst hx; exact ⟨rfl, rfl, rfl⟩
 | 3, _ => simp [lims] at hx; subst hx; exact ⟨rfl, rfl, rfl⟩
 | 4, _ => simp [lims] at hx; subst hx; exact ⟨rfl, rfl, rfl⟩
set_option maxRecDepth 100000 in
set_option maxHeartbeats 1000000 in
theorem iok_any (f n t u : Int) (s : ByteArray) (w : World) (hs : s.size ≤ maxLen) :
  Calls Tryz.prog 165 #[note f n t u s] w (BoolPost w (okN f n t u s)) := by
 unfold note
 unfold maxLen at hs
 have hb := Blk.new w 105 #[.int .i64 f, .int .i64 n, .int .i64 t, .int .i64 u, .string s]
 have hB0 : Below w.heap.size w (w.alloc (.cells #[.int .i64 f, .int .i64 n, .int .i64 t, .int .i64 u, .string s] 105)) := (Below.refl _ _).alloc (Nat.le_refl _) _
 go_enter Tryz.func165, Tryz.ntmps165
 go_wp2_with fail
 generalize w.alloc (.cells #[.int .i64 f, .int .i64 n, .int .i64 t, .int .i64 u, .string s] 105) = W at hb hB0 ⊢
 obtain ⟨c0, c1, c2, c3, c4, hz⟩ := five hb
 go_region_held3 (fun w' => w'.cell? ⟨w.heap.size, 0, none⟩ = some (.int .i64 f) ∧ w'.cell? ⟨w.heap.size, 1, none⟩ = some (.int .i64 n) ∧ w'.cell? ⟨w.heap.size, 2, none⟩ = some (.int .i64 t) ∧ w'.cell? ⟨w.heap.size, 3, none⟩ = some (.int .i64 u) ∧ w'.cell? ⟨w.heap.size, 4, none⟩ = some (.string s)) (first | exact ⟨c0, c1, c2, c3, c4⟩ | exact ⟨s0, s1, s2, s3, s4⟩ | go_keep) (((first | (go_at_call 120; refine (limited_any _ _).mono ?_) | (go_at_call 121; refine (limNum_any _ _).mono ?_) | (go_at_call 122; refine (limUntil_any _ _).mono ?_)); rintro e w2 ⟨rfl, hB2⟩; first | (have hBa := hBa.trans (hB2.mono hBa.size); have s0 := (hB2.cell (p := ⟨w.heap.size, 0, none⟩) hz2).trans s0; have s1 := (hB2.cell (p := ⟨w.heap.size, 1, none⟩) hz2).trans s1; have s2 := (hB2.cell (p := ⟨w.heap.size, 2, none⟩) hz2).trans s2; have s3 := (hB2.cell (p := ⟨w.heap.size, 3, none⟩) hz2).trans s3; have s4 := (hB2.cell (p := ⟨w.heap.size, 4, none⟩) hz2).trans s4; have hz2 := Nat.lt_of_lt_of_le hz2 hB2.size) | (have hBa := hB2; have s0 := (hB2.cell (p := ⟨w.heap.size, 0, none⟩) hz).trans c0; have s1 := (hB2.cell (p := ⟨w.heap.size, 1, none⟩) hz).trans c1; have s2 := (hB2.cell (p := ⟨w.heap.size, 2, none⟩) hz).trans c2; have s3 := (hB2.cell (p := ⟨w.heap.size, 3, none⟩) hz).trans c3; have s4 := (hB2.cell (p := ⟨w.heap.size, 4, none⟩) hz).trans c4; have hz2 := Nat.lt_of_lt_of_le hz hB2.size)))
 have HB3 := Lib.hid (show Below w.heap.size w w2 from hB0.trans ((show Below W.heap.size W w2 from ⟨hBa.os, hBa.tape, hBa.output, hBa.size, hBa.block⟩).mono hB0.size))
 clear hB0 hBa hB2 c0 c1 c2 c3 c4 s0 s1 s2 s3 hb hz
 go_wp2_with fail
 refine (searchL5 _ _ f n t u s (Blk.new _ _ _)).mono ?_
 rintro e w4 ⟨i, rfl, hB4⟩
 have c4 := (hB4.cell (p := ⟨w.heap.size, 4, none⟩) (by simp; omega)).trans ((World.cell?_alloc_lt _ _ _ hz2).trans s4)
 have HB4 := Lib.hid (HB3.out.trans (((Below.refl w2.heap.size w2).alloc (Nat.le_refl _) _).trans (hB4.mono (by simp)) |>.mono HB3.out.size))
 clear hB4 s4
 cases hf : (lims f n t u s).all fits with
 | false =>
  have R := Lib.hid (lims_f hf)
  go_wp2
  go_ret
  exact ⟨ret_bool R.out.symm, HB4.out⟩
 | true =>
  obtain ⟨R, k0, k1⟩ := lims_t hf
  have R := Lib.hid R
  have hcv := Lib.run_convert_string_bytes (P := Tryz.prog) w4 9 144 5 s (u := .string) Tryz.underlying9 Tryz.underlying144 Tryz.underlying5
  have hrow : ByteRow (Lib.bytesWorld w4 5 s) w4.heap.size s := ⟨by rw [Lib.bytesWorld_size]; omega, fun i hi => by
   rw [Lib.bytesWorld_cell w4 _ s i hi]
   simp [List.getD, hi]
   rfl⟩
  have HB5 := Lib.hid (HB4.out.trans ((Lib.bytesWorld_below w4 5 s).mono HB4.out.size))
  generalize Lib.bytesWorld w4 5 s = w5 at hcv hrow HB5
  generalize grownCap w4 s.size 0 5 = cap at hcv
  clear hf HB4
  go_wp2_with fail
  clear hcv
  refine (searchB _ _ _ s hrow (by omega)).mono ?_
  rintro e w6 ⟨j, rfl, hB6⟩
  have HB6 := Lib.hid (HB5.out.trans (hB6.mono HB5.out.size))
  clear hB6 hrow
  go_wp2
  go_ret
  exact ⟨ret_bool (by rw [R.out]), HB6.out⟩
end Go.Proofs.YtckicpnnclbkpaaGreatDoor.ok

namespace Go.Proofs.YtckicpnnclbkpaaGreatDoor.dc
open Go.ChangeShapes Go.WideShapes Go.ChangeAt Go.RowKit
open nb ok wd
theorem wr_loop (f n t u : Int) (s : ByteArray) : ((((str [] ++ (str (dl f) ++ str [32])) ++ (str (dl n) ++ str [32])) ++ (str (dl t) ++ str [32])) ++ (str (dl u) ++ str [32])) ++ s = wr f n t u s := by
 unfold wr wl
 rw [← str_data s]
 simp only [str_app, data_str]
 congr 1
 simp
theorem iwrite_f (f n t u : Int) (s : ByteArray) (w : World) (hs : s.size ≤ maxLen) (h : okN f n t u s = false) :
  Calls Tryz.prog 242 #[note f n t u s] w (StrPost w (str [])) := by
 unfold note
 go_enter Tryz.func242, Tryz.ntmps242
 go_wp2_with fail
 refine (iok_any f n t u s _ hs).mono ?_
 rintro e w1 ⟨rfl, hB1⟩
 have HB := Lib.hid (((Below.refl w.heap.size w).alloc (Nat.le_refl _) _).trans (hB1.mono (by simp)))
 clear hB1
 rw [h]
 go_wp2
 go_ret
 exact ⟨rfl, HB.out⟩
set_option maxRecDepth 100000 in
set_option maxHeartbeats 1000000 in
theorem iwrite_t (f n t u : Int) (s : ByteArray) (w : World) (h : okN f n t u s = true) (hTab : Tab w) :
  Calls Tryz.prog 242 #[note f n t u s] w (StrPost w (wr f n t u s)) := by
 obtain ⟨⟨f0, f1⟩, ⟨n0, n1⟩, ⟨t0, t1⟩, ⟨u0, u1⟩, ⟨z0, z1⟩, _⟩ := okN_parts h
 have HD0 := Lib.hid (fun W hT => itoa_any f f0 (by omega) W hT)
 have HD1 := Lib.hid (fun W hT => itoa_any n (by omega) (by omega) W hT)
 have HD2 := Lib.hid (fun W hT => itoa_any t t0 (by omega) W hT)
 have HD3 := Lib.hid (fun W hT => itoa_any u (by omega) (by omega) W hT)
 have l0 : (str (dl f)).size ≤ 3 := by rw [str_size]; exact (dl_len (by omega)).2
 have l1 : (str (dl n)).size ≤ 3 := by rw [str_size]; exact (dl_len (by omega)).2
 have l2 : (str (dl t)).size ≤ 3 := by rw [str_size]; exact (dl_len (by omega)).2
 have l3 : (str (dl u)).size ≤ 3 := by rw [str_size]; exact (dl_len (by omega)).2
 have HW := Lib.hid (wr_loop f n t u s)
 have lb : (⟨#[32]⟩ : ByteArray).size = 1 := rfl
 have le : (⟨#[]⟩ : ByteArray).size = 0 := rfl
 generalize str (dl f) = D0 at HD0 l0 HW
 generalize str (dl n) = D1 at HD1 l1 HW
 generalize str (dl t) = D2 at HD2 l2 HW
 generalize str (dl u) = D3 at HD3 l3 HW
 obtain ⟨a0, e1, q1, r1⟩ := adds D0 ⟨#[32]⟩ (by omega)
 obtain ⟨p1, e2, q2, r2⟩ := adds ⟨#[]⟩ a0 (by omega)
 obtain ⟨a1, e3, q3, r3⟩ := adds D1 ⟨#[32]⟩ (by omega)
 obtain ⟨p2, e4, q4, r4⟩ := adds p1 a1 (by omega)
 obtain ⟨a2, e5, q5, r5⟩ := adds D2 ⟨#[32]⟩ (by omega)
 obtain ⟨p3, e6, q6, r6⟩ := adds p2 a2 (by omega)
 obtain ⟨a3, e7, q7, r7⟩ := adds D3 ⟨#[32]⟩ (by omega)
 obtain ⟨p4, e8, q8, r8⟩ := adds p3 a3 (by omega)
 obtain ⟨p5, e9, q9, r9⟩ := adds p4 s (by omega)
 have HP : Hid (p5 = wr f n t u s) := by rw [e9, e8, e7, e6, e5, e4, e3, e2, e1]; exact HW.out
 clear e1 e2 e3 e4 e5 e6 e7 e8 e9 q1 q2 q3 q4 q5 q6 q7 q8 q9 HW l0 l1 l2 l3 lb le
 have hs : s.size ≤ maxLen := by unfold maxLen; omega
 unfold note
 have hb := Blk.new w 105 #[.int .i64 f, .int .i64 n, .int .i64 t, .int .i64 u, .string s]
 have hB0 : Below w.heap.size w (w.alloc (.cells #[.int .i64 f, .int .i64 n, .int .i64 t, .int .i64 u, .string s] 105)) := (Below.refl _ _).alloc (Nat.le_refl _) _
 go_enter Tryz.func242, Tryz.ntmps242
 go_wp2_with fail
 generalize w.alloc (.cells #[.int .i64 f, .int .i64 n, .int .i64 t, .int .i64 u, .string s] 105) = W0 at hb hB0 ⊢
 refine (iok_any f n t u s _ hs).mono ?_
 rintro e W ⟨rfl, hB1⟩
 have hbW := hb.below hB1 hb.lt
 have hBW := hB0.trans (hB1.mono hB0.size)
 rw [h]
 clear hb hB0 hB1 h hs
 go_wp2_with fail
 refine (numbers_any _ _).mono ?_
 rintro e W1 ⟨R1, rfl, _, hP1, hB2⟩
 have HP1 := Lib.hid hP1
 clear hP1
 have HN := Lib.hid (hbW.below hB2 hbW.lt)
 have hBW1 := hBW.trans (hB2.mono hBW.size)
 have HT := Lib.hid (hTab.later hBW1)
 have HB1 := Lib.hid hBW1
 clear hbW hBW hB2 hBW1 hTab
 go_wp2
 go_loopw [3, 11] (fun x i wr => (i = .int .i64 0 ∧ x = .string ⟨#[]⟩ ∨ i = .int .i64 1 ∧ x = .string p1 ∨ i = .int .i64 2 ∧ x = .string p2 ∨ i = .int .i64 3 ∧ x = .string p3 ∨ i = .int .i64 4 ∧ x = .string p4) ∧ Below W1.heap.size W1 wr) (fun _ i _ => 4 - (intOf i).toNat)
 case atStart => exact ⟨.inl ⟨rfl, rfl⟩, Below.refl _ _⟩
 case round =>
  obtain ⟨hc, hBr⟩ := hrel
  obtain ⟨c0, c1, c2, c3, c4, hz⟩ := five (HN.out.below hBr HN.out.lt)
  have hT := HT.out.later hBr
  rcases hc with ⟨rfl, rfl⟩ | ⟨rfl, rfl⟩ | ⟨rfl, rfl⟩ | ⟨rfl, rfl⟩ | ⟨rfl, rfl⟩
  ·have ix := ((HP1.out.below hBr HP1.out.lt).cell 0).trans (ptrA_at (k := 0) (by omega) w.heap.size)
   go_wp2_with fail
   clear ix
   refine (HD0.out _ hT).mono ?_
   rintro e w3 ⟨rfl, hB3⟩
   have R := Lib.hid (hBr.trans (hB3.mono hBr.size))
   clear hB3 hBr c0 c1 c2 c3 c4 hT hz
   go_wp2
   go_roundw
   case rel => exact ⟨.inr (.inl ⟨rfl, rfl⟩), R.out⟩
   case measure => simp [intOf]
  ·have ix := ((HP1.out.below hBr HP1.out.lt).cell 1).trans (ptrA_at (k := 1) (by omega) w.heap.size)
   go_wp2_with fail
   clear ix
   refine (HD1.out _ hT).mono ?_
   rintro e w3 ⟨rfl, hB3⟩
   have R := Lib.hid (hBr.trans (hB3.mono hBr.size))
   clear hB3 hBr c0 c1 c2 c3 c4 hT hz
   go_wp2
   go_roundw
   case rel => exact ⟨.inr (.inr (.inl ⟨rfl, rfl⟩)), R.out⟩
   case measure => simp [intOf]
  ·have ix := ((HP1.out.below hBr HP1.out.lt).cell 2).trans (ptrA_at (k := 2) (by omega) w.heap.size)
   go_wp2_with fail
   clear ix
   refine (HD2.out _ hT).mono ?_
   rintro e w3 ⟨rfl, hB3⟩
   have R := Lib.hid (hBr.trans (hB3.mono hBr.size))
   clear hB3 hBr c0 c1 c2 c3 c4 hT hz
   go_wp2
   go_roundw
   case rel => exact ⟨.inr (.inr (.inr (.inl ⟨rfl, rfl⟩))), R.out⟩
   case measure => simp [intOf]
  ·have ix := ((HP1.out.below hBr HP1.out.lt).cell 3).trans (ptrA_at (k := 3) (by omega) w.heap.size)
   go_wp2_with fail
   clear ix
   refine (HD3.out _ hT).mono ?_
   rintro e w3 ⟨rfl, hB3⟩
   have R := Lib.hid (hBr.trans (hB3.mono hBr.size))
   clear hB3 hBr c0 c1 c2 c3 c4 hT hz
   go_wp2
   go_roundw
   case rel => exact ⟨.inr (.inr (.inr (.inr (⟨rfl, rfl⟩)))), R.out⟩
   case measure => simp [intOf]
  ·have R := Lib.hid (HB1.out.trans (hBr.mono HB1.out.size))
   clear hBr hT
   go_wp2
   go_ret
   exact ⟨by rw [← HP.out]; rfl, R.out⟩
theorem iwrite_any (f n t u : Int) (s : ByteArray) (w : World) (hs : s.size ≤ maxLen) (hTab : Tab w) :
  Calls Tryz.prog 242 #[note f n t u s] w (StrPost w (nw f n t u s)) := by
 cases h : okN f n t u s with
 | true => rw [nw_t h]; exact iwrite_t f n t u s w h hTab
 | false => rw [nw_f h]; exact iwrite_f f n t u s w hs h
end Go.Proofs.YtckicpnnclbkpaaGreatDoor.dc

namespace Go.Proofs.YtckicpnnclbkpaaGreatDoor.dc
open Go.ChangeShapes Go.WideShapes Go.ChangeAt Go.RowKit
open nb ok wd
def cellsN (vs : List Int) : Array Value := #[.int .i64 (vs.getD 0 0), .int .i64 (vs.getD 1 0), .int .i64 (vs.getD 2 0), .int .i64 (vs.getD 3 0), .string ⟨#[]⟩]
theorem cellsN_put {vs : List Int} {k : Nat} (h : vs.length = k) (hk : k < 4) (x : Int) : (cellsN vs).setIfInBounds k (.int .i64 x) = cellsN (vs ++ [x]) := by
 subst h
 match vs, hk with
 | [], _ => rfl
 | [a], _ => rfl
 | [a, b], _ => rfl
 | [a, b, c], _ => rfl
theorem cellsN_at {k : Nat} (vs : List Int) (hk : k < 4) : ∃ y : Int, (cellsN vs)[k]? = some (.int .i64 y) := by
 match k, hk with
 | 0, _ => exact ⟨_, rfl⟩
 | 1, _ => exact ⟨_, rfl⟩
 | 2, _ => exact ⟨_, rfl⟩
 | 3, _ => exact ⟨_, rfl⟩
theorem atoi_spells (l : List UInt8) : Spells l (atoiV l) := fun m h0 h1 e => by rw [e]; exact atoiV_dl h0 h1
def zN : Array Value := #[.int .i64 0, .int .i64 0, .int .i64 0, .int .i64 0, .string ⟨#[]⟩]
def RNPost (w0 : World) (x : ByteArray) (z g : Nat) (e : Ending) (w' : World) : Prop :=
 ∃ (vs : List Int) (r : List UInt8), e = .returned (.string (str r)) ∧ vs.length = 4 ∧ Blk w' z 105 zN ∧ Blk w' g 105 (cellsN vs) ∧ Inv x.data.toList 4 vs r ∧ r.length ≤ x.size ∧ Below w0.heap.size w0 w'
set_option maxRecDepth 100000 in
set_option maxHeartbeats 2000000 in
theorem rnums_any (x : ByteArray) (hs : x.size ≤ 1048576) (w0 w : World) (z g R : Nat) (hZ : Blk w z 105 zN) (hN : Blk w g 105 (cellsN [])) (hP : Blk w R 290 (ptrA g)) (hzg : z ≠ g) (hRg : R ≠ g) (hg : w0.heap.size ≤ g) (hB : Below w0.heap.size w0 w) (hErr : Errs w0) :
  Calls Tryz.prog 225 #[.string x, .slice (some ⟨R, 0, none⟩) 4 4] w (RNPost w0 x z g) := by
 have hsz := Lib.hid (Lib.size_eq x)
 have HZ1 := Lib.hid hZ
 have HN1 := Lib.hid hN
 have HP1 := Lib.hid hP
 have HB1 := Lib.hid hB
 have Hzg := Lib.hid hzg
 have HRg := Lib.hid hRg
 have Hg := Lib.hid hg
 clear hZ hN hP hB hzg hRg hg
 go_enter Tryz.func225, Tryz.ntmps225
 go_wp2
 go_loopw [0, 12] (fun rv i wr => ∃ (k : Nat) (vs : List Int) (r : List UInt8), k ≤ 4 ∧ Hid (vs.length = k) ∧ i = .int .i64 k ∧ rv = .string (str r) ∧ Hid (Blk wr z 105 zN) ∧ Hid (Blk wr g 105 (cellsN vs)) ∧ Hid (Blk wr R 290 (ptrA g)) ∧ Hid (Inv x.data.toList k vs r) ∧ r.length ≤ x.size ∧ Hid (Below w0.heap.size w0 wr)) (fun _ i _ => 4 - (intOf i).toNat)
 case atStart => exact ⟨0, [], x.data.toList, by omega, rfl, rfl, by rw [str_data], HZ1.out, HN1.out, HP1.out, inv_start _, by rw [hsz.out]; exact Nat.le_refl _, HB1.out⟩
 case round =>
  obtain ⟨k, vs, r, hk, HL, rfl, rfl, HZ, HN, HP, HI, hr, HB⟩ := hrel
  clear HZ1 HN1 HP1 HB1
  by_cases hk4 : k < 4
  ·have hwl := word_len r
   have HSt := Lib.hid (inv_step (v := atoiV (word r).1) hk4 HI.out (atoi_spells _))
   have HW := Lib.hid (fun W => cut_any (str r) (by rw [str_size]; omega) W)
   have HD := Lib.hid (fun W h => atoi_any (str (word r).1) (by rw [str_size]; omega) W h)
   unfold CutPost at HW
   rw [data_str] at HW HD
   generalize word r = pq at HSt HW HD hwl
   obtain ⟨p, q⟩ := pq
   simp only at HSt HW HD hwl
   have hq : q.length ≤ x.size := by omega
   have ix := (HP.out.cell k).trans (ptrA_at hk4 g)
   clear hwl HI
   go_wp2_with fail
   clear ix
   refine (HW.out _).mono ?_
   rintro e w2 ⟨fb, rfl, hB2⟩
   have HB2 := Lib.hid (HB.out.trans (hB2.mono HB.out.size))
   have HE := Lib.hid (hErr.later HB2.out)
   have HZ2 := Lib.hid (HZ.out.below hB2 HZ.out.lt)
   have HN2 := Lib.hid (HN.out.below hB2 HN.out.lt)
   have HP2 := Lib.hid (HP.out.below hB2 HP.out.lt)
   clear hB2 HB HZ HN HP HW
   go_wp2_with fail
   refine (HD.out _ HE.out).mono ?_
   rintro e w3 ⟨er, rfl, hB3⟩
   have HB3 := Lib.hid ((HB2.out.trans (hB3.mono HB2.out.size)).setCell (p := ⟨g, k, none⟩) Hg.out (.int .i64 (atoiV p)))
   have HZ3 := Lib.hid ((HZ2.out.below hB3 HZ2.out.lt).far (p := ⟨g, k, none⟩) Hzg.out (.int .i64 (atoiV p)))
   have HP3 := Lib.hid ((HP2.out.below hB3 HP2.out.lt).far (p := ⟨g, k, none⟩) HRg.out (.int .i64 (atoiV p)))
   have hN3 := HN2.out.below hB3 HN2.out.lt
   obtain ⟨o, ho⟩ := cellsN_at vs hk4
   have c := (hN3.cell k).trans ho
   have fz := hN3.frozen k
   have R3 := hN3.put k (.int .i64 (atoiV p))
   rw [cellsN_put HL.out hk4] at R3
   have HN3 := Lib.hid R3
   have HL3 : Hid ((vs ++ [atoiV p]).length = k + 1) := by show _ = _; rw [List.length_append, HL.out]; rfl
   clear hB3 HB2 HZ2 HN2 HP2 HE hN3 R3 ho HD HL
   generalize atoiV p = y at HSt HB3 HZ3 HN3 HP3 HL3 ⊢
   go_wp2
   go_roundw
   case rel => exact ⟨k + 1, vs ++ [y], q, by omega, HL3, by go_num, rfl, HZ3, HN3, HP3, HSt, hq, HB3⟩
   case measure => simp [intOf]; omega
  ·obtain rfl : k = 4 := by omega
   go_wp2
   go_ret
   exact ⟨vs, r, rfl, HL.out, HZ.out, HN.out, HI.out, hr, HB.out⟩
set_option maxRecDepth 100000 in
set_option maxHeartbeats 2000000 in
theorem iread_any (x : ByteArray) (hs : x.size ≤ 1048576) (w : World) (hTab : Tab w) (hErr : Errs w) :
  Calls Tryz.prog 226 #[.string x] w (ReadPost w x) := by
 have hsz := Lib.hid (Lib.size_eq x)
 have hZ0 := (Blk.new w 105 zN).alloc (.cells zN 105)
 have hN0 := Blk.new (w.alloc (.cells zN 105)) 105 zN
 have e1 : (w.alloc (.cells zN 105)).heap.size = w.heap.size + 1 := by simp
 rw [e1] at hN0
 have hB0 : Below w.heap.size w ((w.alloc (.cells zN 105)).alloc (.cells zN 105)) := ((Below.refl _ _).alloc (Nat.le_refl _) _).alloc (by simp) _
 clear e1
 have HZ0 := Lib.hid hZ0
 have HN0 := Lib.hid hN0
 have HB0 := Lib.hid hB0
 clear hZ0 hN0 hB0
 unfold zN at HZ0 HN0 HB0
 go_enter Tryz.func226, Tryz.ntmps226
 go_wp2_with fail
 refine (numbers_any _ _).mono ?_
 rintro e W1 ⟨R1, rfl, hR1, hP1, hB1⟩
 have HZ1 := Lib.hid (HZ0.out.below hB1 HZ0.out.lt)
 have HN1 := Lib.hid (HN0.out.below hB1 HN0.out.lt)
 have HB1 := Lib.hid (HB0.out.trans (hB1.mono HB0.out.size))
 have HP1 := Lib.hid hP1
 have hR1' : R1 ≠ w.heap.size + 1 := by
  have := HN0.out.lt
  omega
 clear HZ0 HN0 HB0 hB1 hP1 hR1
 have hRN := rnums_any x hs w W1 w.heap.size (w.heap.size + 1) R1 HZ1.out HN1.out HP1.out (by omega) hR1' (by omega) HB1.out hErr
 have HRN := Lib.hid hRN
 clear hRN hR1' HZ1 HN1 HB1 HP1
 go_wp2_with fail
 refine HRN.out.mono ?_
 rintro e wr ⟨vs, r, rfl, hL, hZ, hN, hI, hr, hB⟩
 have HL := Lib.hid hL
 have HZ := Lib.hid hZ
 have HN := Lib.hid hN
 have HI := Lib.hid hI
 have HB := Lib.hid hB
 clear hL hZ hN hI hB HRN
 obtain ⟨a, b, c, d, rfl⟩ := four HL.out
 have hrz : (str r).size ≤ maxLen := by rw [str_size]; unfold maxLen; omega
 have HOk1 := Lib.hid (fun V => iok_any a b c d (str r) V hrz)
 have HW := Lib.hid (fun V h => iwrite_any a b c d (str r) V hrz h)
 have HQ := Lib.hid (⟨fun h => fin_bad HI.out h, fun h => fin_other HI.out h⟩ : (okN a b c d (str r) = false → NoNote x) ∧ (dc.wr a b c d (str r) ≠ x → NoNote x))
 generalize str r = rs at HOk1 HW HQ hrz ⊢
 obtain ⟨n0, n1, n2, n3, n4, _⟩ := five (show Blk wr (w.heap.size + 1) 105 #[.int .i64 a, .int .i64 b, .int .i64 c, .int .i64 d, .string ⟨#[]⟩] from HN.out)
 have f4 := HN.out.frozen 4
 have hN1 : Blk (wr.setCell ⟨w.heap.size + 1, 4, none⟩ (.string rs)) (w.heap.size + 1) 105 #[.int .i64 a, .int .i64 b, .int .i64 c, .int .i64 d, .string rs] := HN.out.put 4 (.string rs)
 have hZ1 := HZ.out.far (p := ⟨w.heap.size + 1, 4, none⟩) (by simp) (.string rs)
 have hB1 := HB.out.setCell (p := ⟨w.heap.size + 1, 4, none⟩) (by simp) (.string rs)
 clear HI hr HL HB HN HZ
 go_wp2_with fail
 clear n0 n1 n2 n3 n4 f4
 generalize wr.setCell ⟨w.heap.size + 1, 4, none⟩ (.string rs) = V0 at hN1 hZ1 hB1 ⊢
 refine (HOk1.out _).mono ?_
 rintro e V1 ⟨rfl, hB2⟩
 have hN2 := hN1.below hB2 hN1.lt
 have hZ2 := hZ1.below hB2 hZ1.lt
 have hB3 := hB1.trans (hB2.mono hB1.size)
 have HB3 := Lib.hid hB3
 have HT := Lib.hid (hTab.later hB3)
 clear hN1 hZ1 hB1 hB2 hB3 HOk1
 unfold zN at hZ2
 obtain ⟨z0, z1, z2, z3, z4, _⟩ := five hZ2
 obtain ⟨n0, n1, n2, n3, n4, _⟩ := five hN2
 have y0 := hZ2.frozen 0
 have y1 := hZ2.frozen 1
 have y2 := hZ2.frozen 2
 have y3 := hZ2.frozen 3
 have y4 := hZ2.frozen 4
 cases hok : okN a b c d rs with
 | false =>
  have HNo := Lib.hid (HQ.out.1 hok)
  clear hN2 hZ2 HW hok HQ
  go_wp2
  refine bodyPost_ret (v := .tuple #[note 0 0 0 0 ⟨#[]⟩, .bool false]) (by simp [results, Tryz.results226, go_sem, note, *]) rfl ⟨false, 0, 0, 0, 0, ⟨#[]⟩, rfl, .inr ⟨rfl, rfl, rfl, rfl, rfl, rfl, HNo.out⟩, ?_⟩
  exact put5 HB3.out
 | true =>
  have HOk := Lib.hid hok
  have HW' := Lib.hid (fun V h => (show Calls Tryz.prog 242 #[note a b c d rs] V (StrPost V (dc.wr a b c d rs)) by have := HW.out V h; rwa [nw_t hok] at this))
  clear hok HW
  by_cases hq : dc.wr a b c d rs = x
  ·have HEq : Hid (x = dc.wr a b c d rs) := hq.symm
   rw [hq] at HW'
   clear hq HQ
   go_wp2_with fail
   refine (HW'.out _ HT.out).mono ?_
   rintro e V2 ⟨rfl, hB4⟩
   clear z0 z1 z2 z3 z4 y0 y1 y2 y3 y4 n0 n1 n2 n3 n4
   have hN3 := hN2.below hB4 hN2.lt
   have hZ3 := hZ2.below hB4 hZ2.lt
   have HB4 := Lib.hid (HB3.out.trans (hB4.mono HB3.out.size))
   obtain ⟨z0, z1, z2, z3, z4, _⟩ := five hZ3
   obtain ⟨n0, n1, n2, n3, n4, _⟩ := five hN3
   have y0 := hZ3.frozen 0
   have y1 := hZ3.frozen 1
   have y2 := hZ3.frozen 2
   have y3 := hZ3.frozen 3
   have y4 := hZ3.frozen 4
   clear hN2 hZ2 hN3 hZ3 hB4 HB3 HT HW'
   go_wp2
   refine bodyPost_ret (v := .tuple #[note a b c d rs, .bool true]) (by simp [results, Tryz.results226, go_sem, note, *]) rfl ⟨true, a, b, c, d, rs, rfl, .inl ⟨rfl, HOk.out, HEq.out⟩, ?_⟩
   exact put5 HB4.out
  ·have HNo := Lib.hid (HQ.out.2 hq)
   have hx2 := toList_ne hq
   generalize dc.wr a b c d rs = es at HW' hx2
   clear hq HQ
   go_wp2_with fail
   refine (HW'.out _ HT.out).mono ?_
   rintro e V2 ⟨rfl, hB4⟩
   clear z0 z1 z2 z3 z4 y0 y1 y2 y3 y4 n0 n1 n2 n3 n4
   have hN3 := hN2.below hB4 hN2.lt
   have hZ3 := hZ2.below hB4 hZ2.lt
   have HB4 := Lib.hid (HB3.out.trans (hB4.mono HB3.out.size))
   obtain ⟨z0, z1, z2, z3, z4, _⟩ := five hZ3
   obtain ⟨n0, n1, n2, n3, n4, _⟩ := five hN3
   have y0 := hZ3.frozen 0
   have y1 := hZ3.frozen 1
   have y2 := hZ3.frozen 2
   have y3 := hZ3.frozen 3
   have y4 := hZ3.frozen 4
   clear hN2 hZ2 hN3 hZ3 hB4 HB3 HT HW'
   go_wp2
   refine bodyPost_ret (v := .tuple #[note 0 0 0 0 ⟨#[]⟩, .bool false]) (by simp [results, Tryz.results226, go_sem, note, *]) rfl ⟨false, 0, 0, 0, 0, ⟨#[]⟩, rfl, .inr ⟨rfl, rfl, rfl, rfl, rfl, rfl, HNo.out⟩, ?_⟩
   exact put5 HB4.out
end Go.Proofs.YtckicpnnclbkpaaGreatDoor.dc

