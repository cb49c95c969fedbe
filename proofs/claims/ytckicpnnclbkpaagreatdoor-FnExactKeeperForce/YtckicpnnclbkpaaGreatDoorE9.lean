/-
  Merged texts: HfTo2, HfEq, ShelfIn, KrTo, HfPlain, SShOk, SShAdd, PackPlain, LawPlain.
-/
import Derived.Test.YtckicpnnclbkpaaGreatDoorE8
namespace Go.Proofs.YtckicpnnclbkpaaGreatDoor.hf
open Go.ChangeShapes Go.WideShapes Go.ChangeAt Go.RowKit
open wd ow rl ok kp
theorem own_putAll {α : Type} {S : Shape α} {t : TypeId} {B g : Nat} {v : Value} {l : List α} (hg : g < B) : ∀ (us : List Value) (o : Nat) {W : World}, OwnAt S t B W v l → OwnAt S t B (putAll W g o us) v l
 | [], _, _, h => h
 | u :: us, o, _, h => own_putAll hg us (o + 1) (h.set (p := ⟨g, o, none⟩) hg u)
theorem fill_more {α : Type} {S : Shape α} {t : TypeId} {g n : Nat} {lr : List α} {x : α} {w : World} (h : Fill S t g n lr lr.length w) : Fill S t g n (lr ++ [x]) lr.length w := by
 obtain ⟨cur, h1, h2, h3⟩ := h
 exact ⟨cur, h1, h2, fun i y hi hy j u hu => h3 i y hi (by rwa [List.getElem?_append_left hi] at hy) j u hu⟩
structure GrH (w wr : World) (n : Nat) (l : List Hf) (lr : List Hr) : Prop where
 fill : Fill hrS 62 w.heap.size n lr lr.length wr
 bel : Below w.heap.size w wr
 got : ∀ (i : Nat) (r : Hr) (h : Hf), lr[i]? = some r → l[i]? = some h → Nums6 r h ∧ OwnAt mbS 97 (w.heap.size + 1) wr r.v h.got
 apart : ∀ (i j : Nat) (r r' : Hr), i ≠ j → lr[i]? = some r → lr[j]? = some r' → Apart r.v r'.v
theorem GrH.step {w wr w2 : World} {n : Nat} {l : List Hf} {lr : List Hr} {h : Hf} {A : Option Addr} {c : Nat} (g : GrH w wr n l lr) (hln : n = l.length) (hk : lr.length < n) (hx : l[lr.length]? = some h) (hB : Below wr.heap.size wr w2) (hO : OwnAt mbS 97 wr.heap.size w2 (.slice A h.got.length c) h.got) :
  GrH w (putAll w2 w.heap.size (lr.length * 6) (hrF ⟨h.f, h.n, h.t, h.u, h.z, A, h.got.length, c⟩)) n l (lr ++ [⟨h.f, h.n, h.t, h.u, h.z, A, h.got.length, c⟩]) := by
 have hgl : w.heap.size < wr.heap.size := by obtain ⟨cur, h1, _⟩ := g.fill; exact h1.lt
 have hF := (fill_more (x := (⟨h.f, h.n, h.t, h.u, h.z, A, h.got.length, c⟩ : Hr)) (g.fill.later hB)).put hk (x := ⟨h.f, h.n, h.t, h.u, h.z, A, h.got.length, c⟩) (by rw [List.getElem?_append_right (Nat.le_refl _)]; simp)
 refine ⟨by rw [List.length_append]; exact hF, putAll_below (Nat.le_refl _) _ _ (g.bel.trans (hB.mono g.bel.size)), fun i r x hr hx' => ?_, fun i j r r' hne hr hr' => ?_⟩
 ·by_cases hi : i < lr.length
  ·rw [List.getElem?_append_left hi] at hr
   obtain ⟨g1, g2⟩ := g.got i r x hr hx'
   exact ⟨g1, own_putAll (Nat.lt_succ_self _) _ _ (g2.later hB)⟩
  ·rw [List.getElem?_append_right (by omega)] at hr
   have hi0 : i - lr.length = 0 := by
    rcases Nat.eq_zero_or_pos (i - lr.length) with e | e
    ·exact e
    ·rw [List.getElem?_eq_none (by simp; omega)] at hr; cases hr
   rw [hi0] at hr
   simp at hr
   subst hr
   obtain rfl : i = lr.length := by omega
   rw [hx] at hx'
   injection hx' with hx'
   subst hx'
   exact ⟨⟨rfl, rfl, rfl, rfl, rfl⟩, own_putAll (Nat.lt_succ_self _) _ _ (OwnAt.down hO (by omega))⟩
 ·have hold : ∀ (i : Nat) (r : Hr), i < lr.length → lr[i]? = some r → ∀ b, r.v.ownBlock = some b → b < wr.heap.size := fun i r hi hr b hb => by
   obtain ⟨y, hy⟩ : ∃ y, l[i]? = some y := ⟨_, List.getElem?_eq_getElem (by omega)⟩
   exact ((g.got i r y hr hy).2.lt hb).2
  have hnew : ∀ b, (Value.slice A h.got.length c).ownBlock = some b → wr.heap.size ≤ b := fun b hb => (hO.lt hb).1
  have hlast : ∀ (i : Nat) (r : Hr), ¬ i < lr.length → (lr ++ [(⟨h.f, h.n, h.t, h.u, h.z, A, h.got.length, c⟩ : Hr)])[i]? = some r → i = lr.length ∧ r = ⟨h.f, h.n, h.t, h.u, h.z, A, h.got.length, c⟩ := fun i r hi hr => by
   rw [List.getElem?_append_right (by omega)] at hr
   have hi0 : i - lr.length = 0 := by
    rcases Nat.eq_zero_or_pos (i - lr.length) with e | e
    ·exact e
    ·rw [List.getElem?_eq_none (by simp; omega)] at hr; cases hr
   rw [hi0] at hr
   simp at hr
   exact ⟨by omega, hr.symm⟩
  by_cases hi : i < lr.length
  ·by_cases hj : j < lr.length
   ·rw [List.getElem?_append_left hi] at hr
    rw [List.getElem?_append_left hj] at hr'
    exact g.apart i j r r' hne hr hr'
   ·rw [List.getElem?_append_left hi] at hr
    obtain ⟨_, rfl⟩ := hlast j r' hj hr'
    intro b p q
    have h1 := hold i r hi hr b p
    have h2 := hnew b q
    omega
  ·obtain ⟨ei, rfl⟩ := hlast i r hi hr
   by_cases hj : j < lr.length
   ·rw [List.getElem?_append_left hj] at hr'
    intro b p q
    have h1 := hold j r' hj hr' b q
    have h2 := hnew b p
    omega
   ·obtain ⟨ej, _⟩ := hlast j r' hj hr'
    omega
theorem GrH.done {w wr : World} {l : List Hf} {lr : List Hr} (g : GrH w wr l.length l lr) (hl : lr.length = l.length) (hm : l.length ≤ maxLen) : OwnHs w wr (.slice (some ⟨w.heap.size, 0, none⟩) l.length l.length) lr l := by
 have hF := g.fill
 rw [← hl] at hF hm ⊢
 refine ⟨hF.own (Nat.le_refl _) g.bel hm, hl, fun i r h hr hh => ⟨(g.got i r h hr hh).1, OwnAt.down (g.got i r h hr hh).2 (Nat.le_succ _)⟩, fun i r hr b p q => ?_, g.apart⟩
 have hi := (List.getElem?_eq_some_iff.1 hr).1
 obtain ⟨y, hy⟩ : ∃ y, l[i]? = some y := ⟨_, List.getElem?_eq_getElem (by omega)⟩
 have h1 := ((g.got i r y hr hy).2.lt q).1
 have h2 : w.heap.size = b := by injection p
 omega
def HalvesPost (w : World) (l : List Hf) (e : Ending) (w' : World) : Prop := ∃ v lr, e = .returned v ∧ OwnHs w w' v lr l
theorem infoHf : (Tryz.prog.info? 62).map (fun i => (i.zero, i.size, i.bytes)) = some (some (.agg #[.int .i64 0, .int .i64 0, .int .i64 0, .int .i64 0, .int .i64 0, .slice none 0 0]), 6, 64) := by kernel_rfl
set_option maxRecDepth 100000 in
set_option maxHeartbeats 1600000 in
theorem toHfs_any (w : World) (v : Value) (l : List Hf) (h : InH w v l) (hl : l.length ≤ 1048576) (hg : ∀ h ∈ l, h.got.length ≤ 1048576) : Calls Tryz.prog 35 #[v] w (HalvesPost w l) := by
 obtain ⟨i0, hi, hz0, hz1, hz2⟩ := info_parts infoHf
 have HS := Lib.hid h
 have HG := Lib.hid hg
 obtain ⟨A, c, rfl, _⟩ := h.form
 clear h hg
 go_enter Tryz.func35, Tryz.ntmps35
 go_wp2_with (at_make; refine wpList_make_full _ rfl _ _ 30 rfl w.heap.size 62 i0 _ 6 Tryz.underlying30 hi hz0 hz1 _ _ _ _ l.length rfl rfl rfl rfl (by rw [hz2]; omega) (by unfold maxLen; omega) (Nat.le_refl _) ?_)
 intro w1 hown hgrow
 have hF : GrH w w1 l.length l [] := by
  refine ⟨?_, ⟨hgrow.os, hgrow.tape, hgrow.output, hgrow.size, fun k hk => hgrow.block k hk (by simp)⟩, fun i r x hr => by simp at hr, fun i j r r' _ hr => by simp at hr⟩
  rcases hown.2 with ⟨e, _⟩ | ⟨g, cap, cur, e, _, hh, _, _, hs, _⟩
  ·cases e
  ·injection e with e1 e2 e3
   injection e1 with e1
   injection e1 with e1
   subst e1
   exact ⟨cur, hh, by rw [hs, ← e3]; rfl, fun i m hi => absurd hi (by simp)⟩
 have HF := Lib.hid hF
 clear hF hown hgrow
 go_wp2
 go_loopw [4] (fun i wr => ∃ (k : Nat) (lr : List Hr), k ≤ l.length ∧ i = .int .i64 k ∧ lr.length = k ∧ Hid (GrH w wr l.length l lr)) (fun i _ => (l.length + 1 : Nat) - (intOf i).toNat)
 case atStart => exact ⟨0, [], by omega, rfl, rfl, HF.out⟩
 case round =>
  obtain ⟨k, lr, hk, rfl, hlr, HR⟩ := hrel
  clear HF
  by_cases hkl : k < l.length
  ·have hx : l[k]? = some l[k] := List.getElem?_eq_getElem hkl
   obtain ⟨g, o, c', A', c2, e, hg, _, t0, t1, t2, t3, t4, t5, hin, hz⟩ := (HS.out.later HR.out.bel).at hx
   injection e with e1 e2 e3
   subst e1; subst e3
   have hgl := HG.out l[k] (List.getElem_mem hkl)
   generalize l[k] = y at hx t0 t1 t2 t3 t4 t5 hin hz hgl
   have HX := Lib.hid hx
   have hk1 : (k : Int) < (l.length : Int) := by omega
   have HI := Lib.hid (toHf_any wr y _ hin hgl)
   unfold HalfPost at HI
   clear hin hz hx hgl
   go_wp2_with fail
   refine HI.out.mono ?_
   rintro e w2 ⟨A2, d2, rfl, hO2, hB2⟩
   clear HI t0 t1 t2 t3 t4 t5
   have HR2 := Lib.hid (HR.out.step rfl (by omega) (by rw [hlr]; exact HX.out) hB2 hO2)
   have hF2 : Fill hrS 62 w.heap.size l.length lr k w2 := by have h := HR.out.fill.later hB2; rwa [hlr] at h
   obtain ⟨⟨x0, c0⟩, f0⟩ := hF2.cell hkl (j := 0) (by decide)
   obtain ⟨⟨x1, c1⟩, f1⟩ := hF2.cell hkl (j := 1) (by decide)
   obtain ⟨⟨x2, c2'⟩, f2⟩ := hF2.cell hkl (j := 2) (by decide)
   obtain ⟨⟨x3, c3⟩, f3⟩ := hF2.cell hkl (j := 3) (by decide)
   obtain ⟨⟨x4, c4⟩, f4⟩ := hF2.cell hkl (j := 4) (by decide)
   obtain ⟨⟨x5, c5⟩, f5⟩ := hF2.cell hkl (j := 5) (by decide)
   change w2.cell? ⟨w.heap.size, k * 6, none⟩ = _ at c0
   change w2.frozen? ⟨w.heap.size, k * 6, none⟩ = _ at f0
   change w2.cell? ⟨w.heap.size, k * 6 + 1, none⟩ = _ at c1
   change w2.frozen? ⟨w.heap.size, k * 6 + 1, none⟩ = _ at f1
   change w2.cell? ⟨w.heap.size, k * 6 + 2, none⟩ = _ at c2'
   change w2.frozen? ⟨w.heap.size, k * 6 + 2, none⟩ = _ at f2
   change w2.cell? ⟨w.heap.size, k * 6 + 3, none⟩ = _ at c3
   change w2.frozen? ⟨w.heap.size, k * 6 + 3, none⟩ = _ at f3
   change w2.cell? ⟨w.heap.size, k * 6 + 4, none⟩ = _ at c4
   change w2.frozen? ⟨w.heap.size, k * 6 + 4, none⟩ = _ at f4
   change w2.cell? ⟨w.heap.size, k * 6 + 5, none⟩ = _ at c5
   change w2.frozen? ⟨w.heap.size, k * 6 + 5, none⟩ = _ at f5
   rw [hlr] at HR2
   clear hF2 hO2 hB2 HR
   go_wp2
   go_roundw
   case rel => exact ⟨k + 1, _, by omega, by go_num, by rw [List.length_append, hlr]; rfl, HR2.out⟩
   case measure => simp [intOf]; omega
  ·obtain rfl : k = l.length := by omega
   have R := Lib.hid (HR.out.done hlr (by unfold maxLen; omega))
   go_wp2
   go_ret
   exact ⟨_, _, rfl, R.out⟩
end Go.Proofs.YtckicpnnclbkpaaGreatDoor.hf

namespace Go.Proofs.YtckicpnnclbkpaaGreatDoor.hf
open Go.ChangeShapes Go.WideShapes Go.ChangeAt Go.RowKit
open wd ow rl ok kp
abbrev hfC (h : Hf) (g : Value) : Array Value := #[.int .i64 h.f, .int .i64 h.n, .int .i64 h.t, .int .i64 h.u, .int .i64 h.z, g]
set_option maxRecDepth 100000 in
set_option maxHeartbeats 1600000 in
theorem eqHf_same (w : World) (h : Hf) (g1 g2 : Value) (i1 : SeesR mbS w g1 h.got) (i2 : SeesR mbS w g2 h.got) (hl : h.got.length ≤ 1048576) :
  Calls Tryz.prog 70 #[hfV h g1, hfV h g2] w (YesPost w) := by
 have k1 := (Blk.new w 62 (hfC h g1)).alloc (.cells (hfC h g2) 62)
 have k2 := Blk.new (w.alloc (.cells (hfC h g1) 62)) 62 (hfC h g2)
 have B0 := ((Below.refl w.heap.size w).alloc (Nat.le_refl _) (.cells (hfC h g1) 62)).alloc (by simp) (.cells (hfC h g2) 62)
 simp only [World.size_alloc] at k2
 have HM := Lib.hid (fun V (hB : Below w.heap.size w V) => eqMbs_same V g1 g2 h.got (i1.later hB) (i2.later hB) hl)
 unfold YesPost at HM
 clear i1 i2
 go_enter Tryz.func70, Tryz.ntmps70
 go_wp2_with fail
 generalize (w.alloc (.cells (hfC h g1) 62)).alloc (.cells (hfC h g2) 62) = V at k1 k2 B0 ⊢
 refine (HM.out _ B0).mono ?_
 rintro e w1 ⟨rfl, B1⟩
 have HB := Lib.hid (B0.trans (B1.mono B0.size))
 clear k1 k2 B0 B1
 go_wp2
 go_ret
 exact ⟨rfl, HB.out⟩
set_option maxRecDepth 100000 in
set_option maxHeartbeats 1600000 in
theorem eqHfs_same (w : World) (v1 v2 : Value) (l : List Hf) (h1 : SeesH w v1 l) (h2 : SeesH w v2 l) (hl : l.length ≤ 1048576) (hg : ∀ h ∈ l, h.got.length ≤ 1048576) :
  Calls Tryz.prog 38 #[v1, v2] w (YesPost w) := by
 have H1 := Lib.hid h1
 have H2 := Lib.hid h2
 have HG := Lib.hid hg
 obtain ⟨A1, c1, rfl⟩ := h1.form
 obtain ⟨A2, c2, rfl⟩ := h2.form
 clear h1 h2 hg
 go_enter Tryz.func38, Tryz.ntmps38
 go_wp2
 go_loopw [5] (fun i wr => ∃ k : Nat, k ≤ l.length ∧ i = .int .i64 k ∧ Below w.heap.size w wr) (fun i _ => (l.length + 1 : Nat) - (intOf i).toNat)
 case atStart => exact ⟨0, by omega, rfl, Below.refl _ _⟩
 case round =>
  obtain ⟨k, hk, rfl, hB⟩ := hrel
  by_cases hkl : k < l.length
  ·have hx : l[k]? = some l[k] := List.getElem?_eq_getElem hkl
   obtain ⟨g1, c1', A1', d1, e1, hg1, _, a0, a1, a2, a3, a4, a5, i1⟩ := (H1.out.later hB).at hx
   obtain ⟨g2, c2', A2', d2, e2, hg2, _, b0, b1, b2, b3, b4, b5, i2⟩ := (H2.out.later hB).at hx
   injection e1 with e1 _ q1
   injection e2 with e2 _ q2
   subst e1; subst e2; subst q1; subst q2
   have hgl := HG.out l[k] (List.getElem_mem hkl)
   generalize l[k] = y at a0 a1 a2 a3 a4 a5 b0 b1 b2 b3 b4 b5 i1 i2 hgl
   have hk0 : (0 : Int) ≤ (k : Int) := by omega
   have hk1 : (k : Int) < (l.length : Int) := by omega
   have HE := Lib.hid (fun V (hV : Below wr.heap.size wr V) => eqHf_same V y _ _ (i1.later hV) (i2.later hV) hgl)
   have HD := Lib.hid ((Below.refl wr.heap.size wr).drew)
   clear hx i1 i2 hgl
   go_wp2_with fail
   go_region_held3 (fun w' => Below wr.heap.size wr w' ∧ w'.cell? ⟨g1, k * 6, none⟩ = some (.int .i64 y.f) ∧ w'.cell? ⟨g1, k * 6 + 1, none⟩ = some (.int .i64 y.n) ∧ w'.cell? ⟨g1, k * 6 + 2, none⟩ = some (.int .i64 y.t) ∧ w'.cell? ⟨g1, k * 6 + 3, none⟩ = some (.int .i64 y.u) ∧ w'.cell? ⟨g1, k * 6 + 4, none⟩ = some (.int .i64 y.z) ∧ w'.cell? ⟨g1, k * 6 + 5, none⟩ = some (.slice A1' y.got.length d1) ∧ w'.cell? ⟨g2, k * 6, none⟩ = some (.int .i64 y.f) ∧ w'.cell? ⟨g2, k * 6 + 1, none⟩ = some (.int .i64 y.n) ∧ w'.cell? ⟨g2, k * 6 + 2, none⟩ = some (.int .i64 y.t) ∧ w'.cell? ⟨g2, k * 6 + 3, none⟩ = some (.int .i64 y.u) ∧ w'.cell? ⟨g2, k * 6 + 4, none⟩ = some (.int .i64 y.z) ∧ w'.cell? ⟨g2, k * 6 + 5, none⟩ = some (.slice A2' y.got.length d2)) (first | exact ⟨HD.out, a0, a1, a2, a3, a4, a5, b0, b1, b2, b3, b4, b5⟩ | exact ⟨HB3.out, s0, s1, s2, s3, s4, s5, r0, r1, r2, r3, r4, r5⟩ | go_keep) ((go_at_call 70; refine (HE.out _ HD.out).mono ?_; rintro e w2 ⟨rfl, hB2⟩; have HB3 := Lib.hid (HD.out.trans (hB2.mono HD.out.size)); have s0 := (HB3.out.cell (p := ⟨g1, k * 6, none⟩) hg1).trans a0; have s1 := (HB3.out.cell (p := ⟨g1, k * 6 + 1, none⟩) hg1).trans a1; have s2 := (HB3.out.cell (p := ⟨g1, k * 6 + 2, none⟩) hg1).trans a2; have s3 := (HB3.out.cell (p := ⟨g1, k * 6 + 3, none⟩) hg1).trans a3; have s4 := (HB3.out.cell (p := ⟨g1, k * 6 + 4, none⟩) hg1).trans a4; have s5 := (HB3.out.cell (p := ⟨g1, k * 6 + 5, none⟩) hg1).trans a5; have r0 := (HB3.out.cell (p := ⟨g2, k * 6, none⟩) hg2).trans b0; have r1 := (HB3.out.cell (p := ⟨g2, k * 6 + 1, none⟩) hg2).trans b1; have r2 := (HB3.out.cell (p := ⟨g2, k * 6 + 2, none⟩) hg2).trans b2; have r3 := (HB3.out.cell (p := ⟨g2, k * 6 + 3, none⟩) hg2).trans b3; have r4 := (HB3.out.cell (p := ⟨g2, k * 6 + 4, none⟩) hg2).trans b4; have r5 := (HB3.out.cell (p := ⟨g2, k * 6 + 5, none⟩) hg2).trans b5))
   have R := Lib.hid (hB.trans (HB3.out.mono hB.size))
   clear hB hB2 s0 s1 s2 s3 s4 s5 r0 r1 r2 r3 r4 r5 a0 a1 a2 a3 a4 a5 b0 b1 b2 b3 b4 b5
   go_wp2
   go_roundw
   case rel => exact ⟨k + 1, by omega, by go_num, R.out⟩
   case measure => simp [intOf]; omega
  ·obtain rfl : k = l.length := by omega
   go_wp2
   go_ret
   exact ⟨rfl, hB⟩
end Go.Proofs.YtckicpnnclbkpaaGreatDoor.hf

namespace Go.Proofs.YtckicpnnclbkpaaGreatDoor.sh
open Go.ChangeShapes Go.WideShapes Go.ChangeAt Go.RowKit Go.Deep
open nb wd
section
variable {H : Type} {enc : TypeId × Value → H} {w : World} {base b0 : Nat} {r : Reach} {spare : Nat → Bool} {held : Bool}
end
def SizePost (w : World) (l : Int) (s : ByteArray) (e : Ending) (w' : World) : Prop := e = .returned (.int .i64 (if l < s.size then -1 else l - s.size)) ∧ Below w.heap.size w w'
theorem szSh_any (s : ByteArray) (f : Int) (w : World) (hs : s.size ≤ maxLen) (l : Int) (h0 : 0 ≤ l) (h1 : l ≤ 1048576) :
  Calls Tryz.prog 26 #[shv s f, .int .i64 l] w (SizePost w l s) := by
 unfold maxLen at hs
 by_cases h : l < s.size
 ·have R := Lib.hid (show (if l < (s.size : Int) then (-1 : Int) else l - s.size) = -1 from if_pos h)
  go_enter Tryz.func26, Tryz.ntmps26
  go_wp2
  go_ret
  exact ⟨ret_int R.out.symm, (Below.refl _ _).alloc (Nat.le_refl _) _⟩
 ·have R := Lib.hid (show (if l < (s.size : Int) then (-1 : Int) else l - s.size) = l - s.size from if_neg h)
  have h' : ¬ l - (s.size : Int) < 0 := by omega
  go_enter Tryz.func26, Tryz.ntmps26
  go_wp2
  go_ret
  exact ⟨ret_int R.out.symm, (Below.refl _ _).alloc (Nat.le_refl _) _⟩
theorem toSh_any (s : ByteArray) (f : Int) (w : World) : Calls Tryz.prog 34 #[shv s f] w (ShPost w s f) := by
 go_enter Tryz.func34, Tryz.ntmps34
 go_wp2
 refine bodyPost_ret (v := shv s f) (by simp [results, Tryz.results34, go_sem]) rfl ⟨rfl, ?_⟩
 exact (((Below.refl _ _).alloc (Nat.le_refl _) _).alloc (by simp) _).alloc (by simp; omega) _
theorem eqSh_same (s : ByteArray) (f : Int) (w : World) : Calls Tryz.prog 37 #[shv s f, shv s f] w (BoolPost w true) := by
 go_enter Tryz.func37, Tryz.ntmps37
 go_wp2
 go_ret
 exact ⟨rfl, ((Below.refl _ _).alloc (Nat.le_refl _) _).alloc (by simp) _⟩
structure Box (w V : World) (s : ByteArray) (f : Int) : Prop where
 arg : Blk V w.heap.size 23 #[.string s, .int .i64 f]
 bel : Below w.heap.size w V
section
variable {w V V' : World} {s : ByteArray} {f : Int}
theorem Box.new (w : World) (s : ByteArray) (f : Int) : Box w (w.alloc (.cells #[.string s, .int .i64 f] 23)) s f := ⟨Blk.new w _ _, (Below.refl _ w).alloc (Nat.le_refl _) _⟩
theorem Box.later (h : Box w V s f) (hb : Below V.heap.size V V') : Box w V' s f := ⟨h.arg.below hb h.arg.lt, h.bel.trans (hb.mono h.bel.size)⟩
theorem Box.cells (h : Box w V s f) : V.cell? ⟨w.heap.size, 0, none⟩ = some (.string s) ∧ V.cell? ⟨w.heap.size, 1, none⟩ = some (.int .i64 f) := ⟨h.arg.cell 0, h.arg.cell 1⟩
end
end Go.Proofs.YtckicpnnclbkpaaGreatDoor.sh

namespace Go.Proofs.YtckicpnnclbkpaaGreatDoor.hf
open Go.ChangeShapes Go.WideShapes Go.ChangeAt Go.RowKit
open wd ow rl ok kp sh
abbrev nodeV (id : Int) (up : Bool) (s : ByteArray) (f : Int) (g : Value) : Value := .agg #[.int .i64 id, .bool up, .string s, .int .i64 f, g]
abbrev nodeC (id : Int) (up : Bool) (s : ByteArray) (f : Int) (g : Value) : Array Value := #[.int .i64 id, .bool up, .string s, .int .i64 f, g]
def SzNPost (w : World) (s : ByteArray) (l : List Hf) (e : Ending) (w' : World) : Prop :=
 ∃ r : Int, e = .returned (.int .i64 r) ∧ (0 ≤ r → s.size ≤ 1048576 ∧ FewT l) ∧ Below w.heap.size w w'
theorem size_room {s : ByteArray} : (0 : Int) ≤ (if (1048576 : Int) < (s.size : Int) then (-1 : Int) else 1048576 - s.size) → s.size ≤ 1048576 := by split <;> omega
theorem size_room2 {s : ByteArray} : (if (1048576 : Int) < (s.size : Int) then (-1 : Int) else 1048576 - s.size) ≤ 1048576 := by split <;> omega
set_option maxRecDepth 100000 in
set_option maxHeartbeats 1600000 in
theorem szNode_any (w : World) (id : Int) (up : Bool) (s : ByteArray) (f : Int) (g : Value) (l : List Hf) (hs : s.size ≤ maxLen) (h : InH w g l) :
  Calls Tryz.prog 8 #[nodeV id up s f g, .int .i64 1048576] w (SzNPost w s l) := by
 have HS := Lib.hid h
 obtain ⟨A, c, rfl, _⟩ := h.form
 have k0 := Blk.new w 26 (nodeC id up s f (.slice A l.length c))
 have B0 := (Below.refl w.heap.size w).alloc (Nat.le_refl _) (.cells (nodeC id up s f (.slice A l.length c)) 26)
 have H1 := Lib.hid (fun V => szSh_any s f V hs 1048576 (by omega) (by omega))
 unfold sh.SizePost at H1
 obtain ⟨r0, r1⟩ := And.intro (size_room (s := s)) (size_room2 (s := s))
 generalize (if (1048576 : Int) < (s.size : Int) then (-1 : Int) else 1048576 - s.size) = x at H1 r0 r1
 have R0 := Lib.hid r0
 clear h hs r0
 go_enter Tryz.func8, Tryz.ntmps8
 go_wp2_with fail
 generalize w.alloc (.cells (nodeC id up s f (.slice A l.length c)) 26) = V at k0 B0 ⊢
 generalize w.heap.size = rb at k0 ⊢
 refine (H1.out _).mono ?_
 rintro e w1 ⟨rfl, B1⟩
 have k1 := k0.below B1 k0.lt
 have HB := Lib.hid (B0.trans (B1.mono B0.size))
 clear k0 B0 B1
 by_cases hx : x < 0
 ·go_wp2
  go_ret
  exact ⟨_, rfl, fun h => absurd h (by omega), HB.out⟩
 ·have c4 := k1.cell 4
  simp only [List.getElem?_toArray, List.getElem?_cons_zero, List.getElem?_cons_succ] at c4
  have H2 := Lib.hid (szHfs_any w1 _ l (HS.out.later HB.out) x (by omega) r1)
  unfold SzHPost at H2
  go_wp2_with fail
  refine H2.out.mono ?_
  rintro e w2 ⟨y, rfl, y0, y1, y2, B2⟩
  have HB2 := Lib.hid (HB.out.trans (B2.mono HB.out.size))
  have Y := Lib.hid y2
  clear k1 B2 y2 c4 H2
  by_cases hy : y < 0
  ·go_wp2
   go_ret
   exact ⟨_, rfl, fun h => absurd h (by omega), HB2.out⟩
  ·go_wp2
   go_ret
   exact ⟨_, rfl, fun h => ⟨R0.out (by omega), Y.out h⟩, HB2.out⟩
theorem five5 {V : World} {R : Nat} {t : TypeId} {a b c d e : Value} (h : Blk V R t #[a, b, c, d, e]) : V.cell? ⟨R, 0, none⟩ = some a ∧ V.cell? ⟨R, 1, none⟩ = some b ∧ V.cell? ⟨R, 2, none⟩ = some c ∧ V.cell? ⟨R, 3, none⟩ = some d ∧ V.cell? ⟨R, 4, none⟩ = some e ∧
  V.frozen? ⟨R, 0, none⟩ = false ∧ V.frozen? ⟨R, 1, none⟩ = false ∧ V.frozen? ⟨R, 2, none⟩ = false ∧ V.frozen? ⟨R, 3, none⟩ = false ∧ V.frozen? ⟨R, 4, none⟩ = false :=
 ⟨h.cell 0, h.cell 1, h.cell 2, h.cell 3, h.cell 4, h.frozen 0, h.frozen 1, h.frozen 2, h.frozen 3, h.frozen 4⟩
set_option maxRecDepth 100000 in
set_option maxHeartbeats 1600000 in
theorem eqNode_same (w : World) (id : Int) (up : Bool) (s : ByteArray) (f : Int) (g1 g2 : Value) (l : List Hf) (h1 : SeesH w g1 l) (h2 : SeesH w g2 l) (hl : FewH l) :
  Calls Tryz.prog 12 #[nodeV id up s f g1, nodeV id up s f g2] w (YesPost w) := by
 have HE := Lib.hid (fun V => eqSh_same s f V)
 have k1 := (Blk.new w 32 (nodeC id up s f g1)).alloc (.cells (nodeC id up s f g2) 32)
 have k2 := Blk.new (w.alloc (.cells (nodeC id up s f g1) 32)) 32 (nodeC id up s f g2)
 have B0 := ((Below.refl w.heap.size w).alloc (Nat.le_refl _) (.cells (nodeC id up s f g1) 32)).alloc (by simp) (.cells (nodeC id up s f g2) 32)
 simp only [World.size_alloc] at k2
 have HH := Lib.hid (fun V (hV : Below w.heap.size w V) => eqHfs_same V g1 g2 l (h1.later hV) (h2.later hV) hl.1 hl.2)
 unfold YesPost at HH
 clear h1 h2 hl
 go_enter Tryz.func12, Tryz.ntmps12
 go_wp2_with fail
 generalize (w.alloc (.cells (nodeC id up s f g1) 32)).alloc (.cells (nodeC id up s f g2) 32) = V at k1 k2 B0 ⊢
 refine (HE.out _).mono ?_
 rintro e w1 ⟨rfl, B1⟩
 obtain ⟨_, _, _, _, c4, _⟩ := five5 (k1.below B1 k1.lt)
 obtain ⟨_, _, _, _, d4, _⟩ := five5 (k2.below B1 k2.lt)
 have HB := Lib.hid (B0.trans (B1.mono B0.size))
 clear k1 k2 B0 B1
 go_wp2_with fail
 refine (HH.out _ HB.out).mono ?_
 rintro e w2 ⟨rfl, B3⟩
 have HB2 := Lib.hid (HB.out.trans (B3.mono HB.out.size))
 clear c4 d4 B3
 go_wp2
 go_ret
 exact ⟨rfl, HB2.out⟩
structure ToN (w V : World) (id : Int) (up : Bool) (s : ByteArray) (f : Int) (ig : Value) (s' : ByteArray) (f' : Int) (g : Value) : Prop where
 arg : Blk V w.heap.size 26 #[.int .i64 id, .bool up, .string s, .int .i64 f, ig]
 res : Blk V (w.heap.size + 1) 32 #[.int .i64 0, .bool false, .string ⟨#[]⟩, .int .i64 0, .slice none 0 0]
 out : Blk V (w.heap.size + 1 + 1) 32 #[.int .i64 id, .bool up, .string s', .int .i64 f', g]
 bel : Below w.heap.size w V
section
variable {w V V' : World} {id : Int} {up : Bool} {s s' : ByteArray} {f f' : Int} {ig g : Value}
theorem ToN.new (w : World) (id : Int) (up : Bool) (s : ByteArray) (f : Int) (ig : Value) : ToN w (((w.alloc (.cells #[.int .i64 id, .bool up, .string s, .int .i64 f, ig] 26)).alloc (.cells #[.int .i64 0, .bool false, .string ⟨#[]⟩, .int .i64 0, .slice none 0 0] 32)).alloc (.cells #[.int .i64 id, .bool up, .string ⟨#[]⟩, .int .i64 0, .slice none 0 0] 32)) id up s f ig ⟨#[]⟩ 0 (.slice none 0 0) := by
 have k1 := Blk.new (w.alloc (.cells #[.int .i64 id, .bool up, .string s, .int .i64 f, ig] 26)) 32 #[.int .i64 0, .bool false, .string ⟨#[]⟩, .int .i64 0, .slice none 0 0]
 have k2 := Blk.new ((w.alloc (.cells #[.int .i64 id, .bool up, .string s, .int .i64 f, ig] 26)).alloc (.cells #[.int .i64 0, .bool false, .string ⟨#[]⟩, .int .i64 0, .slice none 0 0] 32)) 32 #[.int .i64 id, .bool up, .string ⟨#[]⟩, .int .i64 0, .slice none 0 0]
 simp only [World.size_alloc] at k1 k2
 exact ⟨((Blk.new w _ _).alloc _).alloc _, k1.alloc _, k2, (((Below.refl _ w).alloc (Nat.le_refl _) _).alloc (by simp) _).alloc (by simp; omega) _⟩
theorem ToN.later (h : ToN w V id up s f ig s' f' g) (hb : Below V.heap.size V V') : ToN w V' id up s f ig s' f' g := ⟨h.arg.below hb h.arg.lt, h.res.below hb h.res.lt, h.out.below hb h.out.lt, h.bel.trans (hb.mono h.bel.size)⟩
theorem ToN.put23 (h : ToN w V id up s f ig s' f' g) (a : ByteArray) (b : Int) : ToN w ((V.setCell ⟨w.heap.size + 1 + 1, 2, none⟩ (.string a)).setCell ⟨w.heap.size + 1 + 1, 3, none⟩ (.int .i64 b)) id up s f ig a b g :=
  ⟨(h.arg.far (p := ⟨w.heap.size + 1 + 1, 2, none⟩) (by show w.heap.size ≠ w.heap.size + 1 + 1; omega) _).far (p := ⟨w.heap.size + 1 + 1, 3, none⟩) (by show w.heap.size ≠ w.heap.size + 1 + 1; omega) _,
   (h.res.far (p := ⟨w.heap.size + 1 + 1, 2, none⟩) (by show w.heap.size + 1 ≠ w.heap.size + 1 + 1; omega) _).far (p := ⟨w.heap.size + 1 + 1, 3, none⟩) (by show w.heap.size + 1 ≠ w.heap.size + 1 + 1; omega) _,
   (h.out.put 2 _).put 3 _,
   (h.bel.setCell (p := ⟨w.heap.size + 1 + 1, 2, none⟩) (by show w.heap.size ≤ w.heap.size + 1 + 1; omega) _).setCell (p := ⟨w.heap.size + 1 + 1, 3, none⟩) (by show w.heap.size ≤ w.heap.size + 1 + 1; omega) _⟩
theorem ToN.put4 (h : ToN w V id up s f ig s' f' g) (x : Value) : ToN w (V.setCell ⟨w.heap.size + 1 + 1, 4, none⟩ x) id up s f ig s' f' x :=
 ⟨h.arg.far (p := ⟨w.heap.size + 1 + 1, 4, none⟩) (by show w.heap.size ≠ w.heap.size + 1 + 1; omega) _, h.res.far (p := ⟨w.heap.size + 1 + 1, 4, none⟩) (by show w.heap.size + 1 ≠ w.heap.size + 1 + 1; omega) _, h.out.put 4 x, h.bel.setCell (p := ⟨w.heap.size + 1 + 1, 4, none⟩) (by show w.heap.size ≤ w.heap.size + 1 + 1; omega) _⟩
end
structure OwnHAt (B : Nat) (w : World) (v : Value) (lr : List Hr) (l : List Hf) : Prop where
 row : OwnAt hrS 62 B w v lr
 len : lr.length = l.length
 got : ∀ (i : Nat) (r : Hr) (h : Hf), lr[i]? = some r → l[i]? = some h → Nums6 r h ∧ OwnAt mbS 97 B w r.v h.got
 far : ∀ (i : Nat) (r : Hr), lr[i]? = some r → Apart v r.v
 apart : ∀ (i j : Nat) (r r' : Hr), i ≠ j → lr[i]? = some r → lr[j]? = some r' → Apart r.v r'.v
section
variable {B B' : Nat} {w w0 w' : World} {v : Value} {lr : List Hr} {l : List Hf}
theorem OwnHs.at_ (h : OwnHs w0 w v lr l) : OwnHAt w0.heap.size w v lr l := ⟨h.row.1, h.len, h.got, h.far, h.apart⟩
theorem OwnHAt.of (h : OwnHAt B w v lr l) (hb : w0.heap.size ≤ B) (hB : Below w0.heap.size w0 w) : OwnHs w0 w v lr l :=
 ⟨⟨OwnAt.down h.row hb, hB⟩, h.len, fun i r x hr hx => ⟨(h.got i r x hr hx).1, OwnAt.down (h.got i r x hr hx).2 hb⟩, h.far, h.apart⟩
theorem OwnHAt.down (h : OwnHAt B w v lr l) (hb : B' ≤ B) : OwnHAt B' w v lr l :=
 ⟨OwnAt.down h.row hb, h.len, fun i r x hr hx => ⟨(h.got i r x hr hx).1, OwnAt.down (h.got i r x hr hx).2 hb⟩, h.far, h.apart⟩
theorem OwnHAt.set (h : OwnHAt B w v lr l) {p : Addr} (hp : p.block < B) (x : Value) : OwnHAt B (w.setCell p x) v lr l :=
 ⟨OwnAt.set h.row hp x, h.len, fun i r y hr hy => ⟨(h.got i r y hr hy).1, OwnAt.set (h.got i r y hr hy).2 hp x⟩, h.far, h.apart⟩
theorem OwnHAt.later (h : OwnHAt B w v lr l) (hb : Below w.heap.size w w') : OwnHAt B w' v lr l :=
 ⟨OwnAt.later h.row hb, h.len, fun i r y hr hy => ⟨(h.got i r y hr hy).1, OwnAt.later (h.got i r y hr hy).2 hb⟩, h.far, h.apart⟩
end
def NodePost (w : World) (id : Int) (up : Bool) (s : ByteArray) (f : Int) (l : List Hf) (e : Ending) (w' : World) : Prop :=
 ∃ v lr, e = .returned (nodeV id up s f v) ∧ OwnHs w w' v lr l
abbrev put5n (V : World) (R : Nat) (a b c d e : Value) : World := ((((V.setCell ⟨R, 0, none⟩ a).setCell ⟨R, 1, none⟩ b).setCell ⟨R, 2, none⟩ c).setCell ⟨R, 3, none⟩ d).setCell ⟨R, 4, none⟩ e
theorem put5n_blk {V : World} {R : Nat} {t : TypeId} {a b c d e a' b' c' d' e' : Value} (h : Blk V R t #[a, b, c, d, e]) : Blk (put5n V R a' b' c' d' e') R t #[a', b', c', d', e'] :=
 ((((h.put 0 a').put 1 b').put 2 c').put 3 d').put 4 e'
theorem put5n_below {w V : World} {B R : Nat} (hR : B ≤ R) (h : Below B w V) (a b c d e : Value) : Below B w (put5n V R a b c d e) :=
 ((((h.setCell (p := ⟨R, 0, none⟩) hR a).setCell (p := ⟨R, 1, none⟩) hR b).setCell (p := ⟨R, 2, none⟩) hR c).setCell (p := ⟨R, 3, none⟩) hR d).setCell (p := ⟨R, 4, none⟩) hR e
theorem put5n_own {B : Nat} {W : World} {v : Value} {lr : List Hr} {l : List Hf} (h : OwnHAt B W v lr l) {R : Nat} (hR : R < B) (a b c d e : Value) : OwnHAt B (put5n W R a b c d e) v lr l :=
 ((((h.set (p := ⟨R, 0, none⟩) hR a).set (p := ⟨R, 1, none⟩) hR b).set (p := ⟨R, 2, none⟩) hR c).set (p := ⟨R, 3, none⟩) hR d).set (p := ⟨R, 4, none⟩) hR e
set_option maxRecDepth 100000 in
set_option maxHeartbeats 1600000 in
theorem toNode_any (w : World) (id : Int) (up : Bool) (s : ByteArray) (f : Int) (g : Value) (l : List Hf) (h : InH w g l) (hl : FewH l) :
  Calls Tryz.prog 10 #[nodeV id up s f g] w (NodePost w id up s f l) := by
 have hT := ToN.new w id up s f g
 have HI := Lib.hid h
 have H1 := Lib.hid (fun V => toSh_any s f V)
 unfold ShPost at H1
 obtain ⟨A0, c0, rfl, _⟩ := h.form
 have hz : w.heap.size + 3 ≤ (((w.alloc (.cells #[.int .i64 id, .bool up, .string s, .int .i64 f, .slice A0 l.length c0] 26)).alloc (.cells #[.int .i64 0, .bool false, .string ⟨#[]⟩, .int .i64 0, .slice none 0 0] 32)).alloc (.cells #[.int .i64 id, .bool up, .string ⟨#[]⟩, .int .i64 0, .slice none 0 0] 32)).heap.size := by simp
 clear h
 go_enter Tryz.func10, Tryz.ntmps10
 go_wp2_with fail
 generalize ((w.alloc (.cells #[.int .i64 id, .bool up, .string s, .int .i64 f, .slice A0 l.length c0] 26)).alloc (.cells #[.int .i64 0, .bool false, .string ⟨#[]⟩, .int .i64 0, .slice none 0 0] 32)).alloc (.cells #[.int .i64 id, .bool up, .string ⟨#[]⟩, .int .i64 0, .slice none 0 0] 32) = V at hT hz ⊢
 refine (H1.out _).mono ?_
 rintro e w1 ⟨rfl, B1⟩
 have hT1 := hT.later B1
 have hz1 : w.heap.size + 3 ≤ w1.heap.size := Nat.le_trans hz B1.size
 have hT2 := hT1.put23 s f
 obtain ⟨_, _, o2, o3, _, _, _, f2, f3, _⟩ := five5 hT1.out
 obtain ⟨_, _, _, _, a4, _⟩ := five5 hT1.arg
 have HT := Lib.hid hT2
 have HZ := Lib.hid (show w.heap.size + 3 ≤ ((w1.setCell ⟨w.heap.size + 1 + 1, 2, none⟩ (.string s)).setCell ⟨w.heap.size + 1 + 1, 3, none⟩ (.int .i64 f)).heap.size by simp; exact hz1)
 clear hT hT1 hT2 B1 hz hz1
 go_wp2_with fail
 clear o2 o3 f2 f3 a4
 generalize (w1.setCell ⟨w.heap.size + 1 + 1, 2, none⟩ (.string s)).setCell ⟨w.heap.size + 1 + 1, 3, none⟩ (.int .i64 f) = V1 at HT HZ ⊢
 refine (toHfs_any _ _ _ (HI.out.later HT.out.bel) hl.1 hl.2).mono ?_
 rintro e w2 ⟨v, lr, rfl, hO⟩
 have hT3 := HT.out.later hO.bel
 have A1 : OwnHAt (w.heap.size + 3) w2 v lr l := hO.at_.down HZ.out
 have hT4 := hT3.put4 v
 have A2 := A1.set (p := ⟨w.heap.size + 1 + 1, 4, none⟩) (by show w.heap.size + 1 + 1 < w.heap.size + 3; omega) v
 obtain ⟨_, _, _, _, o4, _, _, _, _, f4⟩ := five5 hT3.out
 obtain ⟨p0, p1, p2, p3, p4, _, _, _, _, _⟩ := five5 hT4.out
 obtain ⟨r0, r1, r2, r3, r4, g0, g1, g2, g3, g4⟩ := five5 hT4.res
 have HC := Lib.hid (put5n_blk (a' := .int .i64 id) (b' := .bool up) (c' := .string s) (d' := .int .i64 f) (e' := v) hT4.res)
 have HE := Lib.hid (put5n_below (B := w.heap.size) (R := w.heap.size + 1) (Nat.le_succ _) hT4.bel (.int .i64 id) (.bool up) (.string s) (.int .i64 f) v)
 have HA := Lib.hid (put5n_own A2 (R := w.heap.size + 1) (by omega) (.int .i64 id) (.bool up) (.string s) (.int .i64 f) v)
 have hv : ∃ A c, v = .slice A l.length c := hO.sees.form
 obtain ⟨A, c, rfl⟩ := hv
 clear hT3 hT4 A1 A2 hO HT HZ
 go_wp2
 obtain ⟨x0, x1, x2, x3, x4, _, _, _, _, _⟩ := five5 HC.out
 refine bodyPost_ret (v := nodeV id up s f (.slice A l.length c)) (by simp [results, Tryz.results10, go_sem, x0, x1, x2, x3, x4]) rfl ⟨_, lr, rfl, HA.out.of (by omega) HE.out⟩
end Go.Proofs.YtckicpnnclbkpaaGreatDoor.hf

namespace Go.Proofs.YtckicpnnclbkpaaGreatDoor.hf
open nb kp
def okMb (m : Mb) : Bool := inB m.1 0 999 && decide (m.2.size = 4)
def mbAt (l : List Mb) (i : Nat) : Bool := match l[i]? with
 | some m => okMb m && !((l.take i).any fun x => x.1 == m.1)
 | none => true
def okMbs (l : List Mb) : Bool := allI l.length (mbAt l)
def hfHead (h : Hf) : Bool := inB h.f 0 3 && inB h.n 1 99 && inB h.t 0 3 && inB h.u 1 999 && inB h.z 1 24 && inB h.got.length 0 14
def okHf (h : Hf) : Bool := hfHead h && okMbs h.got
def sameHf (f n : Int) (x : Hf) : Bool := x.f == f && x.n == n
def hfAt (l : List Hf) (i : Nat) : Bool := match l[i]? with
 | some h => okHf h && !((l.take i).any (sameHf h.f h.n))
 | none => true
def okHfs (up : Bool) (l : List Hf) : Bool := decide (l.length ≤ 3) && (up || decide (l.length = 0)) && allI l.length (hfAt l)
theorem mbAt_bad {l : List Mb} {i : Nat} {m : Mb} (hm : l[i]? = some m) (h : okMb m = false) : mbAt l i = false := by
 unfold mbAt; rw [hm]; simp only [h, Bool.false_and]
theorem mbAt_twice {l : List Mb} {i : Nat} {m : Mb} (hm : l[i]? = some m) (h : (l.take i).any (fun x => x.1 == m.1) = true) : mbAt l i = false := by
 unfold mbAt; rw [hm]; simp only [h, Bool.not_true, Bool.and_false]
theorem mbAt_ok {l : List Mb} {i : Nat} {m : Mb} (hm : l[i]? = some m) (h : okMb m = true) (h2 : (l.take i).any (fun x => x.1 == m.1) = false) : mbAt l i = true := by
 unfold mbAt; rw [hm]; simp only [h, h2, Bool.not_false, Bool.and_true]
theorem hfAt_bad {l : List Hf} {i : Nat} {m : Hf} (hm : l[i]? = some m) (h : okHf m = false) : hfAt l i = false := by
 unfold hfAt; rw [hm]; simp only [h, Bool.false_and]
theorem hfAt_twice {l : List Hf} {i : Nat} {m : Hf} (hm : l[i]? = some m) (h : (l.take i).any (sameHf m.f m.n) = true) : hfAt l i = false := by
 unfold hfAt; rw [hm]; simp only [h, Bool.not_true, Bool.and_false]
theorem hfAt_ok {l : List Hf} {i : Nat} {m : Hf} (hm : l[i]? = some m) (h : okHf m = true) (h2 : (l.take i).any (sameHf m.f m.n) = false) : hfAt l i = true := by
 unfold hfAt; rw [hm]; simp only [h, h2, Bool.not_false, Bool.and_true]
theorem okHf_head {h : Hf} (k : hfHead h = false) : okHf h = false := by unfold okHf; rw [k]; rfl
theorem okHf_rest {h : Hf} (k : hfHead h = true) : okHf h = okMbs h.got := by unfold okHf; rw [k]; rfl
theorem any_take_on {α : Type} {l : List α} {p : α → Bool} {i k : Nat} {x : α} (hk : k < i) (hx : l[k]? = some x) (hp : p x = true) : (l.take i).any p = true := by
 rw [List.any_eq_true]
 exact ⟨x, List.mem_of_getElem? (show (l.take i)[k]? = some x by rw [List.getElem?_take_of_lt hk]; exact hx), hp⟩
end Go.Proofs.YtckicpnnclbkpaaGreatDoor.hf

namespace Go.Proofs.YtckicpnnclbkpaaGreatDoor.sh
open Go.ChangeShapes Go.WideShapes Go.ChangeAt Go.RowKit
open nb ok wd dc
theorem okL_f1 {l : List UInt8} {f : Int} (h : 2400 < l.length ∨ f < 0 ∨ (l.length : Int) < f) : ¬ okL l f := by unfold okL; omega
set_option maxRecDepth 100000 in
set_option maxHeartbeats 1000000 in
theorem sok_any (s : ByteArray) (f : Int) (w : World) (hs : s.size ≤ 8388608) :
  Calls Tryz.prog 29 #[shv s f] w (BoolPost w (okSh s f)) := by
 by_cases h1 : 2400 < s.size
 ·have HR := Lib.hid (okSh_f (s := s) (f := f) (okL_f1 (.inl (by rw [← Lib.size_eq]; exact h1))))
  have h1' : (2400 : Int) < s.size := by omega
  go_enter Tryz.func29, Tryz.ntmps29
  go_wp2
  go_ret
  exact ⟨by rw [HR.out]; rfl, (Below.refl _ _).alloc (Nat.le_refl _) _⟩
 have h1' : ¬ (2400 : Int) < s.size := by omega
 by_cases h2 : 0 ≤ f ∧ f ≤ s.size
 ·obtain ⟨m, rfl⟩ := Int.eq_ofNat_of_zero_le h2.1
  have hm : m ≤ s.size := by omega
  have HI := Lib.hid (fun W => in_any (m : Int) 0 (s.size : Int) W)
  rw [inB_t (by omega) (by omega)] at HI
  have b0 : (0 : Int) ≤ (m : Int) := by omega
  have b1 : (m : Int) ≤ (s.size : Int) := by omega
  have HA := Lib.hid (fun W => sread_any s hs W)
  have HB := Lib.hid (fun W => sread_any (s.extract 0 m) (by rw [ByteArray.size_extract]; omega) W)
  rw [ext_take] at HB
  have HR := Lib.hid (okSh_nat (s := s) (m := m) (by omega) hm)
  generalize hn1 : en s.data.toList = n1 at HA HR
  generalize hn2 : en (s.data.toList.take m) = n2 at HB HR
  unfold ReadPost at HA HB
  simp only [hn1] at HA
  simp only [hn2] at HB
  clear h2 hn1 hn2
  have hZ := Blk.new w 29 #[.string s, .int .i64 m]
  have hB0 := (Below.refl w.heap.size w).alloc (Nat.le_refl _) (.cells #[.string s, .int .i64 m] 29)
  go_enter Tryz.func29, Tryz.ntmps29
  go_wp2_with fail
  refine (HI.out _).mono ?_
  rintro e w1 ⟨rfl, rfl⟩
  go_wp2_with fail
  refine (HA.out _).mono ?_
  rintro e w2 ⟨v, rfl, hO⟩
  have hZ2 := hZ.below hO.2 hZ.lt
  have hB2 := hB0.trans (hO.2.mono hB0.size)
  have c0 := hZ2.cell 0
  have c1 := hZ2.cell 1
  simp only [List.getElem?_toArray, List.getElem?_cons_zero, List.getElem?_cons_succ] at c0 c1
  clear hO HA HI
  go_wp2_with fail
  refine (HB.out _).mono ?_
  rintro e w3 ⟨v', rfl, hO⟩
  have hZ3 := hZ2.below hO.2 hZ2.lt
  have HB3 := Lib.hid (hB2.trans (hO.2.mono hB2.size))
  have d0 := hZ3.cell 0
  have d1 := hZ3.cell 1
  simp only [List.getElem?_toArray, List.getElem?_cons_zero, List.getElem?_cons_succ] at d0 d1
  clear hO HB c0 c1 hZ2 hZ3 hB2 hB0 hZ
  by_cases e1 : n1 = s.size
  ·have k1 : ((n1 : Int) == (s.size : Int)) = true := by rw [beq_iff_eq]; omega
   by_cases e2 : n2 = m
   ·have k2 : ((n2 : Int) == (m : Int)) = true := by rw [beq_iff_eq]; omega
    go_wp2
    go_ret
    exact ⟨by rw [HR.out, e1, e2]; simp, HB3.out⟩
   ·have k2 : ((n2 : Int) == (m : Int)) = false := by rw [beq_eq_false_iff_ne]; omega
    go_wp2
    go_ret
    exact ⟨by rw [HR.out, show (n2 == m) = false by simpa using e2, Bool.and_false]; simp, HB3.out⟩
  ·have k1 : ((n1 : Int) == (s.size : Int)) = false := by rw [beq_eq_false_iff_ne]; omega
   go_wp2
   go_ret
   exact ⟨by rw [HR.out, show (n1 == s.size) = false by simpa using e1, Bool.false_and]; simp, HB3.out⟩
 ·have HR := Lib.hid (okSh_f (s := s) (f := f) (okL_f1 (by rw [← Lib.size_eq]; omega)))
  have HI := Lib.hid (fun W => in_any f 0 (s.size : Int) W)
  rw [inB_f (by omega)] at HI
  go_enter Tryz.func29, Tryz.ntmps29
  go_wp2_with fail
  refine (HI.out _).mono ?_
  rintro e w1 ⟨rfl, rfl⟩
  go_wp2
  go_ret
  exact ⟨by rw [HR.out]; rfl, (Below.refl _ _).alloc (Nat.le_refl _) _⟩
end Go.Proofs.YtckicpnnclbkpaaGreatDoor.sh

namespace Go.Proofs.YtckicpnnclbkpaaGreatDoor.sh
open Go.ChangeShapes Go.WideShapes Go.ChangeAt Go.RowKit
open nb ok wd dc
end Go.Proofs.YtckicpnnclbkpaaGreatDoor.sh

namespace Go.Proofs.YtckicpnnclbkpaaGreatDoor.sh
open nb dc
def allR (xs : List ByteArray) : Bool := xs.all fun x => inB x.size 1 60
theorem all_bad {xs : List ByteArray} {k : Nat} (h : k < xs.length) (hx : inB (xs[k].size : Int) 1 60 = false) : packOk xs = false := by
 unfold packOk
 have : (xs.all fun x => inB x.size 1 60) = false := by
  rw [List.all_eq_false]
  exact ⟨xs[k], List.getElem_mem h, by rw [hx]; simp⟩
 rw [this]; rfl
end Go.Proofs.YtckicpnnclbkpaaGreatDoor.sh

namespace Go.Proofs.YtckicpnnclbkpaaGreatDoor.sh
open nb dc
theorem ok_nat {s : ByteArray} {f : Int} (h : okSh s f = true) : ∃ m : Nat, f = (m : Int) ∧ m ≤ s.size ∧ s.size ≤ 2400 ∧ en s.data.toList = s.size ∧ en (s.data.toList.take m) = m := by
 obtain ⟨h1, h2, h3, h4, h5⟩ := okSh_iff.1 h
 obtain ⟨m, rfl⟩ := Int.eq_ofNat_of_zero_le h2
 rw [← Lib.size_eq] at h1 h3 h4
 simp only [Int.toNat_natCast] at h5
 exact ⟨m, rfl, by omega, h1, h4, h5⟩
theorem cut_law {l : List UInt8} (n : Nat) : en (l.take n) ≤ n ∧ (rd (l.take n)).length ≤ (rd l).length ∧ rd (l.take n) = (rd l).take (rd (l.take n)).length := by
 have h1 := en_le (l.take n)
 rw [List.length_take] at h1
 obtain ⟨c, hc⟩ := rd_take (l := l) n
 refine ⟨by omega, by rw [hc, List.length_append]; omega, ?_⟩
 rw [hc, List.take_left]
end Go.Proofs.YtckicpnnclbkpaaGreatDoor.sh

