/-
  Merged texts: RecPost, IAcc2.
-/
import Derived.Test.YtckicpnnclbkpaaGreatDoorE19
namespace Go.Proofs.YtckicpnnclbkpaaGreatDoor.kp
open Go.ChangeShapes Go.WideShapes Go.ChangeAt Go.RowKit
open wd ow rl ok nb dc
structure Sz (n : Nat) (k : Kp) : Prop where
 h : k.held.length ≤ n
 m : k.marks.length ≤ n
 i : k.inbox.length ≤ n
 ht : ∀ x ∈ k.held, x.s.size ≤ 1048576
 it : ∀ x ∈ k.inbox, x.s.size ≤ 1048576
theorem Sz.few {n : Nat} {k : Kp} (h : Sz n k) (hn : n ≤ 1048576) : k.held.length ≤ 1048576 ∧ k.marks.length ≤ 1048576 ∧ k.inbox.length ≤ 1048576 := ⟨Nat.le_trans h.h hn, Nat.le_trans h.m hn, Nat.le_trans h.i hn⟩
theorem Sz.texts {n : Nat} {k : Kp} (h : Sz n k) : (∀ x ∈ k.held, x.s.size ≤ maxLen) ∧ ∀ x ∈ k.inbox, x.s.size ≤ maxLen :=
 ⟨fun x hx => Nat.le_trans (h.ht x hx) (by unfold maxLen; omega), fun x hx => Nat.le_trans (h.it x hx) (by unfold maxLen; omega)⟩
theorem okNt_size {x : Nt} (h : okNt x = true) : x.s.size ≤ 1048576 := by
 obtain ⟨_, _, _, _, h5, _⟩ := okN_parts h
 omega
theorem sz_ok {k : Kp} (h : okK k = true) : Sz 12 k := by
 obtain ⟨_, _, _, h4, h5, h6, _⟩ := okK_parts h
 exact ⟨by have := (okNts_parts h4).1; omega, (okMks_parts h5).1, by have := (okNts_parts h6).1; omega, fun x hx => okNt_size (okNts_mem h4 hx), fun x hx => okNt_size (okNts_mem h6 hx)⟩
theorem Sz.up {n m : Nat} {k : Kp} (h : Sz n k) (hn : n ≤ m) : Sz m k := ⟨Nat.le_trans h.h hn, Nat.le_trans h.m hn, Nat.le_trans h.i hn, h.ht, h.it⟩
theorem mem_putL {α : Type} {p : α → Bool} {l : List α} {x y : α} (h : y ∈ putL p l x) : y = x ∨ y ∈ l := by
 unfold putL at h
 rw [List.mem_append, List.mem_cons] at h
 rcases h with h | h | h
 ·exact .inr (List.mem_of_mem_take h)
 ·exact .inl h
 ·exact .inr (List.mem_of_mem_drop h)
theorem mem_cutL {α : Type} {l : List α} {i : Nat} {y : α} (h : y ∈ cutL l i) : y ∈ l := by
 unfold cutL at h
 rw [List.mem_append] at h
 rcases h with h | h
 ·exact List.mem_of_mem_take h
 ·exact List.mem_of_mem_drop h
theorem cutL_le {α : Type} (l : List α) (i : Nat) : (cutL l i).length ≤ l.length := by
 unfold cutL
 rw [List.length_append, List.length_take, List.length_drop]
 omega
section
variable {n : Nat} {k : Kp}
theorem sz_time (h : Sz n k) (v : Int) : Sz n (timeS k v) :=
 ⟨Nat.le_trans (List.length_filter_le _ _) h.h, Nat.le_trans (List.length_filter_le _ _) h.m, h.i, fun x hx => h.ht x (List.mem_filter.1 hx).1, h.it⟩
theorem sz_held (h : Sz n k) {x : Nt} (hx : x.s.size ≤ 1048576) : Sz (n + 1) { k with held := putN k.held x } :=
 ⟨by show (putN k.held x).length ≤ _; rw [putN_len]; exact Nat.succ_le_succ h.h, Nat.le_succ_of_le h.m, Nat.le_succ_of_le h.i, fun y hy => by rcases mem_putL hy with rfl | h'; exact hx; exact h.ht y h', h.it⟩
theorem sz_inbox (h : Sz n k) {x : Nt} (hx : x.s.size ≤ 1048576) : Sz (n + 1) { k with inbox := putN k.inbox x } :=
 ⟨Nat.le_succ_of_le h.h, Nat.le_succ_of_le h.m, by show (putN k.inbox x).length ≤ _; rw [putN_len]; exact Nat.succ_le_succ h.i, h.ht, fun y hy => by rcases mem_putL hy with rfl | h'; exact hx; exact h.it y h'⟩
theorem sz_mark (h : Sz n k) (m : Mk) : Sz (n + 1) { k with marks := putM k.marks m } :=
 ⟨Nat.le_succ_of_le h.h, by show (putM k.marks m).length ≤ _; rw [putM_len]; exact Nat.succ_le_succ h.m, Nat.le_succ_of_le h.i, h.ht, h.it⟩
theorem sz_next (h : Sz n k) (v : Int) : Sz n { k with next := v } := ⟨h.h, h.m, h.i, h.ht, h.it⟩
theorem sz_take (h : Sz n k) {x : Nt} (hx : x.s.size ≤ 1048576) : Sz (n + 1) (takeS k x) := by
 unfold takeS
 split
 ·split
  ·have h1 := sz_inbox h hx
   have h2 := sz_mark h ⟨x.f, x.n, x.u⟩
   exact ⟨h1.h, h2.m, h1.i, h1.ht, h1.it⟩
  ·exact sz_held h hx
 ·exact h.up (Nat.le_succ _)
theorem sz_let (h : Sz n k) (i : Nat) (m : Mk) : Sz (n + 1) (letS k i m) :=
 ⟨Nat.le_succ_of_le (Nat.le_trans (cutL_le _ _) h.h), (sz_mark h m).m, Nat.le_succ_of_le h.i, fun y hy => h.ht y (mem_cutL hy), h.it⟩
theorem sz_eat (h : Sz n k) (i : Nat) : Sz n (eatS k i) :=
 ⟨h.h, h.m, Nat.le_trans (cutL_le _ _) h.i, h.ht, fun y hy => h.it y (mem_cutL hy)⟩
end
theorem CB.put2 {w V : World} {k : Kp} {a b c : Value} (h : CB w V k a b c) (v : Int) : CB w (V.setCell ⟨w.heap.size, 2, none⟩ (.int .i64 v)) { k with next := v } a b c := ⟨h.box.put 2 _, h.res.far (p := ⟨w.heap.size, 2, none⟩) (by show w.heap.size + 1 ≠ w.heap.size; omega) _, h.bel.setCell (p := ⟨w.heap.size, 2, none⟩) (Nat.le_refl _) _, by simpa using h.sz⟩
def RecPost (w : World) (k : Kp) (l : List UInt8) (e : Ending) (w' : World) : Prop := ∃ (k' : Kp) (b : Bool), RecP k l k' b ∧ Sz 14 k' ∧ ∃ vh vm vi, e = .returned (.tuple #[kpV k'.id k'.time k'.next vh vm vi, .bool b]) ∧ SeesK w' k' vh vm vi ∧ Below w.heap.size w w'
theorem sees_set {α : Type} {S : Shape α} {W : World} {v : Value} {l : List α} (p : Addr) (x : Value) (h : SeesR S W v l) (hp : v.ownBlock ≠ some p.block) : SeesR S (W.setCell p x) v l := by
 obtain ⟨A, c, rfl, hc⟩ := h
 refine ⟨A, c, rfl, ?_⟩
 rcases hc with hc | ⟨g, rfl, hg, hcell⟩
 ·exact .inl hc
 ·refine .inr ⟨g, rfl, by simpa using hg, fun i y hy j u hu => ?_⟩
  have e : (W.setCell p x).cell? ⟨g, i * S.n + j, none⟩ = W.cell? ⟨g, i * S.n + j, none⟩ := by
   apply World.cell?_setCell_other
   intro e
   apply hp
   rw [e]
   rfl
  rw [e]
  exact hcell i y hy j u hu
theorem sees_blk {α : Type} {S : Shape α} {W : World} {v : Value} {l : List α} (h : SeesR S W v l) {g : Nat} (hg : v.ownBlock = some g) : g < W.heap.size := by
 obtain ⟨A, c, rfl, hc⟩ := h
 rcases hc with ⟨rfl, _⟩ | ⟨g', rfl, hg', _⟩
 ·cases hg
 ·injection hg with hg
  exact hg ▸ hg'
theorem sees_put6 {α : Type} {S : Shape α} {W : World} {v : Value} {l : List α} {R : Nat} (h : SeesR S W v l) (hp : v.ownBlock ≠ some R) (a b c d e f : Value) : SeesR S (put6 W R a b c d e f) v l :=
 sees_set ⟨R, 5, none⟩ f (sees_set ⟨R, 4, none⟩ e (sees_set ⟨R, 3, none⟩ d (sees_set ⟨R, 2, none⟩ c (sees_set ⟨R, 1, none⟩ b (sees_set ⟨R, 0, none⟩ a h hp) hp) hp) hp) hp) hp
theorem From.ne {α : Type} {S : Shape α} {w0 w : World} {v v0 : Value} {l : List α} {R : Nat} (h : From w v v0) (hs : SeesR S w0 v0 l) (h0 : w0.heap.size ≤ R) (h1 : R < w.heap.size) : v.ownBlock ≠ some R := fun e => by
 rcases h R e with h | h
 ·omega
 ·have := sees_blk hs h
  omega
theorem OutK.put6 {w0 w w' : World} {k0 k : Kp} {a b c vh vm vi : Value} {R : Nat} (h : OutK w w' k a b c vh vm vi) (hs : SeesK w0 k0 a b c) (h0 : w0.heap.size ≤ R) (h1 : R < w.heap.size) (x0 x1 x2 x3 x4 x5 : Value) : SeesK (put6 w' R x0 x1 x2 x3 x4 x5) k vh vm vi :=
 ⟨sees_put6 h.sees.held (h.fh.ne hs.held h0 h1) _ _ _ _ _ _, sees_put6 h.sees.marks (h.fm.ne hs.marks h0 h1) _ _ _ _ _ _, sees_put6 h.sees.inbox (h.fi.ne hs.inbox h0 h1) _ _ _ _ _ _⟩
theorem cell_set {W : World} {g i R j : Nat} (h : g ≠ R) (x : Value) : (W.setCell ⟨R, j, none⟩ x).cell? ⟨g, i, none⟩ = W.cell? ⟨g, i, none⟩ := by
 apply World.cell?_setCell_other
 intro e
 injection e with e
 exact h e.symm
theorem cell_put6 {W : World} {g i R : Nat} (h : g ≠ R) (a b c d e f : Value) : (put6 W R a b c d e f).cell? ⟨g, i, none⟩ = W.cell? ⟨g, i, none⟩ := by
 unfold put6
 rw [cell_set h, cell_set h, cell_set h, cell_set h, cell_set h, cell_set h]
end Go.Proofs.YtckicpnnclbkpaaGreatDoor.kp

namespace Go.Proofs.YtckicpnnclbkpaaGreatDoor.kp
open Go.ChangeShapes Go.WideShapes Go.ChangeAt Go.RowKit
open wd ow rl ok nb nx
section
variable {g R : Nat} {W : World} {a b c v' : Value}
theorem from_off33 (hl : R < W.heap.size) (h : Off R a b c) (hF : From W v' a) : Off R v' b c := ⟨from_off hl h.1 hF, h.2.1, h.2.2⟩
theorem from_off34 (hl : R < W.heap.size) (h : Off R a b c) (hF : From W v' b) : Off R a v' c := ⟨h.1, from_off hl h.2.1 hF, h.2.2⟩
theorem from_off35 (hl : R < W.heap.size) (h : Off R a b c) (hF : From W v' c) : Off R a b v' := ⟨h.1, h.2.1, from_off hl h.2.2 hF⟩
end
theorem Own3.off_new {B : Nat} {W : World} {k : Kp} {a b c : Value} (h : Own3 B W k a b c) {R : Nat} (hR : W.heap.size ≤ R) : Off R a b c :=
 ⟨fun e => by have := (h.held.lt e).2; omega, fun e => by have := (h.marks.lt e).2; omega, fun e => by have := (h.inbox.lt e).2; omega⟩
structure FP (B : Nat) (W V : World) (r g : Nat) (a b c : Value) : Prop where
 bel : Below B W V
 size : B ≤ V.heap.size
 lt : r < V.heap.size
 eq : V.heap[r]? = W.heap[r]?
 off : Off r a b c
 ng : r ≠ g
def Fm (B : Nat) (W : World) (r : Nat) (w' : World) : Prop := Below B W w' ∧ w'.heap[r]? = W.heap[r]?
section
variable {B r g : Nat} {W V V' w' : World} {a b c v' : Value}
theorem FP.fm (h : FP B W V r g a b c) : Fm B W r V := ⟨h.bel, h.eq⟩
theorem FP.later (h : FP B W V r g a b c) (hb : Below V.heap.size V V') : FP B W V' r g a b c :=
 ⟨h.bel.trans (hb.mono h.size), Nat.le_trans h.size hb.size, Nat.lt_of_lt_of_le h.lt hb.size, (hb.block r h.lt).trans h.eq, h.off, h.ng⟩
theorem FP.put (h : FP B W V r g a b c) {row : Option Nat} (hG : V.grownBy w' row) (hr : row ≠ some r) (i : Nat) (x : Value) (hB : Below B V (w'.setCell ⟨g, i, none⟩ x)) : Below B W (w'.setCell ⟨g, i, none⟩ x) ∧ B ≤ (w'.setCell ⟨g, i, none⟩ x).heap.size ∧ r < (w'.setCell ⟨g, i, none⟩ x).heap.size ∧ (w'.setCell ⟨g, i, none⟩ x).heap[r]? = W.heap[r]? :=
 ⟨h.bel.trans hB, Nat.le_trans h.size hB.size, Nat.lt_of_lt_of_le h.lt hB.size, (Below.heap_setCell w' ⟨g, i, none⟩ x r h.ng).trans ((hG.block r h.lt (fun e => hr e.symm)).trans h.eq)⟩
theorem FP.mut3 (h : FP B W V r g a b c) (hG : V.grownBy w' a.ownBlock) (hF : From V v' a) (hB : Below B V (w'.setCell ⟨g, 3, none⟩ v')) : FP B W (w'.setCell ⟨g, 3, none⟩ v') r g v' b c := by
 obtain ⟨h1, h2, h3, h4⟩ := h.put hG h.off.1 3 v' hB
 exact ⟨h1, h2, h3, h4, ⟨from_off h.lt h.off.1 hF, h.off.2.1, h.off.2.2⟩, h.ng⟩
theorem FP.mut4 (h : FP B W V r g a b c) (hG : V.grownBy w' b.ownBlock) (hF : From V v' b) (hB : Below B V (w'.setCell ⟨g, 4, none⟩ v')) : FP B W (w'.setCell ⟨g, 4, none⟩ v') r g a v' c := by
 obtain ⟨h1, h2, h3, h4⟩ := h.put hG h.off.2.1 4 v' hB
 exact ⟨h1, h2, h3, h4, ⟨h.off.1, from_off h.lt h.off.2.1 hF, h.off.2.2⟩, h.ng⟩
theorem FP.mut5 (h : FP B W V r g a b c) (hG : V.grownBy w' c.ownBlock) (hF : From V v' c) (hB : Below B V (w'.setCell ⟨g, 5, none⟩ v')) : FP B W (w'.setCell ⟨g, 5, none⟩ v') r g a b v' := by
 obtain ⟨h1, h2, h3, h4⟩ := h.put hG h.off.2.2 5 v' hB
 exact ⟨h1, h2, h3, h4, ⟨h.off.1, h.off.2.1, from_off h.lt h.off.2.2 hF⟩, h.ng⟩
theorem FP.set (h : FP B W V r g a b c) (i : Nat) (x : Value) (hB : Below B V (V.setCell ⟨g, i, none⟩ x)) : FP B W (V.setCell ⟨g, i, none⟩ x) r g a b c :=
 ⟨h.bel.trans hB, Nat.le_trans h.size hB.size, Nat.lt_of_lt_of_le h.lt hB.size, (Below.heap_setCell V ⟨g, i, none⟩ x r h.ng).trans h.eq, h.off, h.ng⟩
theorem FP.new {k : Kp} (h : MK B W g k a b c) (hr : r < W.heap.size) (hng : r ≠ g) (ho : Off r a b c) : FP B W W r g a b c := ⟨Below.refl _ _, h.bW, hr, rfl, ho, hng⟩
end
def ChPost (B : Nat) (W : World) (g r : Nat) (o : Option Kp) (e : Ending) (w' : World) : Prop :=
 (∃ k' a b c, o = some k' ∧ e = .returned (.tuple #[]) ∧ MK B w' g k' a b c ∧ Fm B W r w' ∧ Off r a b c) ∨ (o = none ∧ e = Imp ∧ Fm B W r w')
section
variable {k : Kp} {x : Nt}
theorem takeO_stale (h : fresh k x = false) : takeO k x = none := by
 unfold takeO takeB; rw [h]; rfl
theorem takeO_full (h : ¬ (k.held.length : Int) + (k.marks.length : Int) < 12) : takeO k x = none := by
 unfold takeO
 rw [if_neg]
 intro hb
 unfold takeB at hb
 rw [Bool.and_eq_true] at hb
 obtain ⟨hf, hl⟩ := hb
 have hl := of_decide_eq_true hl
 unfold takeS at hl
 rw [if_pos hf] at hl
 split at hl
 ·simp only [putM_len] at hl; omega
 ·simp only [putN_len] at hl; omega
theorem takeO_in (hf : fresh k x = true) (hl : (k.held.length : Int) + (k.marks.length : Int) < 12) (ht : x.t = k.id) : takeO k x = some { k with inbox := putN k.inbox x, marks := putM k.marks ⟨x.f, x.n, x.u⟩ } := by
 have hs : takeS k x = { k with inbox := putN k.inbox x, marks := putM k.marks ⟨x.f, x.n, x.u⟩ } := by unfold takeS; rw [if_pos hf, if_pos ht]
 unfold takeO
 rw [if_pos, hs]
 unfold takeB
 rw [hs, hf]
 simp only [putM_len, Bool.true_and]
 exact decide_eq_true (by omega)
theorem takeO_held (hf : fresh k x = true) (hl : (k.held.length : Int) + (k.marks.length : Int) < 12) (ht : x.t ≠ k.id) : takeO k x = some { k with held := putN k.held x } := by
 have hs : takeS k x = { k with held := putN k.held x } := by unfold takeS; rw [if_pos hf, if_neg ht]
 unfold takeO
 rw [if_pos, hs]
 unfold takeB
 rw [hs, hf]
 simp only [putN_len, Bool.true_and]
 exact decide_eq_true (by omega)
theorem fresh_tt (hx : okNt x = true) (hu : k.time < x.u) (hp : (hasN k.held x.f x.n || hasN k.inbox x.f x.n) = false) (hq : hasM k.marks x.f x.n = false) : fresh k x = true := by
 rw [Bool.or_eq_false_iff] at hp
 unfold fresh
 rw [hx, decide_eq_true hu, hp.1, hp.2, hq]; rfl
end
set_option maxRecDepth 100000 in
set_option maxHeartbeats 4000000 in
theorem accept_any (B : Nat) (W : World) (g r : Nat) (k : Kp) (a b c : Value) (x : Nt) (h : MK B W g k a b c) (hx : okNt x = true) (hz : Sz 14 k) (hr : r < W.heap.size) (hng : r ≠ g) (hro : Off r a b c) :
  Calls Tryz.prog 172 #[.pointer (some ⟨g, 0, none⟩), ntV x] W (ChPost B W g r (takeO k x)) := by
 have hB0 := (Below.refl W.heap.size W).alloc (Nat.le_refl _) (.cells #[.int .i64 x.f, .int .i64 x.n, .int .i64 x.t, .int .i64 x.u, .string x.s] 105)
 have HR := Lib.hid (Blk.new W 105 #[.int .i64 x.f, .int .i64 x.n, .int .i64 x.t, .int .i64 x.u, .string x.s])
 have HM := Lib.hid (h.later hB0)
 have HOf := Lib.hid (h.own.off_new (Nat.le_refl W.heap.size))
 have HNg := Lib.hid (show W.heap.size ≠ g from by have := h.box.lt; omega)
 have HB := Lib.hid ((FP.new h hr hng hro).later hB0)
 have HL := Lib.hid (hz.few (show 14 ≤ 1048576 by omega))
 have HN := Lib.hid (fun V' (hM : MK B V' g k a b c) => hasNote_any V' g k a b c x hM.box hM.sees HL.out)
 have HH := Lib.hid (fun V' (hM : MK B V' g k a b c) => hasM_any V' b k.marks hM.sees.marks HL.out.2.1 x.f x.n x.u)
 have HQ := Lib.hid (fun V' => nmark_any x.f x.n x.t x.u x.s V')
 unfold BoolK ntV note at HN
 unfold BoolK mark at HH
 unfold AggPost mark note at HQ
 have HF := Lib.hid (fun (hu : k.time < x.u) (hp : (hasN k.held x.f x.n || hasN k.inbox x.f x.n) = false) (hq : hasM k.marks x.f x.n = false) => fresh_tt hx hu hp hq)
 have HT1 := Lib.hid (fun (hp : (hasN k.held x.f x.n || hasN k.inbox x.f x.n) = true) => takeO_stale (k := k) (x := x) (fresh_f (by rw [Bool.or_eq_true] at hp; rcases hp with hp | hp; exact .inr (.inr (.inl hp)); exact .inr (.inr (.inr (.inr hp))))))
 have HT2 := Lib.hid (fun (hq : hasM k.marks x.f x.n = true) => takeO_stale (k := k) (x := x) (fresh_f (.inr (.inr (.inr (.inl hq))))))
 obtain ⟨Aa, ca, rfl, _⟩ := h.sees.held
 obtain ⟨Ab, cb, rfl, _⟩ := h.sees.marks
 obtain ⟨Ac, cc, rfl, _⟩ := h.sees.inbox
 have hz14 := hz
 clear h hx hB0 hz hr hng hro
 unfold ntV note
 generalize hpp : (hasN k.held x.f x.n || hasN k.inbox x.f x.n) = p at HN HF HT1
 generalize hqq : hasM k.marks x.f x.n = q at HH HF HT2
 clear hpp hqq
 go_enter Tryz.func172, Tryz.ntmps172
 go_upto_region 1 with (fail)
 generalize W.alloc (.cells #[.int .i64 x.f, .int .i64 x.n, .int .i64 x.t, .int .i64 x.u, .string x.s] 105) = V at HR HM HB ⊢
 have HRb := Lib.hid (show W.heap.size = W.heap.size from rfl)
 generalize W.heap.size = rb at HR HOf HNg HRb ⊢
 clear HRb
 by_cases hu : k.time < x.u
 case neg =>
  have HE := Lib.hid (show takeO k x = none from takeO_stale (fresh_f (.inr (.inl hu))))
  have hd : decide (k.time < x.u) = false := decide_eq_false hu
  obtain ⟨d0, d1, d2, d3, d4, d5⟩ := qa.six HM.out.box
  obtain ⟨n0, n1, n2, n3, n4⟩ := qa.five HR.out
  refine wp_region_held_drew (S := (fun w' : World => ∃ p : qa.After V, w' = p.W)) (by kernel_rfl) ⟨⟨_, (Below.refl _ V).drew⟩, rfl⟩ (fun hHeld => ?_)
  have q0 : Below V.heap.size V V.drew := (Below.refl _ V).drew
  refine rs.w 0 4 ?_ rfl ?_ ?_
  rotate_left 1
  ·(rintro w ⟨pw, rfl⟩; go_simp; try with_reducible rfl)
  simp only [rs.a, rs.b, rs.c]
  refine rs.w 1 5 ?_ rfl ?_ ?_
  rotate_left 1
  ·(rintro w ⟨pw, rfl⟩; go_simp; try with_reducible rfl)
  simp only [rs.a, rs.b, rs.c]
  refine rs.w 2 6 ?_ rfl ?_ ?_
  rotate_left 1
  ·(rintro w ⟨pw, rfl⟩; go_simp; try with_reducible rfl)
  simp only [rs.a, rs.b, rs.c]
  refine rs.w 3 7 ?_ rfl ?_ ?_
  rotate_left 1
  ·(rintro w ⟨pw, rfl⟩; go_simp; try with_reducible rfl)
  simp only [rs.a, rs.b, rs.c]
  refine rs.w 4 8 ?_ rfl ?_ ?_
  rotate_left 1
  ·(rintro w ⟨pw, rfl⟩; go_simp; try with_reducible rfl)
  simp only [rs.a, rs.b, rs.c]
  refine rs.w 5 9 ?_ rfl ?_ ?_
  rotate_left 1
  ·(rintro w ⟨pw, rfl⟩; go_simp; try with_reducible rfl)
  simp only [rs.a, rs.b, rs.c]
  refine rs.w 6 10 ?_ rfl ?_ ?_
  rotate_left 1
  ·(rintro w ⟨pw, rfl⟩; go_simp; try with_reducible rfl)
  simp only [rs.a, rs.b, rs.c]
  refine wpAnyH_ready (rs := [7]) (by kernel_rfl) (by simp) ?_
  refine AllReadyH.cons rfl (fun K hK => ?_) AllReadyH.nil
  go_simp
  refine (require_f _).mono ?_
  rintro e w3 ⟨rfl, rfl⟩
  exact ⟨rfl, .inr ⟨HE.out, rfl, (HB.out.later q0).fm⟩⟩
 have hd : decide (k.time < x.u) = true := decide_eq_true hu
 obtain ⟨d0, d1, d2, d3, d4, d5⟩ := qa.six HM.out.box
 obtain ⟨n0, n1, n2, n3, n4⟩ := qa.five HR.out
 refine qa.region (by kernel_rfl) (by kernel_rfl) ?_
 repeat (go_big_quiet_step (first | (go_at_call 142; exact qa.of_same (require_t _))))
 refine wpQuiet_nil ?_
 rintro _ ⟨p1, rfl⟩
 clear d0 d1 d2 d3 d4 d5 n0 n1 n2 n3 n4
 have hM1 := Lib.hid (HM.out.later p1.h)
 have hR1 := Lib.hid (HR.out.below p1.h HR.out.lt)
 have hB1 := Lib.hid (HB.out.later p1.h)
 clear HM HR HB
 have HM := hM1
 have HR := hR1
 have HB := hB1
 clear hM1 hR1 hB1
 generalize p1.W = V1 at HM HR HB ⊢
 clear p1 V
 clear hd
 go_upto_region 2 with (fail)
 cases p with
 | true =>
  have HE := Lib.hid (HT1.out rfl)
  obtain ⟨d0, d1, d2, d3, d4, d5⟩ := qa.six HM.out.box
  obtain ⟨n0, n1, n2, n3, n4⟩ := qa.five HR.out
  refine wp_region_held_drew (S := (fun w' : World => ∃ p : qa.After V1, w' = p.W)) (by kernel_rfl) ⟨⟨_, (Below.refl _ V1).drew⟩, rfl⟩ (fun hHeld => ?_)
  have q0 : Below V1.heap.size V1 V1.drew := (Below.refl _ V1).drew
  refine rs.w 0 12 ?_ rfl ?_ ?_
  rotate_left 1
  ·(rintro w ⟨pw, rfl⟩; go_simp; try with_reducible rfl)
  simp only [rs.a, rs.b, rs.c]
  refine rs.w 1 13 ?_ rfl ?_ ?_
  rotate_left 1
  ·(rintro w ⟨pw, rfl⟩; go_simp; try with_reducible rfl)
  simp only [rs.a, rs.b, rs.c]
  refine wpAnyH_ready (rs := [2]) (by kernel_rfl) (by simp) ?_
  refine AllReadyH.cons rfl (fun K hK => ?_) AllReadyH.nil
  go_simp
  refine (HN.out _ (HM.out.later q0)).mono ?_
  rintro e u1 ⟨rfl, hu1⟩
  have q1 := q0.trans (hu1.mono q0.size)
  refine hK.out _ _ ⟨⟨_, q1⟩, rfl⟩ (fun hHeld => ?_)
  clear hK K
  refine rs.w 3 15 ?_ rfl ?_ ?_
  rotate_left 1
  ·(rintro w ⟨pw, rfl⟩; go_simp; try with_reducible rfl)
  simp only [rs.a, rs.b, rs.c]
  refine rs.w 4 16 ?_ rfl ?_ ?_
  rotate_left 1
  ·(rintro w ⟨pw, rfl⟩; go_simp; try with_reducible rfl)
  simp only [rs.a, rs.b, rs.c]
  refine rs.skip_take (i := 5) 17 rfl (by kernel_rfl) (by kernel_rfl) (by kernel_rfl) (fun _ _ _ _ h => h) rfl (by assumption) ?_
  simp only [rs.a, rs.b, rs.c]
  refine rs.skip_take (i := 6) 18 rfl (by kernel_rfl) (by kernel_rfl) (by kernel_rfl) (fun _ _ _ _ h => h) rfl (by assumption) ?_
  simp only [rs.a, rs.b, rs.c]
  refine rs.skip_take (i := 7) 19 rfl (by kernel_rfl) (by kernel_rfl) (by kernel_rfl) (fun _ _ _ _ h => h) rfl (by assumption) ?_
  simp only [rs.a, rs.b, rs.c]
  refine rs.skip_take (i := 8) 20 rfl (by kernel_rfl) (by kernel_rfl) (by kernel_rfl) (fun _ _ _ _ h => h) rfl (by assumption) ?_
  simp only [rs.a, rs.b, rs.c]
  refine rs.skip_take (i := 9) 21 rfl (by kernel_rfl) (by kernel_rfl) (by kernel_rfl) (fun _ _ _ _ h => h) rfl (by assumption) ?_
  simp only [rs.a, rs.b, rs.c]
  refine rs.skip_take (i := 10) 22 rfl (by kernel_rfl) (by kernel_rfl) (by kernel_rfl) (fun _ _ _ _ h => h) rfl (by assumption) ?_
  simp only [rs.a, rs.b, rs.c]
  refine rs.skip_take (i := 11) 23 rfl (by kernel_rfl) (by kernel_rfl) (by kernel_rfl) (fun _ _ _ _ h => h) rfl (by assumption) ?_
  simp only [rs.a, rs.b, rs.c]
  refine rs.skip_take (i := 12) 24 rfl (by kernel_rfl) (by kernel_rfl) (by kernel_rfl) (fun _ _ _ _ h => h) rfl (by assumption) ?_
  simp only [rs.a, rs.b, rs.c]
  refine rs.w 13 25 ?_ rfl ?_ ?_
  rotate_left 1
  ·(rintro w ⟨pw, rfl⟩; go_simp; try with_reducible rfl)
  simp only [rs.a, rs.b, rs.c]
  refine wpAnyH_ready (rs := [14]) (by kernel_rfl) (by simp) ?_
  refine AllReadyH.cons rfl (fun K hK => ?_) AllReadyH.nil
  go_simp
  refine (require_f _).mono ?_
  rintro e w3 ⟨rfl, rfl⟩
  exact ⟨rfl, .inr ⟨HE.out, rfl, (HB.out.later q1).fm⟩⟩
 | false =>
  cases q with
  | true =>
   have HE := Lib.hid (HT2.out rfl)
   obtain ⟨d0, d1, d2, d3, d4, d5⟩ := qa.six HM.out.box
   obtain ⟨n0, n1, n2, n3, n4⟩ := qa.five HR.out
   refine wp_region_held_drew (S := (fun w' : World => ∃ p : qa.After V1, w' = p.W)) (by kernel_rfl) ⟨⟨_, (Below.refl _ V1).drew⟩, rfl⟩ (fun hHeld => ?_)
   have q0 : Below V1.heap.size V1 V1.drew := (Below.refl _ V1).drew
   refine rs.w 0 12 ?_ rfl ?_ ?_
   rotate_left 1
   ·(rintro w ⟨pw, rfl⟩; go_simp; try with_reducible rfl)
   simp only [rs.a, rs.b, rs.c]
   refine rs.w 1 13 ?_ rfl ?_ ?_
   rotate_left 1
   ·(rintro w ⟨pw, rfl⟩; go_simp; try with_reducible rfl)
   simp only [rs.a, rs.b, rs.c]
   refine wpAnyH_ready (rs := [2]) (by kernel_rfl) (by simp) ?_
   refine AllReadyH.cons rfl (fun K hK => ?_) AllReadyH.nil
   go_simp
   refine (HN.out _ (HM.out.later q0)).mono ?_
   rintro e u1 ⟨rfl, hu1⟩
   have q1 := q0.trans (hu1.mono q0.size)
   refine hK.out _ _ ⟨⟨_, q1⟩, rfl⟩ (fun hHeld => ?_)
   clear hK K
   refine rs.w 3 15 ?_ rfl ?_ ?_
   rotate_left 1
   ·(rintro w ⟨pw, rfl⟩; go_simp; try with_reducible rfl)
   simp only [rs.a, rs.b, rs.c]
   refine rs.w 4 16 ?_ rfl ?_ ?_
   rotate_left 1
   ·(rintro w ⟨pw, rfl⟩; go_simp; try with_reducible rfl)
   simp only [rs.a, rs.b, rs.c]
   refine rs.w 5 17 ?_ rfl ?_ ?_
   rotate_left 1
   ·(rintro w ⟨pw, rfl⟩; go_simp; try with_reducible rfl)
   simp only [rs.a, rs.b, rs.c]
   refine rs.w 6 18 ?_ rfl ?_ ?_
   rotate_left 1
   ·(rintro w ⟨pw, rfl⟩; go_simp; try with_reducible rfl)
   simp only [rs.a, rs.b, rs.c]
   refine rs.w 7 19 ?_ rfl ?_ ?_
   rotate_left 1
   ·(rintro w ⟨pw, rfl⟩; go_simp; try with_reducible rfl)
   simp only [rs.a, rs.b, rs.c]
   refine rs.w 8 20 ?_ rfl ?_ ?_
   rotate_left 1
   ·(rintro w ⟨pw, rfl⟩; go_simp; try with_reducible rfl)
   simp only [rs.a, rs.b, rs.c]
   refine rs.w 9 21 ?_ rfl ?_ ?_
   rotate_left 1
   ·(rintro w ⟨pw, rfl⟩; go_simp; try with_reducible rfl)
   simp only [rs.a, rs.b, rs.c]
   refine wpAnyH_ready (rs := [10]) (by kernel_rfl) (by simp) ?_
   refine AllReadyH.cons rfl (fun K hK => ?_) AllReadyH.nil
   go_simp
   refine (HQ.out _).mono ?_
   rintro e u2 ⟨rfl, hu2⟩
   have q2 := q1.trans (hu2.mono q1.size)
   refine hK.out _ _ ⟨⟨_, q2⟩, rfl⟩ (fun hHeld => ?_)
   clear hK K
   refine wpAnyH_ready (rs := [11]) (by kernel_rfl) (by simp) ?_
   refine AllReadyH.cons rfl (fun K hK => ?_) AllReadyH.nil
   go_simp
   refine (HH.out _ (HM.out.later q2)).mono ?_
   rintro e u3 ⟨rfl, hu3⟩
   have q3 := q2.trans (hu3.mono q2.size)
   refine hK.out _ _ ⟨⟨_, q3⟩, rfl⟩ (fun hHeld => ?_)
   clear hK K
   refine rs.w 12 24 ?_ rfl ?_ ?_
   rotate_left 1
   ·(rintro w ⟨pw, rfl⟩; go_simp; try with_reducible rfl)
   simp only [rs.a, rs.b, rs.c]
   refine rs.w 13 25 ?_ rfl ?_ ?_
   rotate_left 1
   ·(rintro w ⟨pw, rfl⟩; go_simp; try with_reducible rfl)
   simp only [rs.a, rs.b, rs.c]
   refine wpAnyH_ready (rs := [14]) (by kernel_rfl) (by simp) ?_
   refine AllReadyH.cons rfl (fun K hK => ?_) AllReadyH.nil
   go_simp
   refine (require_f _).mono ?_
   rintro e w3 ⟨rfl, rfl⟩
   exact ⟨rfl, .inr ⟨HE.out, rfl, (HB.out.later q3).fm⟩⟩
  | false =>
   have hfr := HF.out hu rfl rfl
   obtain ⟨d0, d1, d2, d3, d4, d5⟩ := qa.six HM.out.box
   obtain ⟨n0, n1, n2, n3, n4⟩ := qa.five HR.out
   refine qa.region (by kernel_rfl) (by kernel_rfl) ?_
   repeat (go_big_quiet_step (first | (go_at_call 142; exact qa.of_same (require_t _)) | (go_at_call 167; exact qa.of_below (HQ.out _)) | (go_at_call 175; with_reducible exact qa.of_below (HN.out _ (HM.out.later (qa.After.h _)))) | (go_at_call 169; with_reducible exact qa.of_below (HH.out _ (HM.out.later (qa.After.h _))))))
   refine wpQuiet_nil ?_
   rintro _ ⟨p1, rfl⟩
   clear d0 d1 d2 d3 d4 d5 n0 n1 n2 n3 n4
   have hM1 := Lib.hid (HM.out.later p1.h)
   have hR1 := Lib.hid (HR.out.below p1.h HR.out.lt)
   have hB1 := Lib.hid (HB.out.later p1.h)
   clear HM HR HB
   have HM := hM1
   have HR := hR1
   have HB := hB1
   clear hM1 hR1 hB1
   generalize p1.W = V2 at HM HR HB ⊢
   clear p1 V1
   have hw : IntKind.i64.wrap ((k.held.length : Int) + (k.marks.length : Int)) = (k.held.length : Int) + (k.marks.length : Int) := by have := HL.out; rw [IntKind.wrap_i64]; omega
   clear HN HH HT1 HT2 HF
   go_upto_region 3 with (fail)
   by_cases hl : (k.held.length : Int) + (k.marks.length : Int) < 12
   case neg =>
    have HE := Lib.hid (takeO_full (k := k) (x := x) hl)
    have hd : decide ((k.held.length : Int) + (k.marks.length : Int) < 12) = false := decide_eq_false hl
    obtain ⟨d0, d1, d2, d3, d4, d5⟩ := qa.six HM.out.box
    obtain ⟨n0, n1, n2, n3, n4⟩ := qa.five HR.out
    refine wp_region_held_drew (S := (fun w' : World => ∃ p : qa.After V2, w' = p.W)) (by kernel_rfl) ⟨⟨_, (Below.refl _ V2).drew⟩, rfl⟩ (fun hHeld => ?_)
    have q0 : Below V2.heap.size V2 V2.drew := (Below.refl _ V2).drew
    refine rs.w 0 27 ?_ rfl ?_ ?_
    rotate_left 1
    ·(rintro w ⟨pw, rfl⟩; go_simp; try with_reducible rfl)
    simp only [rs.a, rs.b, rs.c]
    refine rs.w 1 28 ?_ rfl ?_ ?_
    rotate_left 1
    ·(rintro w ⟨pw, rfl⟩; go_simp; try with_reducible rfl)
    simp only [rs.a, rs.b, rs.c]
    refine rs.w 2 29 ?_ rfl ?_ ?_
    rotate_left 1
    ·(rintro w ⟨pw, rfl⟩; go_simp; try with_reducible rfl)
    simp only [rs.a, rs.b, rs.c]
    refine rs.w 3 30 ?_ rfl ?_ ?_
    rotate_left 1
    ·(rintro w ⟨pw, rfl⟩; go_simp; try with_reducible rfl)
    simp only [rs.a, rs.b, rs.c]
    refine rs.w 4 31 ?_ rfl ?_ ?_
    rotate_left 1
    ·(rintro w ⟨pw, rfl⟩; go_simp; try with_reducible rfl)
    simp only [rs.a, rs.b, rs.c]
    refine rs.w 5 32 ?_ rfl ?_ ?_
    rotate_left 1
    ·(rintro w ⟨pw, rfl⟩; go_simp; try with_reducible rfl)
    simp only [rs.a, rs.b, rs.c]
    refine rs.w 6 33 ?_ rfl ?_ ?_
    rotate_left 1
    ·(rintro w ⟨pw, rfl⟩; go_simp; try with_reducible rfl)
    simp only [rs.a, rs.b, rs.c]
    refine rs.w 7 34 ?_ rfl ?_ ?_
    rotate_left 1
    ·(rintro w ⟨pw, rfl⟩; go_simp; try with_reducible rfl)
    simp only [rs.a, rs.b, rs.c]
    refine rs.w 8 35 ?_ rfl ?_ ?_
    rotate_left 1
    ·(rintro w ⟨pw, rfl⟩; go_simp; try with_reducible rfl)
    simp only [rs.a, rs.b, rs.c]
    refine rs.w 9 36 ?_ rfl ?_ ?_
    rotate_left 1
    ·(rintro w ⟨pw, rfl⟩; go_simp; try with_reducible rfl)
    simp only [rs.a, rs.b, rs.c]
    refine rs.w 10 37 ?_ rfl ?_ ?_
    rotate_left 1
    ·(rintro w ⟨pw, rfl⟩; go_simp; try with_reducible rfl)
    simp only [rs.a, rs.b, rs.c]
    refine rs.w 11 38 ?_ rfl ?_ ?_
    rotate_left 1
    ·(rintro w ⟨pw, rfl⟩; go_simp; try with_reducible rfl)
    simp only [rs.a, rs.b, rs.c]
    refine wpAnyH_ready (rs := [12]) (by kernel_rfl) (by simp) ?_
    refine AllReadyH.cons rfl (fun K hK => ?_) AllReadyH.nil
    go_simp
    refine (require_f _).mono ?_
    rintro e w3 ⟨rfl, rfl⟩
    exact ⟨rfl, .inr ⟨HE.out, rfl, (HB.out.later q0).fm⟩⟩
   have hd : decide ((k.held.length : Int) + (k.marks.length : Int) < 12) = true := decide_eq_true hl
   obtain ⟨d0, d1, d2, d3, d4, d5⟩ := qa.six HM.out.box
   obtain ⟨n0, n1, n2, n3, n4⟩ := qa.five HR.out
   refine qa.region (by kernel_rfl) (by kernel_rfl) ?_
   repeat (go_big_quiet_step (first | (go_at_call 142; exact qa.of_same (require_t _))))
   refine wpQuiet_nil ?_
   rintro _ ⟨p1, rfl⟩
   clear d0 d1 d2 d3 d4 d5 n0 n1 n2 n3 n4
   have hM1 := Lib.hid (HM.out.later p1.h)
   have hR1 := Lib.hid (HR.out.below p1.h HR.out.lt)
   have hB1 := Lib.hid (HB.out.later p1.h)
   clear HM HR HB
   have HM := hM1
   have HR := hR1
   have HB := hB1
   clear hM1 hR1 hB1
   generalize p1.W = V3 at HM HR HB ⊢
   clear p1 V2
   clear hd hw
   go_upto_region 4 with (fail)
   by_cases ht : x.t = k.id
   case pos =>
    have HE := Lib.hid (takeO_in hfr hl ht)
    have hq : (x.t == k.id) = true := beq_iff_eq.2 ht
    clear ht hl hfr
    obtain ⟨d0, d1, d2, d3, d4, d5⟩ := qa.six HM.out.box
    obtain ⟨n0, n1, n2, n3, n4⟩ := qa.five HR.out
    refine qa.region (by kernel_rfl) (by kernel_rfl) ?_
    repeat (go_big_quiet_step (fail))
    refine wpQuiet_nil ?_
    rintro _ ⟨p1, rfl⟩
    clear d0 d1 d2 d3 d4 d5 n0 n1 n2 n3 n4
    have hM1 := Lib.hid (HM.out.later p1.h)
    have hR1 := Lib.hid (HR.out.below p1.h HR.out.lt)
    have hB1 := Lib.hid (HB.out.later p1.h)
    clear HM HR HB
    have HM := hM1
    have HR := hR1
    have HB := hB1
    clear hM1 hR1 hB1
    generalize p1.W = V4 at HM HR HB ⊢
    clear p1 V3
    clear hq
    go_upto_region 5 with (fail)
    have hb0 := (Below.refl V4.heap.size V4).drew
    refine wp_region_held_drew (S := (fun w' : World => Blk w' rb 105 #[.int .i64 x.f, .int .i64 x.n, .int .i64 x.t, .int .i64 x.u, .string x.s])) (by kernel_rfl) (HR.out.below hb0 HR.out.lt) (fun hHeld => ?_)
    clear hHeld
    have HMd := Lib.hid (HM.out.later hb0)
    have HRd := Lib.hid (HR.out.below hb0 HR.out.lt)
    have HBd := Lib.hid (HB.out.later hb0)
    clear hb0
    generalize V4.drew = Z at HMd HRd HBd ⊢
    have hRd := HRd.out
    obtain ⟨k0, k1, k2, k3, k4, k5⟩ := KBox.cells HMd.out.box
    refine rs.w 0 47 ?_ rfl ?_ ?_
    rotate_left 1
    ·(intro w hSw; obtain ⟨n0, n1, n2, n3, n4⟩ := nt_cells hSw; go_simp; try with_reducible rfl)
    simp only [rs.a, rs.b, rs.c]
    refine rs.w 1 48 ?_ rfl ?_ ?_
    rotate_left 1
    ·(intro w hSw; obtain ⟨n0, n1, n2, n3, n4⟩ := nt_cells hSw; go_simp; try with_reducible rfl)
    simp only [rs.a, rs.b, rs.c]
    refine rs.w 2 49 ?_ rfl ?_ ?_
    rotate_left 1
    ·(intro w hSw; obtain ⟨n0, n1, n2, n3, n4⟩ := nt_cells hSw; go_simp; try with_reducible rfl)
    simp only [rs.a, rs.b, rs.c]
    refine rs.w 3 50 ?_ rfl ?_ ?_
    rotate_left 1
    ·(intro w hSw; obtain ⟨n0, n1, n2, n3, n4⟩ := nt_cells hSw; go_simp; try with_reducible rfl)
    simp only [rs.a, rs.b, rs.c]
    refine rs.w 5 52 ?_ rfl ?_ ?_
    rotate_left 1
    ·(intro w hSw; obtain ⟨n0, n1, n2, n3, n4⟩ := nt_cells hSw; go_simp; try with_reducible rfl)
    simp only [rs.a, rs.b, rs.c]
    refine wpAnyH_ready (rs := [4]) (by kernel_rfl) (by simp) ?_
    refine AllReadyH.cons rfl (fun K hK => ?_) AllReadyH.nil
    go_simp
    refine hK.out _ _ HRd.out (fun hHeld => ?_)
    clear hK K hHeld
    refine wpAnyH_ready (rs := [6]) (by kernel_rfl) (by simp) ?_
    refine AllReadyH.cons rfl (fun K hK => ?_) AllReadyH.nil
    go_simp
    refine (insertN_any Z B _ k.inbox x HMd.out.own.inbox HMd.out.bW HL.out.2.2).mono ?_
    rintro e w2 ⟨v', rfl, hO2, hG2, hF2⟩
    obtain ⟨A2, c2, rfl⟩ := OwnAt.form hO2
    obtain ⟨hM3, hB3⟩ := MK.mut5 HMd.out hO2 hG2 hF2
    have box2 := blk_row HMd.out.box hG2 HMd.out.off.2.2
    have s0 := box2.cell 5
    have f0 := box2.frozen 5
    simp only [List.getElem?_toArray, List.getElem?_cons_zero, List.getElem?_cons_succ] at s0
    have HR2 := Lib.hid (blk_row HRd.out hG2 HOf.out.2.2)
    have HM3 := Lib.hid hM3
    have HB3 := Lib.hid (HBd.out.mut5 hG2 hF2 hB3)
    have HOf3 := Lib.hid (from_off35 HRd.out.lt HOf.out hF2)
    clear hO2 hG2 hF2 hM3 hB3 box2
    refine hK.out _ _ HR2.out (fun hHeld => ?_)
    clear hK K hHeld k0 k1 k2 k3 k4 k5 hRd
    have hR2 := HR2.out
    refine rs.w 7 54 ?_ rfl ?_ ?_
    rotate_left 1
    ·(intro w hSw; obtain ⟨n0, n1, n2, n3, n4⟩ := nt_cells hSw; go_simp; try with_reducible rfl)
    simp only [rs.a, rs.b, rs.c]
    refine rs.w 8 55 ?_ rfl ?_ ?_
    rotate_left 1
    ·(intro w hSw; obtain ⟨n0, n1, n2, n3, n4⟩ := nt_cells hSw; go_simp; try with_reducible rfl)
    simp only [rs.a, rs.b, rs.c]
    refine wpAnyH_ready (rs := [9]) (by kernel_rfl) (by simp) ?_
    refine AllReadyH.cons rfl (fun K hK => ?_) AllReadyH.nil
    go_simp
    refine hK.out _ _ (HR2.out.far (p := ⟨g, 5, none⟩) HNg.out _) (fun hHeld => ?_)
    clear hK K hHeld s0 f0 hR2
    refine wpAnyH_done (by kernel_rfl) ?_ _
    have HR3 := Lib.hid (HR2.out.far (p := ⟨g, 5, none⟩) HNg.out (.slice A2 (putN k.inbox x).length c2))
    clear HM HR HB HMd HRd HBd HR2 HOf
    have HM := HM3
    have HR := HR3
    have HB := HB3
    have HOf := HOf3
    clear HM3 HR3 HB3 HOf3
    generalize w2.setCell ⟨g, 5, none⟩ (.slice A2 (putN k.inbox x).length c2) = V5 at HM HR HB ⊢
    clear V4 Z w2
    generalize (putN k.inbox x).length = nl at HM HOf HB ⊢
    go_upto_region 6 with (fail)
    have hb0 := (Below.refl V5.heap.size V5).drew
    refine wp_region_held_drew (S := (fun w' : World => Blk w' rb 105 #[.int .i64 x.f, .int .i64 x.n, .int .i64 x.t, .int .i64 x.u, .string x.s])) (by kernel_rfl) (HR.out.below hb0 HR.out.lt) (fun hHeld => ?_)
    clear hHeld
    have HMd := Lib.hid (HM.out.later hb0)
    have HRd := Lib.hid (HR.out.below hb0 HR.out.lt)
    have HBd := Lib.hid (HB.out.later hb0)
    clear hb0
    generalize V5.drew = Z at HMd HRd HBd ⊢
    have hRd := HRd.out
    obtain ⟨k0, k1, k2, k3, k4, k5⟩ := KBox.cells HMd.out.box
    refine rs.w 0 56 ?_ rfl ?_ ?_
    rotate_left 1
    ·(intro w hSw; obtain ⟨n0, n1, n2, n3, n4⟩ := nt_cells hSw; go_simp; try with_reducible rfl)
    simp only [rs.a, rs.b, rs.c]
    refine rs.w 1 57 ?_ rfl ?_ ?_
    rotate_left 1
    ·(intro w hSw; obtain ⟨n0, n1, n2, n3, n4⟩ := nt_cells hSw; go_simp; try with_reducible rfl)
    simp only [rs.a, rs.b, rs.c]
    refine rs.w 2 58 ?_ rfl ?_ ?_
    rotate_left 1
    ·(intro w hSw; obtain ⟨n0, n1, n2, n3, n4⟩ := nt_cells hSw; go_simp; try with_reducible rfl)
    simp only [rs.a, rs.b, rs.c]
    refine rs.w 3 59 ?_ rfl ?_ ?_
    rotate_left 1
    ·(intro w hSw; obtain ⟨n0, n1, n2, n3, n4⟩ := nt_cells hSw; go_simp; try with_reducible rfl)
    simp only [rs.a, rs.b, rs.c]
    refine rs.w 5 61 ?_ rfl ?_ ?_
    rotate_left 1
    ·(intro w hSw; obtain ⟨n0, n1, n2, n3, n4⟩ := nt_cells hSw; go_simp; try with_reducible rfl)
    simp only [rs.a, rs.b, rs.c]
    refine wpAnyH_ready (rs := [4, 6]) (by kernel_rfl) (by simp) ?_
    refine AllReadyH.cons rfl (fun K hK => ?_) (AllReadyH.cons rfl (fun K hK => ?_) AllReadyH.nil)
    ·skip
     go_simp
     refine hK.out _ _ HRd.out (fun hHeld => ?_)
     clear hK K hHeld
     refine wpAnyH_ready (rs := [6]) (by kernel_rfl) (by simp) ?_
     refine AllReadyH.cons rfl (fun K hK => ?_) AllReadyH.nil
     go_simp
     refine (HQ.out _).mono ?_
     rintro e u1 ⟨rfl, hu1⟩
     have hR1 := HRd.out.below hu1 HRd.out.lt
     have hM1 := HMd.out.later hu1
     have hB1 := HBd.out.later hu1
     refine hK.out _ _ hR1 (fun hHeld => ?_)
     clear hK K hHeld HRd HMd HBd hRd k0 k1 k2 k3 k4 k5
     have HRd := Lib.hid hR1
     have HMd := Lib.hid hM1
     have HBd := Lib.hid hB1
     clear hR1 hM1 hB1 hu1
     have hRd := HRd.out
     obtain ⟨k0, k1, k2, k3, k4, k5⟩ := KBox.cells HMd.out.box
     clear Z
     refine wpAnyH_ready (rs := [7]) (by kernel_rfl) (by simp) ?_
     refine AllReadyH.cons rfl (fun K hK => ?_) AllReadyH.nil
     go_simp
     refine (insertM_any u1 B _ k.marks ⟨x.f, x.n, x.u⟩ HMd.out.own.marks HMd.out.bW HL.out.2.1).mono ?_
     rintro e w2 ⟨v', rfl, hO2, hG2, hF2⟩
     obtain ⟨A2, c2, rfl⟩ := OwnAt.form hO2
     obtain ⟨hM3, hB3⟩ := MK.mut4 HMd.out hO2 hG2 hF2
     have box2 := blk_row HMd.out.box hG2 HMd.out.off.2.1
     have s0 := box2.cell 4
     have f0 := box2.frozen 4
     simp only [List.getElem?_toArray, List.getElem?_cons_zero, List.getElem?_cons_succ] at s0
     have HR2 := Lib.hid (blk_row HRd.out hG2 HOf.out.2.1)
     have HM3 := Lib.hid hM3
     have HB3 := Lib.hid (HBd.out.mut4 hG2 hF2 hB3)
     have HOf3 := Lib.hid (from_off34 HRd.out.lt HOf.out hF2)
     clear hO2 hG2 hF2 hM3 hB3 box2
     refine hK.out _ _ HR2.out (fun hHeld => ?_)
     clear hK K hHeld k0 k1 k2 k3 k4 k5 hRd
     have hR2 := HR2.out
     refine rs.w 8 64 ?_ rfl ?_ ?_
     rotate_left 1
     ·(intro w hSw; obtain ⟨n0, n1, n2, n3, n4⟩ := nt_cells hSw; go_simp; try with_reducible rfl)
     simp only [rs.a, rs.b, rs.c]
     refine rs.w 9 65 ?_ rfl ?_ ?_
     rotate_left 1
     ·(intro w hSw; obtain ⟨n0, n1, n2, n3, n4⟩ := nt_cells hSw; go_simp; try with_reducible rfl)
     simp only [rs.a, rs.b, rs.c]
     refine wpAnyH_ready (rs := [10]) (by kernel_rfl) (by simp) ?_
     refine AllReadyH.cons rfl (fun K hK => ?_) AllReadyH.nil
     go_simp
     refine hK.out _ _ (HR2.out.far (p := ⟨g, 4, none⟩) HNg.out _) (fun hHeld => ?_)
     clear hK K hHeld s0 f0 hR2
     refine wpAnyH_done (by kernel_rfl) ?_ _
     have HZ := Lib.hid (And.intro HM3.out HB3.out)
     clear HM HR HB HMd HRd HBd HR2 HOf HOf3 HM3 HB3
     go_wp2
     go_end0
     exact .inl ⟨_, _, _, _, HE.out, rfl, HZ.out.1, HZ.out.2.fm, HZ.out.2.off⟩
    ·skip
     go_simp
     refine (HQ.out _).mono ?_
     rintro e u1 ⟨rfl, hu1⟩
     have hR1 := HRd.out.below hu1 HRd.out.lt
     have hM1 := HMd.out.later hu1
     have hB1 := HBd.out.later hu1
     refine hK.out _ _ hR1 (fun hHeld => ?_)
     clear hK K hHeld HRd HMd HBd hRd k0 k1 k2 k3 k4 k5
     have HRd := Lib.hid hR1
     have HMd := Lib.hid hM1
     have HBd := Lib.hid hB1
     clear hR1 hM1 hB1 hu1
     have hRd := HRd.out
     obtain ⟨k0, k1, k2, k3, k4, k5⟩ := KBox.cells HMd.out.box
     clear Z
     refine wpAnyH_ready (rs := [4]) (by kernel_rfl) (by simp) ?_
     refine AllReadyH.cons rfl (fun K hK => ?_) AllReadyH.nil
     go_simp
     refine hK.out _ _ HRd.out (fun hHeld => ?_)
     clear hK K hHeld
     refine wpAnyH_ready (rs := [7]) (by kernel_rfl) (by simp) ?_
     refine AllReadyH.cons rfl (fun K hK => ?_) AllReadyH.nil
     go_simp
     refine (insertM_any u1 B _ k.marks ⟨x.f, x.n, x.u⟩ HMd.out.own.marks HMd.out.bW HL.out.2.1).mono ?_
     rintro e w2 ⟨v', rfl, hO2, hG2, hF2⟩
     obtain ⟨A2, c2, rfl⟩ := OwnAt.form hO2
     obtain ⟨hM3, hB3⟩ := MK.mut4 HMd.out hO2 hG2 hF2
     have box2 := blk_row HMd.out.box hG2 HMd.out.off.2.1
     have s0 := box2.cell 4
     have f0 := box2.frozen 4
     simp only [List.getElem?_toArray, List.getElem?_cons_zero, List.getElem?_cons_succ] at s0
     have HR2 := Lib.hid (blk_row HRd.out hG2 HOf.out.2.1)
     have HM3 := Lib.hid hM3
     have HB3 := Lib.hid (HBd.out.mut4 hG2 hF2 hB3)
     have HOf3 := Lib.hid (from_off34 HRd.out.lt HOf.out hF2)
     clear hO2 hG2 hF2 hM3 hB3 box2
     refine hK.out _ _ HR2.out (fun hHeld => ?_)
     clear hK K hHeld k0 k1 k2 k3 k4 k5 hRd
     have hR2 := HR2.out
     refine rs.w 8 64 ?_ rfl ?_ ?_
     rotate_left 1
     ·(intro w hSw; obtain ⟨n0, n1, n2, n3, n4⟩ := nt_cells hSw; go_simp; try with_reducible rfl)
     simp only [rs.a, rs.b, rs.c]
     refine rs.w 9 65 ?_ rfl ?_ ?_
     rotate_left 1
     ·(intro w hSw; obtain ⟨n0, n1, n2, n3, n4⟩ := nt_cells hSw; go_simp; try with_reducible rfl)
     simp only [rs.a, rs.b, rs.c]
     refine wpAnyH_ready (rs := [10]) (by kernel_rfl) (by simp) ?_
     refine AllReadyH.cons rfl (fun K hK => ?_) AllReadyH.nil
     go_simp
     refine hK.out _ _ (HR2.out.far (p := ⟨g, 4, none⟩) HNg.out _) (fun hHeld => ?_)
     clear hK K hHeld s0 f0 hR2
     refine wpAnyH_done (by kernel_rfl) ?_ _
     have HZ := Lib.hid (And.intro HM3.out HB3.out)
     clear HM HR HB HMd HRd HBd HR2 HOf HOf3 HM3 HB3
     go_wp2
     go_end0
     exact .inl ⟨_, _, _, _, HE.out, rfl, HZ.out.1, HZ.out.2.fm, HZ.out.2.off⟩
   case neg =>
    have HE := Lib.hid (takeO_held hfr hl ht)
    have hq : (x.t == k.id) = false := beq_eq_false_iff_ne.2 ht
    clear ht hl hfr
    obtain ⟨d0, d1, d2, d3, d4, d5⟩ := qa.six HM.out.box
    obtain ⟨n0, n1, n2, n3, n4⟩ := qa.five HR.out
    refine qa.region (by kernel_rfl) (by kernel_rfl) ?_
    repeat (go_big_quiet_step (fail))
    refine wpQuiet_nil ?_
    rintro _ ⟨p1, rfl⟩
    clear d0 d1 d2 d3 d4 d5 n0 n1 n2 n3 n4
    have hM1 := Lib.hid (HM.out.later p1.h)
    have hR1 := Lib.hid (HR.out.below p1.h HR.out.lt)
    have hB1 := Lib.hid (HB.out.later p1.h)
    clear HM HR HB
    have HM := hM1
    have HR := hR1
    have HB := hB1
    clear hM1 hR1 hB1
    generalize p1.W = V4 at HM HR HB ⊢
    clear p1 V3
    clear hq
    go_upto_region 7 with (fail)
    have hb0 := (Below.refl V4.heap.size V4).drew
    refine wp_region_held_drew (S := (fun w' : World => Blk w' rb 105 #[.int .i64 x.f, .int .i64 x.n, .int .i64 x.t, .int .i64 x.u, .string x.s])) (by kernel_rfl) (HR.out.below hb0 HR.out.lt) (fun hHeld => ?_)
    clear hHeld
    have HMd := Lib.hid (HM.out.later hb0)
    have HRd := Lib.hid (HR.out.below hb0 HR.out.lt)
    have HBd := Lib.hid (HB.out.later hb0)
    clear hb0
    generalize V4.drew = Z at HMd HRd HBd ⊢
    have hRd := HRd.out
    obtain ⟨k0, k1, k2, k3, k4, k5⟩ := KBox.cells HMd.out.box
    refine rs.w 0 66 ?_ rfl ?_ ?_
    rotate_left 1
    ·(intro w hSw; obtain ⟨n0, n1, n2, n3, n4⟩ := nt_cells hSw; go_simp; try with_reducible rfl)
    simp only [rs.a, rs.b, rs.c]
    refine rs.w 1 67 ?_ rfl ?_ ?_
    rotate_left 1
    ·(intro w hSw; obtain ⟨n0, n1, n2, n3, n4⟩ := nt_cells hSw; go_simp; try with_reducible rfl)
    simp only [rs.a, rs.b, rs.c]
    refine rs.w 2 68 ?_ rfl ?_ ?_
    rotate_left 1
    ·(intro w hSw; obtain ⟨n0, n1, n2, n3, n4⟩ := nt_cells hSw; go_simp; try with_reducible rfl)
    simp only [rs.a, rs.b, rs.c]
    refine rs.w 3 69 ?_ rfl ?_ ?_
    rotate_left 1
    ·(intro w hSw; obtain ⟨n0, n1, n2, n3, n4⟩ := nt_cells hSw; go_simp; try with_reducible rfl)
    simp only [rs.a, rs.b, rs.c]
    refine rs.w 5 71 ?_ rfl ?_ ?_
    rotate_left 1
    ·(intro w hSw; obtain ⟨n0, n1, n2, n3, n4⟩ := nt_cells hSw; go_simp; try with_reducible rfl)
    simp only [rs.a, rs.b, rs.c]
    refine wpAnyH_ready (rs := [4]) (by kernel_rfl) (by simp) ?_
    refine AllReadyH.cons rfl (fun K hK => ?_) AllReadyH.nil
    go_simp
    refine hK.out _ _ HRd.out (fun hHeld => ?_)
    clear hK K hHeld
    refine wpAnyH_ready (rs := [6]) (by kernel_rfl) (by simp) ?_
    refine AllReadyH.cons rfl (fun K hK => ?_) AllReadyH.nil
    go_simp
    refine (insertN_any Z B _ k.held x HMd.out.own.held HMd.out.bW HL.out.1).mono ?_
    rintro e w2 ⟨v', rfl, hO2, hG2, hF2⟩
    obtain ⟨A2, c2, rfl⟩ := OwnAt.form hO2
    obtain ⟨hM3, hB3⟩ := MK.mut3 HMd.out hO2 hG2 hF2
    have box2 := blk_row HMd.out.box hG2 HMd.out.off.1
    have s0 := box2.cell 3
    have f0 := box2.frozen 3
    simp only [List.getElem?_toArray, List.getElem?_cons_zero, List.getElem?_cons_succ] at s0
    have HR2 := Lib.hid (blk_row HRd.out hG2 HOf.out.1)
    have HM3 := Lib.hid hM3
    have HB3 := Lib.hid (HBd.out.mut3 hG2 hF2 hB3)
    have HOf3 := Lib.hid (from_off33 HRd.out.lt HOf.out hF2)
    clear hO2 hG2 hF2 hM3 hB3 box2
    refine hK.out _ _ HR2.out (fun hHeld => ?_)
    clear hK K hHeld k0 k1 k2 k3 k4 k5 hRd
    have hR2 := HR2.out
    refine rs.w 7 73 ?_ rfl ?_ ?_
    rotate_left 1
    ·(intro w hSw; obtain ⟨n0, n1, n2, n3, n4⟩ := nt_cells hSw; go_simp; try with_reducible rfl)
    simp only [rs.a, rs.b, rs.c]
    refine rs.w 8 74 ?_ rfl ?_ ?_
    rotate_left 1
    ·(intro w hSw; obtain ⟨n0, n1, n2, n3, n4⟩ := nt_cells hSw; go_simp; try with_reducible rfl)
    simp only [rs.a, rs.b, rs.c]
    refine wpAnyH_ready (rs := [9]) (by kernel_rfl) (by simp) ?_
    refine AllReadyH.cons rfl (fun K hK => ?_) AllReadyH.nil
    go_simp
    refine hK.out _ _ (HR2.out.far (p := ⟨g, 3, none⟩) HNg.out _) (fun hHeld => ?_)
    clear hK K hHeld s0 f0 hR2
    refine wpAnyH_done (by kernel_rfl) ?_ _
    have HZ := Lib.hid (And.intro HM3.out HB3.out)
    clear HM HR HB HMd HRd HBd HR2 HOf HOf3 HM3 HB3
    go_wp2
    go_end0
    exact .inl ⟨_, _, _, _, HE.out, rfl, HZ.out.1, HZ.out.2.fm, HZ.out.2.off⟩
end Go.Proofs.YtckicpnnclbkpaaGreatDoor.kp

