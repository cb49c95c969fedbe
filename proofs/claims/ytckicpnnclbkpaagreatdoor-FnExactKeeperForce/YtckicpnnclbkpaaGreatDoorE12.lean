/-
  Merged texts: SPut, SFresh, STake.
-/
import Derived.Test.YtckicpnnclbkpaaGreatDoorE11
import Derived.Test.YtckicpnnclbkpaaGreatDoorE8
namespace Go.Proofs.YtckicpnnclbkpaaGreatDoor.kp
open Go.ChangeShapes Go.WideShapes Go.ChangeAt Go.RowKit
open wd ow rl ok nb
theorem OwnAt.grew {α : Type} {S : Shape α} {t : TypeId} {B : Nat} {W : World} {v : Value} {l : List α} {y : α} {n : Nat} (h : W.ownsRow B t S.n v n (l.flatMap S.f ++ [y].flatMap S.f)) (hn : n = l.length + 1) : OwnAt S t B W v (l ++ [y]) := by
 subst hn
 unfold OwnAt
 rw [List.flatMap_append, List.length_append]
 exact h
theorem part_one {α : Type} {S : Shape α} {t : TypeId} (W : World) (y : α) {cs : Array Value} (hc : cs.toList = S.f y) : PartR S (W.alloc (.cells cs t)) (some ⟨W.heap.size, 0, none⟩) 1 [y] := by
 refine .inr ⟨W.heap.size, 0, rfl, fun j u hu => ?_⟩
 rw [List.flatMap_cons, List.flatMap_nil, List.append_nil, ← hc] at hu
 rw [Nat.zero_add, (Blk.new W t cs).cell j]
 simpa using hu
theorem ownAt_new {α : Type} {S : Shape α} {t : TypeId} {B : Nat} (W : World) (hB : B ≤ W.heap.size) : OwnAt S t B (W.alloc (.cells #[] t)) (.slice (some ⟨W.heap.size, 0, none⟩) 0 0) ([] : List α) :=
 World.ownsRow_lit W #[] 0 hB (by unfold maxLen; omega) (by simp)
theorem OwnAt.keepBlk {α : Type} {S : Shape α} {t t' : TypeId} {B g : Nat} {W W' : World} {v : Value} {l : List α} {cs : Array Value} (h : OwnAt S t B W v l) (hG : W.grownBy W' v.ownBlock) (hb : Blk W g t' cs) (hg : g < B) : Blk W' g t' cs :=
 (hG.block g hb.lt (fun e => by have := (World.ownsRow.lt h g e.symm).1; omega)).trans hb
theorem OwnAt.below {α : Type} {S : Shape α} {t : TypeId} {B : Nat} {W W' : World} {v : Value} {l : List α} (h : OwnAt S t B W v l) (hG : W.grownBy W' v.ownBlock) (hB : B ≤ W.heap.size) : Below B W W' :=
 ⟨hG.os, hG.tape, hG.output, hG.size, fun k hk => hG.block k (by omega) (fun e => by have := (World.ownsRow.lt h k e.symm).1; omega)⟩
theorem OwnAt.alloc {α : Type} {S : Shape α} {t : TypeId} {B : Nat} {W : World} {v : Value} {l : List α} (h : OwnAt S t B W v l) (o : Obj) : OwnAt S t B (W.alloc o) v l := World.ownsRow.alloc h o
structure PBN (w V : World) (x : Nt) (v : Value) (out : List Nt) : Prop where
 box : Blk V w.heap.size 105 #[.int .i64 x.f, .int .i64 x.n, .int .i64 x.t, .int .i64 x.u, .string x.s]
 own : OwnAt ntS 105 (w.heap.size + 1) V v out
 bel : Below w.heap.size w V
 sz : w.heap.size + 1 ≤ V.heap.size
section
variable {w V V' : World} {x y : Nt} {v v' : Value} {out : List Nt}
theorem PBN.new (w : World) (x : Nt) : PBN w ((w.alloc (.cells #[.int .i64 x.f, .int .i64 x.n, .int .i64 x.t, .int .i64 x.u, .string x.s] 105)).alloc (.cells #[] 105)) x (.slice (some ⟨w.heap.size + 1, 0, none⟩) 0 0) [] := by
 have h1 := ownAt_new (S := ntS) (t := 105) (B := w.heap.size + 1) (w.alloc (.cells #[.int .i64 x.f, .int .i64 x.n, .int .i64 x.t, .int .i64 x.u, .string x.s] 105)) (by simp)
 simp only [World.size_alloc] at h1
 exact ⟨(Blk.new w _ _).alloc _, h1, ((Below.refl _ w).alloc (Nat.le_refl _) _).alloc (by simp) _, by simp⟩
theorem PBN.drewN (h : PBN w V x v out) (q : Nat) : PBN w (V.drewN q) x v out := ⟨h.box, h.own, below_drewN' h.bel q, h.sz⟩
theorem PBN.more {n : Nat} {o : Obj} (h : PBN w V x v out) (h1 : V'.ownsRow (w.heap.size + 1) 105 (ntS).n v' n (out.flatMap (ntS).f ++ [y].flatMap (ntS).f)) (hn : n = out.length + 1) (hg : (V.alloc o).grownBy V' v.ownBlock) : PBN w V' x v' (out ++ [y]) := by
 have hO := h.own.alloc o
 have hz : (V.alloc o).heap.size = V.heap.size + 1 := by simp
 have hB := hO.below hg (by have := h.sz; omega)
 exact ⟨hO.keepBlk hg (h.box.alloc o) (by omega), OwnAt.grew h1 hn, (h.bel.alloc h.bel.size o).trans (hB.mono (by omega)), by have := h.sz; have := hg.size; omega⟩
theorem PBN.done (h : PBN w V x v out) : OwnR ntS 105 w V v out := ⟨OwnAt.down h.own (by omega), h.bel⟩
end
set_option maxRecDepth 100000 in
set_option maxHeartbeats 1600000 in
theorem putN_any (w : World) (v : Value) (l : List Nt) (x : Nt) (h : SeesN w v l) (hl : l.length ≤ 1048576) :
  Calls Tryz.prog 114 #[v, ntV x] w (ListN w (putN l x)) := by
 obtain ⟨i0, hi, hz0, hz1, hz2⟩ := info_parts infoNote
 have HS := Lib.hid h
 obtain ⟨A, c, rfl, _⟩ := h
 have hP := PBN.new w x
 have HE := Lib.hid (show putN l x = putL (fun y => less x.f x.n y.f y.n) l x from rfl)
 unfold ntV note
 go_enter Tryz.func114, Tryz.ntmps114
 go_wp2
 have HP := Lib.hid hP
 clear hP
 go_loopw [5, 6, 7] (fun ov dv i wr => ∃ (k : Nat) (b : Bool) (out : List Nt), k ≤ l.length ∧ i = .int .i64 k ∧ dv = .bool b ∧ Hid (Putting (fun y => less x.f x.n y.f y.n) l x k b out) ∧ Hid (PBN w wr x ov out)) (fun _ _ i _ => (l.length + 1 : Nat) - (intOf i).toNat)
 case atStart => exact ⟨0, false, [], by omega, rfl, rfl, put_start, HP.out⟩
 case round =>
  obtain ⟨k, bb, out, hk, rfl, rfl, HQ, HP1⟩ := hrel
  clear HP
  have hlen := put_len HQ.out
  have hsz := HP1.out.sz
  by_cases hkl : k < l.length
  ·have hx : l[k]? = some l[k] := List.getElem?_eq_getElem hkl
   have hc := note_at (HS.out.later HP1.out.bel) hx
   generalize l[k] = y at hx hc
   obtain ⟨g, c', e, hg, _, t0, t1, t2, t3, t4⟩ := hc
   injection e with e1 e2 e3
   subst e1; subst e3
   have hk0 : (0 : Int) ≤ (k : Int) := by omega
   have hk1 : (k : Int) < (l.length : Int) := by omega
   obtain ⟨n0, n1, n2, n3, n4⟩ := nt_cells HP1.out.box
   have HL := Lib.hid (fun V => (less_any x.f x.n y.f y.n V).mono (R' := fun e w' => e = .returned (.bool (less x.f x.n y.f y.n)) ∧ w' = V) fun _ _ h => ⟨h.1, h.2.symm⟩)
   cases bb with
   | true =>
    have HQ2 := Lib.hid (put_on HQ.out hx)
    clear hx
    go_wp2_with fail
    go_quiet (fail)
    go_wp2_with (at_builtin; refine wpList_append_recs ntS (by decide) rfl _ _ 36 rfl (w.heap.size + 1) 105 i0 _ 48 Tryz.underlying36 hi hz0 hz1 hz2 rfl _ _ _ rfl ((HP1.out.drewN nq).own.alloc _) (some ⟨(wr.drewN nq).heap.size, 0, none⟩) 1 1 [y] rfl rfl (part_one (wr.drewN nq) y rfl) ?e3 ?e4 ?e5 ?_)
    case e3 => (show out.length + 1 ≤ maxLen); unfold maxLen; omega
    case e4 => (show (out.length + 1) * 48 ≤ 140737488355328); omega
    case e5 => first | omega | (simp; omega)
    intro v8 w8 hown hgrow
    have HP8 := Lib.hid ((HP1.out.drewN nq).more hown rfl hgrow)
    clear hown hgrow
    go_wp2
    go_roundw
    case rel => first | exact ⟨k + 1, true, _, by omega, by go_num, rfl, HQ2.out, HP8.out⟩ | ((repeat apply Exists.intro); refine And.intro ?_ rfl; exact ⟨k + 1, true, _, by omega, by go_num, rfl, HQ2.out, HP8.out⟩)
    case measure => simp [intOf]; omega
   | false =>
    cases hls : less x.f x.n y.f y.n with
    | true =>
     have HQ2 := Lib.hid (put_here HQ.out hx hls)
     have HX := Lib.hid hx
     rw [hls] at HL
     clear hx hls
     go_wp2_with fail
     go_quiet ((go_at_call 149; with_reducible exact Calls.quiet_of_same (HL.out _)))
     go_wp2_with (at_builtin; refine wpList_append_recs ntS (by decide) rfl _ _ 36 rfl (w.heap.size + 1) 105 i0 _ 48 Tryz.underlying36 hi hz0 hz1 hz2 rfl _ _ _ rfl ((HP1.out.drewN nq).own.alloc _) (some ⟨(wr.drewN nq).heap.size, 0, none⟩) 1 1 [x] rfl rfl (part_one (wr.drewN nq) x rfl) ?e3 ?e4 ?e5 ?_)
     case e3 => (show out.length + 1 ≤ maxLen); unfold maxLen; omega
     case e4 => (show (out.length + 1) * 48 ≤ 140737488355328); omega
     case e5 => first | omega | (simp; omega)
     intro v8 w8 hown hgrow
     have HP8 := Lib.hid ((HP1.out.drewN nq).more hown rfl hgrow)
     clear hown hgrow
     have hl8 : (out ++ [x]).length ≤ k + 2 := by simp; omega
     generalize out ++ [x] = o2 at HP8 HQ2 hl8
     have hs8 := HP8.out.sz
     have hc8 := note_at (HS.out.later HP8.out.bel) HX.out
     obtain ⟨g8, c8, e8, _, _, r0, r1, r2, r3, r4⟩ := hc8
     injection e8 with e8 _ e9
     injection e8 with e8
     injection e8 with e8
     subst e8
     subst e9
     clear t0 t1 t2 t3 t4 n0 n1 n2 n3 n4
     go_wp2_with (at_builtin; refine wpList_append_recs ntS (by decide) rfl _ _ 36 rfl (w.heap.size + 1) 105 i0 _ 48 Tryz.underlying36 hi hz0 hz1 hz2 rfl _ _ _ rfl (HP8.out.own.alloc _) (some ⟨w8.heap.size, 0, none⟩) 1 1 [y] rfl rfl (part_one w8 y rfl) ?e3 ?e4 ?e5 ?_)
     case e3 => (show o2.length + 1 ≤ maxLen); unfold maxLen; omega
     case e4 => (show (o2.length + 1) * 48 ≤ 140737488355328); omega
     case e5 => first | omega | (simp; omega)
     intro v9 w9 hown hgrow
     have HP9 := Lib.hid (HP8.out.more hown rfl hgrow)
     clear hown hgrow
     go_wp2
     go_roundw
     case rel => first | exact ⟨k + 1, true, _, by omega, by go_num, rfl, HQ2.out, HP9.out⟩ | ((repeat apply Exists.intro); refine And.intro ?_ rfl; exact ⟨k + 1, true, _, by omega, by go_num, rfl, HQ2.out, HP9.out⟩)
     case measure => simp [intOf]; omega
    | false =>
     have HQ2 := Lib.hid (put_skip HQ.out hx hls)
     rw [hls] at HL
     clear hx hls
     go_wp2_with fail
     go_quiet ((go_at_call 149; with_reducible exact Calls.quiet_of_same (HL.out _)))
     go_wp2_with (at_builtin; refine wpList_append_recs ntS (by decide) rfl _ _ 36 rfl (w.heap.size + 1) 105 i0 _ 48 Tryz.underlying36 hi hz0 hz1 hz2 rfl _ _ _ rfl ((HP1.out.drewN nq).own.alloc _) (some ⟨(wr.drewN nq).heap.size, 0, none⟩) 1 1 [y] rfl rfl (part_one (wr.drewN nq) y rfl) ?e3 ?e4 ?e5 ?_)
     case e3 => (show out.length + 1 ≤ maxLen); unfold maxLen; omega
     case e4 => (show (out.length + 1) * 48 ≤ 140737488355328); omega
     case e5 => first | omega | (simp; omega)
     intro v8 w8 hown hgrow
     have HP8 := Lib.hid ((HP1.out.drewN nq).more hown rfl hgrow)
     clear hown hgrow
     go_wp2
     go_roundw
     case rel => first | exact ⟨k + 1, false, _, by omega, by go_num, rfl, HQ2.out, HP8.out⟩ | ((repeat apply Exists.intro); refine And.intro ?_ rfl; exact ⟨k + 1, false, _, by omega, by go_num, rfl, HQ2.out, HP8.out⟩)
     case measure => simp [intOf]; omega
  ·obtain ⟨n0, n1, n2, n3, n4⟩ := nt_cells HP1.out.box
   cases bb with
   | true =>
    have HR := Lib.hid (put_end HQ.out (by omega))
    go_wp2
    go_ret
    exact ⟨_, rfl, by rw [HE.out, ← HR.out]; exact HP1.out.done⟩
   | false =>
    have HR := Lib.hid (put_last HQ.out (by omega))
    go_wp2_with (at_builtin; refine wpList_append_recs ntS (by decide) rfl _ _ 36 rfl (w.heap.size + 1) 105 i0 _ 48 Tryz.underlying36 hi hz0 hz1 hz2 rfl _ _ _ rfl (HP1.out.own.alloc _) (some ⟨wr.heap.size, 0, none⟩) 1 1 [x] rfl rfl (part_one wr x rfl) ?e3 ?e4 ?e5 ?_)
    case e3 => (show out.length + 1 ≤ maxLen); unfold maxLen; omega
    case e4 => (show (out.length + 1) * 48 ≤ 140737488355328); omega
    case e5 => first | omega | (simp; omega)
    intro v8 w8 hown hgrow
    have HP8 := Lib.hid (HP1.out.more hown rfl hgrow)
    clear hown hgrow
    go_wp2
    go_ret
    exact ⟨_, rfl, by rw [HE.out, ← HR.out]; exact HP8.out.done⟩
structure PBM (w V : World) (x : Mk) (v : Value) (out : List Mk) : Prop where
 box : Blk V w.heap.size 108 #[.int .i64 x.f, .int .i64 x.n, .int .i64 x.u]
 own : OwnAt mkS 108 (w.heap.size + 1) V v out
 bel : Below w.heap.size w V
 sz : w.heap.size + 1 ≤ V.heap.size
section
variable {w V V' : World} {x y : Mk} {v v' : Value} {out : List Mk}
theorem PBM.new (w : World) (x : Mk) : PBM w ((w.alloc (.cells #[.int .i64 x.f, .int .i64 x.n, .int .i64 x.u] 108)).alloc (.cells #[] 108)) x (.slice (some ⟨w.heap.size + 1, 0, none⟩) 0 0) [] := by
 have h1 := ownAt_new (S := mkS) (t := 108) (B := w.heap.size + 1) (w.alloc (.cells #[.int .i64 x.f, .int .i64 x.n, .int .i64 x.u] 108)) (by simp)
 simp only [World.size_alloc] at h1
 exact ⟨(Blk.new w _ _).alloc _, h1, ((Below.refl _ w).alloc (Nat.le_refl _) _).alloc (by simp) _, by simp⟩
theorem PBM.drewN (h : PBM w V x v out) (q : Nat) : PBM w (V.drewN q) x v out := ⟨h.box, h.own, below_drewN' h.bel q, h.sz⟩
theorem PBM.more {n : Nat} {o : Obj} (h : PBM w V x v out) (h1 : V'.ownsRow (w.heap.size + 1) 108 (mkS).n v' n (out.flatMap (mkS).f ++ [y].flatMap (mkS).f)) (hn : n = out.length + 1) (hg : (V.alloc o).grownBy V' v.ownBlock) : PBM w V' x v' (out ++ [y]) := by
 have hO := h.own.alloc o
 have hz : (V.alloc o).heap.size = V.heap.size + 1 := by simp
 have hB := hO.below hg (by have := h.sz; omega)
 exact ⟨hO.keepBlk hg (h.box.alloc o) (by omega), OwnAt.grew h1 hn, (h.bel.alloc h.bel.size o).trans (hB.mono (by omega)), by have := h.sz; have := hg.size; omega⟩
theorem PBM.done (h : PBM w V x v out) : OwnR mkS 108 w V v out := ⟨OwnAt.down h.own (by omega), h.bel⟩
end
set_option maxRecDepth 100000 in
set_option maxHeartbeats 1600000 in
theorem putM_any (w : World) (v : Value) (l : List Mk) (x : Mk) (h : SeesMk w v l) (hl : l.length ≤ 1048576) :
  Calls Tryz.prog 118 #[v, mkV x] w (ListM w (putM l x)) := by
 obtain ⟨i0, hi, hz0, hz1, hz2⟩ := info_parts infoMark
 have HS := Lib.hid h
 obtain ⟨A, c, rfl, _⟩ := h
 have hP := PBM.new w x
 have HE := Lib.hid (show putM l x = putL (fun y => less x.f x.n y.f y.n) l x from rfl)
 unfold mkV mark
 go_enter Tryz.func118, Tryz.ntmps118
 go_wp2
 have HP := Lib.hid hP
 clear hP
 go_loopw [5, 6, 7] (fun ov dv i wr => ∃ (k : Nat) (b : Bool) (out : List Mk), k ≤ l.length ∧ i = .int .i64 k ∧ dv = .bool b ∧ Hid (Putting (fun y => less x.f x.n y.f y.n) l x k b out) ∧ Hid (PBM w wr x ov out)) (fun _ _ i _ => (l.length + 1 : Nat) - (intOf i).toNat)
 case atStart => exact ⟨0, false, [], by omega, rfl, rfl, put_start, HP.out⟩
 case round =>
  obtain ⟨k, bb, out, hk, rfl, rfl, HQ, HP1⟩ := hrel
  clear HP
  have hlen := put_len HQ.out
  have hsz := HP1.out.sz
  by_cases hkl : k < l.length
  ·have hx : l[k]? = some l[k] := List.getElem?_eq_getElem hkl
   have hc := mark_at (HS.out.later HP1.out.bel) hx
   generalize l[k] = y at hx hc
   obtain ⟨g, c', e, hg, _, t0, t1, t2⟩ := hc
   injection e with e1 e2 e3
   subst e1; subst e3
   have hk0 : (0 : Int) ≤ (k : Int) := by omega
   have hk1 : (k : Int) < (l.length : Int) := by omega
   obtain ⟨n0, n1, n2⟩ := mk_cells HP1.out.box
   have HL := Lib.hid (fun V => (less_any x.f x.n y.f y.n V).mono (R' := fun e w' => e = .returned (.bool (less x.f x.n y.f y.n)) ∧ w' = V) fun _ _ h => ⟨h.1, h.2.symm⟩)
   cases bb with
   | true =>
    have HQ2 := Lib.hid (put_on HQ.out hx)
    clear hx
    go_wp2_with fail
    go_quiet (fail)
    go_wp2_with (at_builtin; refine wpList_append_recs mkS (by decide) rfl _ _ 37 rfl (w.heap.size + 1) 108 i0 _ 24 Tryz.underlying37 hi hz0 hz1 hz2 rfl _ _ _ rfl ((HP1.out.drewN nq).own.alloc _) (some ⟨(wr.drewN nq).heap.size, 0, none⟩) 1 1 [y] rfl rfl (part_one (wr.drewN nq) y rfl) ?e3 ?e4 ?e5 ?_)
    case e3 => (show out.length + 1 ≤ maxLen); unfold maxLen; omega
    case e4 => (show (out.length + 1) * 24 ≤ 140737488355328); omega
    case e5 => first | omega | (simp; omega)
    intro v8 w8 hown hgrow
    have HP8 := Lib.hid ((HP1.out.drewN nq).more hown rfl hgrow)
    clear hown hgrow
    go_wp2
    go_roundw
    case rel => first | exact ⟨k + 1, true, _, by omega, by go_num, rfl, HQ2.out, HP8.out⟩ | ((repeat apply Exists.intro); refine And.intro ?_ rfl; exact ⟨k + 1, true, _, by omega, by go_num, rfl, HQ2.out, HP8.out⟩)
    case measure => simp [intOf]; omega
   | false =>
    cases hls : less x.f x.n y.f y.n with
    | true =>
     have HQ2 := Lib.hid (put_here HQ.out hx hls)
     have HX := Lib.hid hx
     rw [hls] at HL
     clear hx hls
     go_wp2_with fail
     go_quiet ((go_at_call 149; with_reducible exact Calls.quiet_of_same (HL.out _)))
     go_wp2_with (at_builtin; refine wpList_append_recs mkS (by decide) rfl _ _ 37 rfl (w.heap.size + 1) 108 i0 _ 24 Tryz.underlying37 hi hz0 hz1 hz2 rfl _ _ _ rfl ((HP1.out.drewN nq).own.alloc _) (some ⟨(wr.drewN nq).heap.size, 0, none⟩) 1 1 [x] rfl rfl (part_one (wr.drewN nq) x rfl) ?e3 ?e4 ?e5 ?_)
     case e3 => (show out.length + 1 ≤ maxLen); unfold maxLen; omega
     case e4 => (show (out.length + 1) * 24 ≤ 140737488355328); omega
     case e5 => first | omega | (simp; omega)
     intro v8 w8 hown hgrow
     have HP8 := Lib.hid ((HP1.out.drewN nq).more hown rfl hgrow)
     clear hown hgrow
     have hl8 : (out ++ [x]).length ≤ k + 2 := by simp; omega
     generalize out ++ [x] = o2 at HP8 HQ2 hl8
     have hs8 := HP8.out.sz
     have hc8 := mark_at (HS.out.later HP8.out.bel) HX.out
     obtain ⟨g8, c8, e8, _, _, r0, r1, r2⟩ := hc8
     injection e8 with e8 _ e9
     injection e8 with e8
     injection e8 with e8
     subst e8
     subst e9
     clear t0 t1 t2 n0 n1 n2
     go_wp2_with (at_builtin; refine wpList_append_recs mkS (by decide) rfl _ _ 37 rfl (w.heap.size + 1) 108 i0 _ 24 Tryz.underlying37 hi hz0 hz1 hz2 rfl _ _ _ rfl (HP8.out.own.alloc _) (some ⟨w8.heap.size, 0, none⟩) 1 1 [y] rfl rfl (part_one w8 y rfl) ?e3 ?e4 ?e5 ?_)
     case e3 => (show o2.length + 1 ≤ maxLen); unfold maxLen; omega
     case e4 => (show (o2.length + 1) * 24 ≤ 140737488355328); omega
     case e5 => first | omega | (simp; omega)
     intro v9 w9 hown hgrow
     have HP9 := Lib.hid (HP8.out.more hown rfl hgrow)
     clear hown hgrow
     go_wp2
     go_roundw
     case rel => first | exact ⟨k + 1, true, _, by omega, by go_num, rfl, HQ2.out, HP9.out⟩ | ((repeat apply Exists.intro); refine And.intro ?_ rfl; exact ⟨k + 1, true, _, by omega, by go_num, rfl, HQ2.out, HP9.out⟩)
     case measure => simp [intOf]; omega
    | false =>
     have HQ2 := Lib.hid (put_skip HQ.out hx hls)
     rw [hls] at HL
     clear hx hls
     go_wp2_with fail
     go_quiet ((go_at_call 149; with_reducible exact Calls.quiet_of_same (HL.out _)))
     go_wp2_with (at_builtin; refine wpList_append_recs mkS (by decide) rfl _ _ 37 rfl (w.heap.size + 1) 108 i0 _ 24 Tryz.underlying37 hi hz0 hz1 hz2 rfl _ _ _ rfl ((HP1.out.drewN nq).own.alloc _) (some ⟨(wr.drewN nq).heap.size, 0, none⟩) 1 1 [y] rfl rfl (part_one (wr.drewN nq) y rfl) ?e3 ?e4 ?e5 ?_)
     case e3 => (show out.length + 1 ≤ maxLen); unfold maxLen; omega
     case e4 => (show (out.length + 1) * 24 ≤ 140737488355328); omega
     case e5 => first | omega | (simp; omega)
     intro v8 w8 hown hgrow
     have HP8 := Lib.hid ((HP1.out.drewN nq).more hown rfl hgrow)
     clear hown hgrow
     go_wp2
     go_roundw
     case rel => first | exact ⟨k + 1, false, _, by omega, by go_num, rfl, HQ2.out, HP8.out⟩ | ((repeat apply Exists.intro); refine And.intro ?_ rfl; exact ⟨k + 1, false, _, by omega, by go_num, rfl, HQ2.out, HP8.out⟩)
     case measure => simp [intOf]; omega
  ·obtain ⟨n0, n1, n2⟩ := mk_cells HP1.out.box
   cases bb with
   | true =>
    have HR := Lib.hid (put_end HQ.out (by omega))
    go_wp2
    go_ret
    exact ⟨_, rfl, by rw [HE.out, ← HR.out]; exact HP1.out.done⟩
   | false =>
    have HR := Lib.hid (put_last HQ.out (by omega))
    go_wp2_with (at_builtin; refine wpList_append_recs mkS (by decide) rfl _ _ 37 rfl (w.heap.size + 1) 108 i0 _ 24 Tryz.underlying37 hi hz0 hz1 hz2 rfl _ _ _ rfl (HP1.out.own.alloc _) (some ⟨wr.heap.size, 0, none⟩) 1 1 [x] rfl rfl (part_one wr x rfl) ?e3 ?e4 ?e5 ?_)
    case e3 => (show out.length + 1 ≤ maxLen); unfold maxLen; omega
    case e4 => (show (out.length + 1) * 24 ≤ 140737488355328); omega
    case e5 => first | omega | (simp; omega)
    intro v8 w8 hown hgrow
    have HP8 := Lib.hid (HP1.out.more hown rfl hgrow)
    clear hown hgrow
    go_wp2
    go_ret
    exact ⟨_, rfl, by rw [HE.out, ← HR.out]; exact HP8.out.done⟩
end Go.Proofs.YtckicpnnclbkpaaGreatDoor.kp

namespace Go.Proofs.YtckicpnnclbkpaaGreatDoor.kp
open Go.ChangeShapes Go.WideShapes Go.ChangeAt Go.RowKit
open wd ow rl ok nb
def fresh (k : Kp) (x : Nt) : Bool := okNt x && decide (k.time < x.u) && !hasN k.held x.f x.n && !hasM k.marks x.f x.n && !hasN k.inbox x.f x.n
theorem fresh_f {k : Kp} {x : Nt} (h : okNt x = false ∨ ¬ k.time < x.u ∨ hasN k.held x.f x.n = true ∨ hasM k.marks x.f x.n = true ∨ hasN k.inbox x.f x.n = true) : fresh k x = false := by
 unfold fresh
 rcases h with h | h | h | h | h
 ·simp [h]
 ·rw [decide_eq_false h]; simp
 ·simp [h]
 ·simp [h]
 ·simp [h]
theorem fresh_t {k : Kp} {x : Nt} (h1 : okNt x = true) (h2 : k.time < x.u) (h3 : hasN k.held x.f x.n = false) (h4 : hasM k.marks x.f x.n = false) (h5 : hasN k.inbox x.f x.n = false) : fresh k x = true := by
 unfold fresh
 rw [h1, decide_eq_true h2, h3, h4, h5]
 rfl
structure FB (w V : World) (k : Kp) (a b c : Value) (x : Nt) : Prop where
 box : Blk V w.heap.size 39 #[.int .i64 k.id, .int .i64 k.time, .int .i64 k.next, a, b, c]
 nt : Blk V (w.heap.size + 1) 105 #[.int .i64 x.f, .int .i64 x.n, .int .i64 x.t, .int .i64 x.u, .string x.s]
 bel : Below w.heap.size w V
section
variable {w V V' : World} {k : Kp} {a b c : Value} {x : Nt}
theorem FB.new (w : World) (k : Kp) (a b c : Value) (x : Nt) : FB w ((w.alloc (.cells #[.int .i64 k.id, .int .i64 k.time, .int .i64 k.next, a, b, c] 39)).alloc (.cells #[.int .i64 x.f, .int .i64 x.n, .int .i64 x.t, .int .i64 x.u, .string x.s] 105)) k a b c x := by
 have k1 := Blk.new (w.alloc (.cells #[.int .i64 k.id, .int .i64 k.time, .int .i64 k.next, a, b, c] 39)) 105 #[.int .i64 x.f, .int .i64 x.n, .int .i64 x.t, .int .i64 x.u, .string x.s]
 simp only [World.size_alloc] at k1
 exact ⟨(Blk.new w _ _).alloc _, k1, ((Below.refl _ w).alloc (Nat.le_refl _) _).alloc (by simp) _⟩
theorem FB.later (h : FB w V k a b c x) (hb : Below V.heap.size V V') : FB w V' k a b c x := ⟨h.box.below hb h.box.lt, h.nt.below hb h.nt.lt, h.bel.trans (hb.mono h.bel.size)⟩
theorem FB.cells (h : FB w V k a b c x) : V.cell? ⟨w.heap.size, 1, none⟩ = some (.int .i64 k.time) ∧ V.cell? ⟨w.heap.size, 3, none⟩ = some a ∧ V.cell? ⟨w.heap.size, 4, none⟩ = some b ∧ V.cell? ⟨w.heap.size, 5, none⟩ = some c := ⟨h.box.cell 1, h.box.cell 3, h.box.cell 4, h.box.cell 5⟩
end
set_option maxRecDepth 100000 in
set_option maxHeartbeats 1600000 in
theorem fresh_any (w : World) (k : Kp) (a b c : Value) (x : Nt) (h : SeesK w k a b c) (hl : k.held.length ≤ 1048576 ∧ k.marks.length ≤ 1048576 ∧ k.inbox.length ≤ 1048576) (hx : x.s.size ≤ maxLen) :
  Calls Tryz.prog 151 #[kpV k.id k.time k.next a b c, ntV x] w (BoolK w (fresh k x)) := by
 obtain ⟨hl1, hl2, hl3⟩ := hl
 have hT := FB.new w k a b c x
 have H1 := Lib.hid (fun V => ok.sok_any x.f x.n x.t x.u x.s V hx)
 have H2 := Lib.hid (fun V (hV : Below w.heap.size w V) => ixN_any V a k.held x.f x.n (h.held.later hV) hl1)
 have H3 := Lib.hid (fun V (hV : Below w.heap.size w V) => ixM_any V b k.marks x.f x.n (h.marks.later hV) hl2)
 have H4 := Lib.hid (fun V (hV : Below w.heap.size w V) => ixN_any V c k.inbox x.f x.n (h.inbox.later hV) hl3)
 unfold ok.BoolPost note at H1
 unfold IsI at H2 H3 H4
 unfold ntV note
 clear h
 go_enter Tryz.func151, Tryz.ntmps151
 go_wp2_with fail
 generalize (w.alloc (.cells #[.int .i64 k.id, .int .i64 k.time, .int .i64 k.next, a, b, c] 39)).alloc (.cells #[.int .i64 x.f, .int .i64 x.n, .int .i64 x.t, .int .i64 x.u, .string x.s] 105) = V at hT ⊢
 refine (H1.out _).mono ?_
 rintro e w1 ⟨rfl, hB1⟩
 have hT1 := hT.later hB1
 obtain ⟨c1, c3, c4, c5⟩ := hT1.cells
 obtain ⟨n0, n1, n2, n3, n4⟩ := nt_cells hT1.nt
 have HT := Lib.hid hT1
 clear hT hT1 hB1 H1
 cases hb : okNt x with
 | false =>
  have HR := Lib.hid (fresh_f (k := k) (.inl hb))
  unfold okNt at hb
  rw [hb]
  go_wp2
  go_ret
  exact ⟨nb.ret_bool HR.out.symm, HT.out.bel⟩
 | true =>
 have HB := Lib.hid hb
 unfold okNt at hb
 rw [hb]
 clear hb
 by_cases hu : k.time < x.u
 ·go_wp2_with fail
  with_reducible refine (H2.out _ HT.out.bel).mono ?_
  rintro e w2 ⟨rfl, rfl⟩
  rcases ixN_cases k.held x.f x.n with ⟨hm, hi⟩ | ⟨hm, i, y, hi, _, _, _⟩
  ·rw [hi]
   clear hi
   go_wp2_with fail
   with_reducible refine (H3.out _ HT.out.bel).mono ?_
   rintro e w2 ⟨rfl, rfl⟩
   rcases ixM_cases k.marks x.f x.n with ⟨hm2, hi⟩ | ⟨hm2, i, y, hi, _, _, _⟩
   ·rw [hi]
    clear hi
    go_wp2_with fail
    with_reducible refine (H4.out _ HT.out.bel).mono ?_
    rintro e w2 ⟨rfl, rfl⟩
    rcases ixN_cases k.inbox x.f x.n with ⟨hm3, hi⟩ | ⟨hm3, i, y, hi, _, _, _⟩
    ·have HR := Lib.hid (fresh_t HB.out hu hm hm2 hm3)
     rw [hi]
     clear hi
     go_wp2
     go_ret
     exact ⟨nb.ret_bool HR.out.symm, HT.out.bel⟩
    ·have HR := Lib.hid (fresh_f (k := k) (x := x) (.inr (.inr (.inr (.inr hm3)))))
     rw [hi]
     have i9 : ¬ ((i : Nat) : Int) < 0 := by omega
     clear hi
     go_wp2
     go_ret
     exact ⟨nb.ret_bool HR.out.symm, HT.out.bel⟩
   ·have HR := Lib.hid (fresh_f (k := k) (x := x) (.inr (.inr (.inr (.inl hm2)))))
    rw [hi]
    have i9 : ¬ ((i : Nat) : Int) < 0 := by omega
    clear hi
    go_wp2
    go_ret
    exact ⟨nb.ret_bool HR.out.symm, HT.out.bel⟩
  ·have HR := Lib.hid (fresh_f (k := k) (x := x) (.inr (.inr (.inl hm))))
   rw [hi]
   have i9 : ¬ ((i : Nat) : Int) < 0 := by omega
   clear hi
   go_wp2
   go_ret
   exact ⟨nb.ret_bool HR.out.symm, HT.out.bel⟩
 ·have HR := Lib.hid (fresh_f (k := k) (x := x) (.inr (.inl hu)))
  go_wp2
  go_ret
  exact ⟨nb.ret_bool HR.out.symm, HT.out.bel⟩
end Go.Proofs.YtckicpnnclbkpaaGreatDoor.kp

namespace Go.Proofs.YtckicpnnclbkpaaGreatDoor.kp
open Go.ChangeShapes Go.WideShapes Go.ChangeAt Go.RowKit
open wd ow rl ok nb
def takeS (k : Kp) (x : Nt) : Kp := if fresh k x then (if x.t = k.id then { k with inbox := putN k.inbox x, marks := putM k.marks ⟨x.f, x.n, x.u⟩ } else { k with held := putN k.held x }) else k
def takeB (k : Kp) (x : Nt) : Bool := fresh k x && decide (((takeS k x).held.length : Int) + ((takeS k x).marks.length : Int) ≤ 12)
def From (w : World) (v v0 : Value) : Prop := ∀ g, v.ownBlock = some g → w.heap.size ≤ g ∨ v0.ownBlock = some g
theorem From.refl (w : World) (v : Value) : From w v v := fun _ h => .inr h
theorem From.own {α : Type} {S : Shape α} {t : TypeId} {B : Nat} {w W : World} {v v0 : Value} {l : List α} (h : OwnAt S t B W v l) (hB : w.heap.size ≤ B) : From w v v0 := fun g hg => .inl (Nat.le_trans hB (World.ownsRow.lt h g hg).1)
structure OutK (w w' : World) (k : Kp) (a b c vh vm vi : Value) : Prop where
 sees : SeesK w' k vh vm vi
 bel : Below w.heap.size w w'
 fh : From w vh a
 fm : From w vm b
 fi : From w vi c
def ResK (w : World) (k : Kp) (b : Bool) (a0 b0 c0 : Value) (e : Ending) (w' : World) : Prop := ∃ vh vm vi, e = .returned (.tuple #[kpV k.id k.time k.next vh vm vi, .bool b]) ∧ OutK w w' k a0 b0 c0 vh vm vi
theorem putN_len (l : List Nt) (x : Nt) : (putN l x).length = l.length + 1 := putL_len _ _ _
theorem putM_len (l : List Mk) (x : Mk) : (putM l x).length = l.length + 1 := putL_len _ _ _
structure TB (w V : World) (k : Kp) (a b c : Value) (x : Nt) : Prop where
 box : Blk V w.heap.size 39 #[.int .i64 k.id, .int .i64 k.time, .int .i64 k.next, a, b, c]
 nt : Blk V (w.heap.size + 1) 105 #[.int .i64 x.f, .int .i64 x.n, .int .i64 x.t, .int .i64 x.u, .string x.s]
 res : Blk V (w.heap.size + 1 + 1) 39 #[.int .i64 0, .int .i64 0, .int .i64 0, .slice none 0 0, .slice none 0 0, .slice none 0 0]
 bel : Below w.heap.size w V
section
variable {w V V' : World} {k : Kp} {a b c : Value} {x : Nt}
theorem TB.new (w : World) (k : Kp) (a b c : Value) (x : Nt) : TB w (((w.alloc (.cells #[.int .i64 k.id, .int .i64 k.time, .int .i64 k.next, a, b, c] 39)).alloc (.cells #[.int .i64 x.f, .int .i64 x.n, .int .i64 x.t, .int .i64 x.u, .string x.s] 105)).alloc (.cells #[.int .i64 0, .int .i64 0, .int .i64 0, .slice none 0 0, .slice none 0 0, .slice none 0 0] 39)) k a b c x := by
 have k1 := Blk.new (w.alloc (.cells #[.int .i64 k.id, .int .i64 k.time, .int .i64 k.next, a, b, c] 39)) 105 #[.int .i64 x.f, .int .i64 x.n, .int .i64 x.t, .int .i64 x.u, .string x.s]
 have k2 := Blk.new ((w.alloc (.cells #[.int .i64 k.id, .int .i64 k.time, .int .i64 k.next, a, b, c] 39)).alloc (.cells #[.int .i64 x.f, .int .i64 x.n, .int .i64 x.t, .int .i64 x.u, .string x.s] 105)) 39 #[.int .i64 0, .int .i64 0, .int .i64 0, .slice none 0 0, .slice none 0 0, .slice none 0 0]
 simp only [World.size_alloc] at k1 k2
 exact ⟨((Blk.new w _ _).alloc _).alloc _, k1.alloc _, k2, (((Below.refl _ w).alloc (Nat.le_refl _) _).alloc (by simp) _).alloc (by simp; omega) _⟩
theorem TB.later (h : TB w V k a b c x) (hb : Below V.heap.size V V') : TB w V' k a b c x := ⟨h.box.below hb h.box.lt, h.nt.below hb h.nt.lt, h.res.below hb h.res.lt, h.bel.trans (hb.mono h.bel.size)⟩
theorem TB.put3 (h : TB w V k a b c x) (y : Value) : TB w (V.setCell ⟨w.heap.size, 3, none⟩ y) k y b c x := ⟨h.box.put 3 y, h.nt.far (p := ⟨w.heap.size, 3, none⟩) (by show w.heap.size + 1 ≠ w.heap.size; omega) _, h.res.far (p := ⟨w.heap.size, 3, none⟩) (by show w.heap.size + 1 + 1 ≠ w.heap.size; omega) _, h.bel.setCell (p := ⟨w.heap.size, 3, none⟩) (Nat.le_refl _) _⟩
theorem TB.put4 (h : TB w V k a b c x) (y : Value) : TB w (V.setCell ⟨w.heap.size, 4, none⟩ y) k a y c x := ⟨h.box.put 4 y, h.nt.far (p := ⟨w.heap.size, 4, none⟩) (by show w.heap.size + 1 ≠ w.heap.size; omega) _, h.res.far (p := ⟨w.heap.size, 4, none⟩) (by show w.heap.size + 1 + 1 ≠ w.heap.size; omega) _, h.bel.setCell (p := ⟨w.heap.size, 4, none⟩) (Nat.le_refl _) _⟩
theorem TB.put5 (h : TB w V k a b c x) (y : Value) : TB w (V.setCell ⟨w.heap.size, 5, none⟩ y) k a b y x := ⟨h.box.put 5 y, h.nt.far (p := ⟨w.heap.size, 5, none⟩) (by show w.heap.size + 1 ≠ w.heap.size; omega) _, h.res.far (p := ⟨w.heap.size, 5, none⟩) (by show w.heap.size + 1 + 1 ≠ w.heap.size; omega) _, h.bel.setCell (p := ⟨w.heap.size, 5, none⟩) (Nat.le_refl _) _⟩
end
theorem seesK_drew {W : World} {k : Kp} {a b c : Value} (h : SeesK W k a b c) : SeesK W.drew k a b c := ⟨h.held, h.marks, h.inbox⟩
set_option maxRecDepth 100000 in
set_option maxHeartbeats 1000000 in
theorem take_any (w : World) (k : Kp) (a b c : Value) (x : Nt) (h : SeesK w k a b c) (hl : k.held.length ≤ 1048576 ∧ k.marks.length ≤ 1048576 ∧ k.inbox.length ≤ 1048576) (hx : x.s.size ≤ maxLen) :
  Calls Tryz.prog 112 #[kpV k.id k.time k.next a b c, ntV x] w (ResK w (takeS k x) (takeB k x) a b c) := by
 have HS := Lib.hid h
 have hT := TB.new w k a b c x
 have H1 := Lib.hid (fun V (hV : Below w.heap.size w V) => fresh_any V k a b c x (h.later hV) hl hx)
 have H2 := Lib.hid (fun V (hV : Below w.heap.size w V) => putN_any V a k.held x (h.held.later hV) hl.1)
 have H3 := Lib.hid (fun V (hV : Below w.heap.size w V) => putN_any V c k.inbox x (h.inbox.later hV) hl.2.2)
 have H4 := Lib.hid (fun V (hV : Below w.heap.size w V) => putM_any V b k.marks ⟨x.f, x.n, x.u⟩ (h.marks.later hV) hl.2.1)
 unfold BoolK ntV note at H1
 unfold ListN ntV note at H2 H3
 unfold ListM mkV mark at H4
 have HL := Lib.hid hl
 obtain ⟨Aa, ca, rfl, _⟩ := h.held
 obtain ⟨Ab, cb, rfl, _⟩ := h.marks
 obtain ⟨Ac, cc, rfl, _⟩ := h.inbox
 unfold ntV note
 clear h hl
 go_enter Tryz.func112, Tryz.ntmps112
 go_wp2_with fail
 generalize ((w.alloc (.cells #[.int .i64 k.id, .int .i64 k.time, .int .i64 k.next, .slice Aa k.held.length ca, .slice Ab k.marks.length cb, .slice Ac k.inbox.length cc] 39)).alloc (.cells #[.int .i64 x.f, .int .i64 x.n, .int .i64 x.t, .int .i64 x.u, .string x.s] 105)).alloc (.cells #[.int .i64 0, .int .i64 0, .int .i64 0, .slice none 0 0, .slice none 0 0, .slice none 0 0] 39) = V at hT ⊢
 with_reducible refine (H1.out _ hT.bel).mono ?_
 rintro e w1 ⟨rfl, hB1⟩
 have HT := Lib.hid (hT.later hB1)
 clear hT hB1 H1
 obtain ⟨b0, b1, b2, b3, b4, b5, _, _, _, g3, g4, g5⟩ := res_cells HT.out.box
 obtain ⟨r0, r1, r2, r3, r4, r5, f0, f1, f2, f3, f4, f5⟩ := res_cells HT.out.res
 obtain ⟨n0, n1, n2, n3, n4⟩ := nt_cells HT.out.nt
 cases hf : fresh k x with
 | false =>
  have HE := Lib.hid (show takeS k x = k by unfold takeS; rw [hf]; rfl)
  have HB := Lib.hid (show takeB k x = false by unfold takeB; rw [hf]; rfl)
  have HC := Lib.hid (put6_blk (a' := .int .i64 k.id) (b' := .int .i64 k.time) (c' := .int .i64 k.next) (d' := .slice Aa k.held.length ca) (e' := .slice Ab k.marks.length cb) (f' := .slice Ac k.inbox.length cc) HT.out.res)
  have HD := Lib.hid (put6_below (B := w.heap.size) (R := w.heap.size + 1 + 1) (by omega) HT.out.bel (.int .i64 k.id) (.int .i64 k.time) (.int .i64 k.next) (.slice Aa k.held.length ca) (.slice Ab k.marks.length cb) (.slice Ac k.inbox.length cc))
  go_wp2
  have x0 := HC.out.cell 0
  have x1 := HC.out.cell 1
  have x2 := HC.out.cell 2
  have x3 := HC.out.cell 3
  have x4 := HC.out.cell 4
  have x5 := HC.out.cell 5
  refine bodyPost_ret (v := .tuple #[kpV k.id k.time k.next (.slice Aa k.held.length ca) (.slice Ab k.marks.length cb) (.slice Ac k.inbox.length cc), .bool false]) (by simp [results, Tryz.results112, go_sem, x0, x1, x2, x3, x4, x5]) rfl ⟨_, _, _, by rw [HE.out, HB.out], ?_, HD.out, From.refl _ _, From.refl _ _, From.refl _ _⟩
  rw [HE.out]
  exact HS.out.later HD.out
 | true =>
  by_cases ht : x.t = k.id
  ·have kt : (x.t != k.id) = false := by simpa using ht
   have HE := Lib.hid (show takeS k x = { k with inbox := putN k.inbox x, marks := putM k.marks ⟨x.f, x.n, x.u⟩ } by unfold takeS; rw [if_pos hf, if_pos ht])
   have HB := Lib.hid (show takeB k x = decide ((k.held.length : Int) + ((putM k.marks ⟨x.f, x.n, x.u⟩).length : Int) ≤ 12) by unfold takeB; rw [HE.out, hf, Bool.true_and])
   have hln : (putM k.marks ⟨x.f, x.n, x.u⟩).length ≤ 1048577 := by have := HL.out.2.1; rw [putM_len]; omega
   have hl2 := HL.out.1
   clear hf ht H2
   go_wp2_with fail
   with_reducible refine (H3.out _ HT.out.bel).mono ?_
   rintro e w2 ⟨vi, rfl, hO⟩
   obtain ⟨A1, c1, rfl⟩ := OwnR.form hO
   have hT2 := HT.out.later hO.2
   have hz1 := HT.out.res.lt
   have hzz1 := hO.2.size
   have O1 : OwnAt ntS 105 w1.heap.size w2 (.slice A1 (putN k.inbox x).length c1) ((putN k.inbox x)) := hO.1
   clear b0 b1 b2 b3 b4 b5 g3 g4 g5 r0 r1 r2 r3 r4 r5 f0 f1 f2 f3 f4 f5 n0 n1 n2 n3 n4 HT
   obtain ⟨b0, b1, b2, b3, b4, b5, _, _, _, g3, g4, g5⟩ := res_cells hT2.box
   have HTn := Lib.hid (hT2.put5 (.slice A1 (putN k.inbox x).length c1))
   have P1 := Lib.hid (OwnAt.set O1 (p := ⟨w.heap.size, 5, none⟩) (by show w.heap.size < w1.heap.size; omega) (.slice A1 (putN k.inbox x).length c1))
   clear hT2 O1
   clear hO H3
   obtain ⟨n1, hn1⟩ : ∃ n, n = (putN k.inbox x).length := ⟨_, rfl⟩
   rw [← hn1] at HTn P1 ⊢
   clear hn1
   go_upto_region 7 with (fail)
   clear b0 b1 b2 b3 b4 b5 g3 g4 g5
   have z2 : (w2.setCell ⟨w.heap.size, 5, none⟩ (.slice A1 n1 c1)).heap.size = w2.heap.size := by simp
   have HZ := Lib.hid z2
   clear z2
   generalize w2.setCell ⟨w.heap.size, 5, none⟩ (.slice A1 n1 c1) = V2 at HTn P1 HZ ⊢
   have HT := HTn
   clear HTn
   obtain ⟨b0, b1, b2, b3, b4, b5, _, _, _, g3, g4, g5⟩ := res_cells HT.out.box
   obtain ⟨r0, r1, r2, r3, r4, r5, f0, f1, f2, f3, f4, f5⟩ := res_cells HT.out.res
   obtain ⟨n0, n2, n3, n4, n5⟩ := nt_cells HT.out.nt
   go_wp2_with fail
   with_reducible refine (H4.out _ HT.out.bel).mono ?_
   rintro e w3 ⟨vm, rfl, hO⟩
   obtain ⟨A2, c2, rfl⟩ := OwnR.form hO
   have hT2 := HT.out.later hO.2
   have hz2 := HT.out.res.lt
   have hzz2 := hO.2.size
   have O2 : OwnAt mkS 108 V2.heap.size w3 (.slice A2 (putM k.marks ⟨x.f, x.n, x.u⟩).length c2) ((putM k.marks ⟨x.f, x.n, x.u⟩)) := hO.1
   clear b0 b1 b2 b3 b4 b5 g3 g4 g5 r0 r1 r2 r3 r4 r5 f0 f1 f2 f3 f4 f5 n0 n2 n3 n4 n5 HT
   obtain ⟨b0, b1, b2, b3, b4, b5, _, _, _, g3, g4, g5⟩ := res_cells hT2.box
   have HTn := Lib.hid (hT2.put4 (.slice A2 (putM k.marks ⟨x.f, x.n, x.u⟩).length c2))
   have P2 := Lib.hid (OwnAt.set O2 (p := ⟨w.heap.size, 4, none⟩) (by show w.heap.size < V2.heap.size; omega) (.slice A2 (putM k.marks ⟨x.f, x.n, x.u⟩).length c2))
   clear hT2 O2
   have Q1 := Lib.hid (OwnAt.set (OwnAt.later P1.out hO.2) (p := ⟨w.heap.size, 4, none⟩) (by show w.heap.size < w1.heap.size; omega) (.slice A2 (putM k.marks ⟨x.f, x.n, x.u⟩).length c2))
   clear hO H4 P1
   obtain ⟨n2, hn2⟩ : ∃ n, n = (putM k.marks ⟨x.f, x.n, x.u⟩).length := ⟨_, rfl⟩
   rw [← hn2] at HB hln HTn P2 Q1 ⊢
   clear hn2
   go_upto_region 8 with (fail)
   clear b0 b1 b2 b3 b4 b5 g3 g4 g5
   generalize w3.setCell ⟨w.heap.size, 4, none⟩ (.slice A2 n2 c2) = V3 at HTn P2 Q1 ⊢
   have HC := Lib.hid (put6_blk (V := V3) (a' := .int .i64 k.id) (b' := .int .i64 k.time) (c' := .int .i64 k.next) (d' := (.slice Aa k.held.length ca)) (e' := (.slice A2 n2 c2)) (f' := (.slice A1 n1 c1)) HTn.out.res)
   have HD0 := Lib.hid (put6_below (V := V3) (B := w.heap.size) (R := w.heap.size + 1 + 1) (by omega) HTn.out.bel (.int .i64 k.id) (.int .i64 k.time) (.int .i64 k.next) (.slice Aa k.held.length ca) (.slice A2 n2 c2) (.slice A1 n1 c1))
   have HD := Lib.hid HD0.out.drew
   obtain ⟨b0, b1, b2, b3, b4, b5, _, _, _, g3, g4, g5⟩ := res_cells HTn.out.box
   obtain ⟨r0, r1, r2, r3, r4, r5, f0, f1, f2, f3, f4, f5⟩ := res_cells HTn.out.res
   have HG := Lib.hid (seesK_drew (show SeesK (put6 V3 (w.heap.size + 1 + 1) (.int .i64 k.id) (.int .i64 k.time) (.int .i64 k.next) (.slice Aa k.held.length ca) (.slice A2 n2 c2) (.slice A1 n1 c1)) { k with inbox := putN k.inbox x, marks := putM k.marks ⟨x.f, x.n, x.u⟩ } (.slice Aa k.held.length ca) (.slice A2 n2 c2) (.slice A1 n1 c1) from ⟨HS.out.held.later HD0.out, OwnAt.sees (OwnAt.put6 (W := V3) P2.out (R := w.heap.size + 1 + 1) (by omega) _ _ _ _ _ _), OwnAt.sees (OwnAt.put6 (W := V3) Q1.out (R := w.heap.size + 1 + 1) (by omega) _ _ _ _ _ _)⟩))
   have HZZ := Lib.hid (show ResK w (takeS k x) (takeB k x) (.slice Aa k.held.length ca) (.slice Ab k.marks.length cb) (.slice Ac k.inbox.length cc) (.returned (.tuple #[kpV k.id k.time k.next (.slice Aa k.held.length ca) (.slice A2 n2 c2) (.slice A1 n1 c1), .bool (decide ((k.held.length : Int) + (n2 : Int) ≤ 12))])) (put6 V3 (w.heap.size + 1 + 1) (.int .i64 k.id) (.int .i64 k.time) (.int .i64 k.next) (.slice Aa k.held.length ca) (.slice A2 n2 c2) (.slice A1 n1 c1)).drew from by
    rw [HE.out, HB.out]
    exact ⟨(.slice Aa k.held.length ca), (.slice A2 n2 c2), (.slice A1 n1 c1), rfl, HG.out, HD.out, From.refl _ _, From.own P2.out (by omega), From.own Q1.out (by omega)⟩)
   have i0 : IntKind.i64.wrap ((k.held.length : Int) + (n2 : Int)) = (k.held.length : Int) + (n2 : Int) := by rw [IntKind.wrap_i64]; omega
   go_region
   clear i0
   go_wp2
   have x0 := HC.out.cell 0
   have x1 := HC.out.cell 1
   have x2 := HC.out.cell 2
   have x3 := HC.out.cell 3
   have x4 := HC.out.cell 4
   have x5 := HC.out.cell 5
   refine bodyPost_ret (v := .tuple #[kpV k.id k.time k.next (.slice Aa k.held.length ca) (.slice A2 n2 c2) (.slice A1 n1 c1), .bool (decide ((k.held.length : Int) + (n2 : Int) ≤ 12))]) (by simp [results, Tryz.results112, go_sem, x0, x1, x2, x3, x4, x5]) rfl HZZ.out
  ·have kt : (x.t != k.id) = true := by simpa using ht
   have HE := Lib.hid (show takeS k x = { k with held := putN k.held x } by unfold takeS; rw [if_pos hf, if_neg ht])
   have HB := Lib.hid (show takeB k x = decide (((putN k.held x).length : Int) + (k.marks.length : Int) ≤ 12) by unfold takeB; rw [HE.out, hf, Bool.true_and])
   have hln : (putN k.held x).length ≤ 1048577 := by have := HL.out.1; rw [putN_len]; omega
   have hl2 := HL.out.2.1
   clear hf ht
   go_wp2_with fail
   with_reducible refine (H2.out _ HT.out.bel).mono ?_
   rintro e w2 ⟨vh, rfl, hO⟩
   obtain ⟨A1, c1, rfl⟩ := OwnR.form hO
   have hT2 := HT.out.later hO.2
   have hz1 := HT.out.res.lt
   have hzz1 := hO.2.size
   have O1 : OwnAt ntS 105 w1.heap.size w2 (.slice A1 (putN k.held x).length c1) ((putN k.held x)) := hO.1
   clear b0 b1 b2 b3 b4 b5 g3 g4 g5 r0 r1 r2 r3 r4 r5 f0 f1 f2 f3 f4 f5 n0 n1 n2 n3 n4 HT
   obtain ⟨b0, b1, b2, b3, b4, b5, _, _, _, g3, g4, g5⟩ := res_cells hT2.box
   have HTn := Lib.hid (hT2.put3 (.slice A1 (putN k.held x).length c1))
   have P1 := Lib.hid (OwnAt.set O1 (p := ⟨w.heap.size, 3, none⟩) (by show w.heap.size < w1.heap.size; omega) (.slice A1 (putN k.held x).length c1))
   clear hT2 O1
   clear hO H2
   obtain ⟨n1, hn1⟩ : ∃ n, n = (putN k.held x).length := ⟨_, rfl⟩
   rw [← hn1] at HB hln HTn P1 ⊢
   clear hn1
   go_upto_region 5 with (fail)
   clear b0 b1 b2 b3 b4 b5 g3 g4 g5
   generalize w2.setCell ⟨w.heap.size, 3, none⟩ (.slice A1 n1 c1) = V2 at HTn P1 ⊢
   have HC := Lib.hid (put6_blk (V := V2) (a' := .int .i64 k.id) (b' := .int .i64 k.time) (c' := .int .i64 k.next) (d' := (.slice A1 n1 c1)) (e' := (.slice Ab k.marks.length cb)) (f' := (.slice Ac k.inbox.length cc)) HTn.out.res)
   have HD0 := Lib.hid (put6_below (V := V2) (B := w.heap.size) (R := w.heap.size + 1 + 1) (by omega) HTn.out.bel (.int .i64 k.id) (.int .i64 k.time) (.int .i64 k.next) (.slice A1 n1 c1) (.slice Ab k.marks.length cb) (.slice Ac k.inbox.length cc))
   have HD := Lib.hid HD0.out.drew
   obtain ⟨b0, b1, b2, b3, b4, b5, _, _, _, g3, g4, g5⟩ := res_cells HTn.out.box
   obtain ⟨r0, r1, r2, r3, r4, r5, f0, f1, f2, f3, f4, f5⟩ := res_cells HTn.out.res
   have HG := Lib.hid (seesK_drew (show SeesK (put6 V2 (w.heap.size + 1 + 1) (.int .i64 k.id) (.int .i64 k.time) (.int .i64 k.next) (.slice A1 n1 c1) (.slice Ab k.marks.length cb) (.slice Ac k.inbox.length cc)) { k with held := putN k.held x } (.slice A1 n1 c1) (.slice Ab k.marks.length cb) (.slice Ac k.inbox.length cc) from ⟨OwnAt.sees (OwnAt.put6 (W := V2) P1.out (R := w.heap.size + 1 + 1) (by omega) _ _ _ _ _ _), HS.out.marks.later HD0.out, HS.out.inbox.later HD0.out⟩))
   have HZZ := Lib.hid (show ResK w (takeS k x) (takeB k x) (.slice Aa k.held.length ca) (.slice Ab k.marks.length cb) (.slice Ac k.inbox.length cc) (.returned (.tuple #[kpV k.id k.time k.next (.slice A1 n1 c1) (.slice Ab k.marks.length cb) (.slice Ac k.inbox.length cc), .bool (decide ((n1 : Int) + (k.marks.length : Int) ≤ 12))])) (put6 V2 (w.heap.size + 1 + 1) (.int .i64 k.id) (.int .i64 k.time) (.int .i64 k.next) (.slice A1 n1 c1) (.slice Ab k.marks.length cb) (.slice Ac k.inbox.length cc)).drew from by
    rw [HE.out, HB.out]
    exact ⟨(.slice A1 n1 c1), (.slice Ab k.marks.length cb), (.slice Ac k.inbox.length cc), rfl, HG.out, HD.out, From.own P1.out (by omega), From.refl _ _, From.refl _ _⟩)
   have i0 : IntKind.i64.wrap ((n1 : Int) + (k.marks.length : Int)) = (n1 : Int) + (k.marks.length : Int) := by rw [IntKind.wrap_i64]; omega
   go_region
   clear i0
   go_wp2
   have x0 := HC.out.cell 0
   have x1 := HC.out.cell 1
   have x2 := HC.out.cell 2
   have x3 := HC.out.cell 3
   have x4 := HC.out.cell 4
   have x5 := HC.out.cell 5
   refine bodyPost_ret (v := .tuple #[kpV k.id k.time k.next (.slice A1 n1 c1) (.slice Ab k.marks.length cb) (.slice Ac k.inbox.length cc), .bool (decide ((n1 : Int) + (k.marks.length : Int) ≤ 12))]) (by simp [results, Tryz.results112, go_sem, x0, x1, x2, x3, x4, x5]) rfl HZZ.out
end Go.Proofs.YtckicpnnclbkpaaGreatDoor.kp

