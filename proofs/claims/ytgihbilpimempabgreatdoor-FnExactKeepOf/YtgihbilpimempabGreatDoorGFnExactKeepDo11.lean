/-
  Merged texts: SPut, SFresh.
-/
import Derived.Test.YtgihbilpimempabGreatDoorGFnExactKeepDo10
import Derived.Test.YtgihbilpimempabGreatDoorGFnExactKeepDo6
import Derived.OwnWalk
/-
  Contracts of spec.l12PutNote, l12PutMark: a message, a mark is put among the others, in order.
-/
namespace Go.Proofs.YtgihbilpimempabGreatDoor.kp
open Go.ChangeShapes Go.WideShapes Go.ChangeAt Go.RowKit
open Go.Proofs.YtgihbilpimempabGreatDoor.wd Go.Proofs.YtgihbilpimempabGreatDoor.ow Go.Proofs.YtgihbilpimempabGreatDoor.rl Go.Proofs.YtgihbilpimempabGreatDoor.ok Go.Proofs.YtgihbilpimempabGreatDoor.nb

/-- a list of the call's own that has grown by an append -/
theorem OwnAt.grew {α : Type} {S : Shape α} {t : TypeId} {B : Nat} {W : World} {v : Value} {l : List α} {y : α} {n : Nat} (h : W.ownsRow B t S.n v n (l.flatMap S.f ++ [y].flatMap S.f)) (hn : n = l.length + 1) : OwnAt S t B W v (l ++ [y]) := by
  subst hn
  unfold OwnAt
  rw [List.flatMap_append, List.length_append]
  exact h
theorem part_one {α : Type} {S : Shape α} {t : TypeId} (W : World) (y : α) {cs : Array Value} (hc : cs.toList = S.f y) : PartR S (W.alloc (.cells cs t)) (some ⟨W.heap.size, 0, none⟩) 1 [y] := by
  refine .inr ⟨W.heap.size, 0, rfl, fun j u hu => ?_⟩
  rw [List.flatMap_cons, List.flatMap_nil, List.append_nil, ← hc] at hu
  rw [Nat.zero_add, (Blk.new W t cs).cell j]
  simpa using hu
theorem ownAt_new {α : Type} {S : Shape α} {t : TypeId} {B : Nat} (W : World) (hB : B ≤ W.heap.size) : OwnAt S t B (W.alloc (.cells #[] t)) (.slice (some ⟨W.heap.size, 0, none⟩) 0 0) ([] : List α) :=
  World.ownsRow_lit W #[] 0 hB (by unfold maxLen; omega) (by simp)
theorem OwnAt.keepBlk {α : Type} {S : Shape α} {t t' : TypeId} {B g : Nat} {W W' : World} {v : Value} {l : List α} {cs : Array Value} (h : OwnAt S t B W v l) (hG : W.grownBy W' v.ownBlock) (hb : Blk W g t' cs) (hg : g < B) : Blk W' g t' cs :=
  (hG.block g hb.lt (fun e => by have := (World.ownsRow.lt h g e.symm).1; omega)).trans hb
theorem OwnAt.below {α : Type} {S : Shape α} {t : TypeId} {B : Nat} {W W' : World} {v : Value} {l : List α} (h : OwnAt S t B W v l) (hG : W.grownBy W' v.ownBlock) (hB : B ≤ W.heap.size) : Below B W W' :=
  ⟨hG.os, hG.tape, hG.output, hG.size, fun k hk => hG.block k (by omega) (fun e => by have := (World.ownsRow.lt h k e.symm).1; omega)⟩
theorem OwnAt.alloc {α : Type} {S : Shape α} {t : TypeId} {B : Nat} {W : World} {v : Value} {l : List α} (h : OwnAt S t B W v l) (o : Obj) : OwnAt S t B (W.alloc o) v l := World.ownsRow.alloc h o

/-- while a message is put: its box, the list so far -/
structure PBN (w V : World) (x : Nt) (v : Value) (out : List Nt) : Prop where
  box : Blk V w.heap.size 74 #[.int .i64 x.f, .int .i64 x.n, .int .i64 x.t, .int .i64 x.u, .string x.s]
  own : OwnAt ntS 74 (w.heap.size + 1) V v out
  bel : Below w.heap.size w V
  sz : w.heap.size + 1 ≤ V.heap.size
section
variable {w V V' : World} {x y : Nt} {v v' : Value} {out : List Nt}
theorem PBN.new (w : World) (x : Nt) : PBN w ((w.alloc (.cells #[.int .i64 x.f, .int .i64 x.n, .int .i64 x.t, .int .i64 x.u, .string x.s] 74)).alloc (.cells #[] 74)) x (.slice (some ⟨w.heap.size + 1, 0, none⟩) 0 0) [] := by
  have h1 := ownAt_new (S := ntS) (t := 74) (B := w.heap.size + 1) (w.alloc (.cells #[.int .i64 x.f, .int .i64 x.n, .int .i64 x.t, .int .i64 x.u, .string x.s] 74)) (by simp)
  simp only [World.size_alloc] at h1
  exact ⟨(Blk.new w _ _).alloc _, h1, ((Below.refl _ w).alloc (Nat.le_refl _) _).alloc (by simp) _, by simp⟩
theorem PBN.drewN (h : PBN w V x v out) (q : Nat) : PBN w (V.drewN q) x v out := ⟨h.box, h.own, below_drewN' h.bel q, h.sz⟩
theorem PBN.more {n : Nat} {o : Obj} (h : PBN w V x v out) (h1 : V'.ownsRow (w.heap.size + 1) 74 (ntS).n v' n (out.flatMap (ntS).f ++ [y].flatMap (ntS).f)) (hn : n = out.length + 1) (hg : (V.alloc o).grownBy V' v.ownBlock) : PBN w V' x v' (out ++ [y]) := by
  have hO := h.own.alloc o
  have hz : (V.alloc o).heap.size = V.heap.size + 1 := by simp
  have hB := hO.below hg (by have := h.sz; omega)
  exact ⟨hO.keepBlk hg (h.box.alloc o) (by omega), OwnAt.grew h1 hn, (h.bel.alloc h.bel.size o).trans (hB.mono (by omega)), by have := h.sz; have := hg.size; omega⟩
theorem PBN.done (h : PBN w V x v out) : OwnR ntS 74 w V v out := ⟨OwnAt.down h.own (by omega), h.bel⟩
end

set_option maxRecDepth 100000 in
set_option maxHeartbeats 1600000 in
theorem putN_any (w : World) (v : Value) (l : List Nt) (x : Nt) (h : SeesN w v l) (hl : l.length ≤ 1048576) :
    Calls Tryz.prog 77 #[v, ntV x] w (ListN w (putN l x)) := by
  obtain ⟨i0, hi, hz0, hz1, hz2⟩ := info_parts infoNote
  have HS := Lib.hid h
  obtain ⟨A, c, rfl, _⟩ := h
  have hP := PBN.new w x
  have HE := Lib.hid (show putN l x = putL (fun y => less x.f x.n y.f y.n) l x from rfl)
  unfold ntV note
  go_enter Tryz.func77, Tryz.ntmps77
  go_wp2
  have HP := Lib.hid hP
  clear hP
  go_loopw [5, 6, 7] (fun ov dv i wr => ∃ (k : Nat) (b : Bool) (out : List Nt), k ≤ l.length ∧ i = .int .i64 k ∧ dv = .bool b ∧ Hid (Putting (fun y => less x.f x.n y.f y.n) l x k b out) ∧ Hid (PBN w wr x ov out)) (fun _ _ i _ => (l.length + 1 : Nat) - (intOf i).toNat)
  case atStart => exact ⟨0, false, [], by omega, rfl, rfl, put_start, HP.out⟩
  case round =>
    obtain ⟨k, bb, out, hk, rfl, rfl, HQ, HP1⟩ := hrel
    clear HP
    have hlen := put_len HQ.out
    have hsz := HP1.out.sz
    by_cases hkl : k < l.length
    · have hx : l[k]? = some l[k] := List.getElem?_eq_getElem hkl
      have hc := note_at (HS.out.later HP1.out.bel) hx
      generalize l[k] = y at hx hc
      obtain ⟨g, c', e, hg, _, t0, t1, t2, t3, t4⟩ := hc
      injection e with e1 e2 e3
      subst e1; subst e3
      have hk0 : (0 : Int) ≤ (k : Int) := by omega
      have hk1 : (k : Int) < (l.length : Int) := by omega
      obtain ⟨n0, n1, n2, n3, n4⟩ := nt_cells HP1.out.box
      have HL := Lib.hid (fun V => (less_any x.f x.n y.f y.n V).mono (R' := fun e w' => e = .returned (.bool (less x.f x.n y.f y.n)) ∧ w' = V) fun _ _ h => ⟨h.1, h.2.symm⟩)
      cases bb with
      | true =>
        have HQ2 := Lib.hid (put_on HQ.out hx)
        clear hx
        go_wp2_with fail
        go_quiet (fail)
        go_wp2_with (at_builtin; refine wpList_append_recs ntS (by decide) rfl _ _ 26 rfl (w.heap.size + 1) 74 i0 _ 48 Tryz.underlying26 hi hz0 hz1 hz2 rfl _ _ _ rfl ((HP1.out.drewN nq).own.alloc _) (some ⟨(wr.drewN nq).heap.size, 0, none⟩) 1 1 [y] rfl rfl (part_one (wr.drewN nq) y rfl) ?e3 ?e4 ?e5 ?_)
        case e3 => (show out.length + 1 ≤ maxLen); unfold maxLen; omega
        case e4 => (show (out.length + 1) * 48 ≤ 140737488355328); omega
        case e5 => first | omega | (simp; omega)
        intro v8 w8 hown hgrow
        have HP8 := Lib.hid ((HP1.out.drewN nq).more hown rfl hgrow)
        clear hown hgrow
        go_wp2
        go_roundw
        case rel => first | exact ⟨k + 1, true, _, by omega, by go_num, rfl, HQ2.out, HP8.out⟩ | ((repeat apply Exists.intro); refine And.intro ?_ rfl; exact ⟨k + 1, true, _, by omega, by go_num, rfl, HQ2.out, HP8.out⟩)
        case measure => simp [intOf]; omega
      | false =>
        cases hls : less x.f x.n y.f y.n with
        | true =>
          have HQ2 := Lib.hid (put_here HQ.out hx hls)
          have HX := Lib.hid hx
          rw [hls] at HL
          clear hx hls
          go_wp2_with fail
          go_quiet ((go_at_call 107; with_reducible exact Calls.quiet_of_same (HL.out _)))
          go_wp2_with (at_builtin; refine wpList_append_recs ntS (by decide) rfl _ _ 26 rfl (w.heap.size + 1) 74 i0 _ 48 Tryz.underlying26 hi hz0 hz1 hz2 rfl _ _ _ rfl ((HP1.out.drewN nq).own.alloc _) (some ⟨(wr.drewN nq).heap.size, 0, none⟩) 1 1 [x] rfl rfl (part_one (wr.drewN nq) x rfl) ?e3 ?e4 ?e5 ?_)
          case e3 => (show out.length + 1 ≤ maxLen); unfold maxLen; omega
          case e4 => (show (out.length + 1) * 48 ≤ 140737488355328); omega
          case e5 => first | omega | (simp; omega)
          intro v8 w8 hown hgrow
          have HP8 := Lib.hid ((HP1.out.drewN nq).more hown rfl hgrow)
          clear hown hgrow
          have hl8 : (out ++ [x]).length ≤ k + 2 := by simp; omega
          generalize out ++ [x] = o2 at HP8 HQ2 hl8
          have hs8 := HP8.out.sz
          have hc8 := note_at (HS.out.later HP8.out.bel) HX.out
          obtain ⟨g8, c8, e8, _, _, r0, r1, r2, r3, r4⟩ := hc8
          injection e8 with e8 _ e9
          injection e8 with e8
          injection e8 with e8
          subst e8
          subst e9
          clear t0 t1 t2 t3 t4 n0 n1 n2 n3 n4
          go_wp2_with (at_builtin; refine wpList_append_recs ntS (by decide) rfl _ _ 26 rfl (w.heap.size + 1) 74 i0 _ 48 Tryz.underlying26 hi hz0 hz1 hz2 rfl _ _ _ rfl (HP8.out.own.alloc _) (some ⟨w8.heap.size, 0, none⟩) 1 1 [y] rfl rfl (part_one w8 y rfl) ?e3 ?e4 ?e5 ?_)
          case e3 => (show o2.length + 1 ≤ maxLen); unfold maxLen; omega
          case e4 => (show (o2.length + 1) * 48 ≤ 140737488355328); omega
          case e5 => first | omega | (simp; omega)
          intro v9 w9 hown hgrow
          have HP9 := Lib.hid (HP8.out.more hown rfl hgrow)
          clear hown hgrow
          go_wp2
          go_roundw
          case rel => first | exact ⟨k + 1, true, _, by omega, by go_num, rfl, HQ2.out, HP9.out⟩ | ((repeat apply Exists.intro); refine And.intro ?_ rfl; exact ⟨k + 1, true, _, by omega, by go_num, rfl, HQ2.out, HP9.out⟩)
          case measure => simp [intOf]; omega
        | false =>
          have HQ2 := Lib.hid (put_skip HQ.out hx hls)
          rw [hls] at HL
          clear hx hls
          go_wp2_with fail
          go_quiet ((go_at_call 107; with_reducible exact Calls.quiet_of_same (HL.out _)))
          go_wp2_with (at_builtin; refine wpList_append_recs ntS (by decide) rfl _ _ 26 rfl (w.heap.size + 1) 74 i0 _ 48 Tryz.underlying26 hi hz0 hz1 hz2 rfl _ _ _ rfl ((HP1.out.drewN nq).own.alloc _) (some ⟨(wr.drewN nq).heap.size, 0, none⟩) 1 1 [y] rfl rfl (part_one (wr.drewN nq) y rfl) ?e3 ?e4 ?e5 ?_)
          case e3 => (show out.length + 1 ≤ maxLen); unfold maxLen; omega
          case e4 => (show (out.length + 1) * 48 ≤ 140737488355328); omega
          case e5 => first | omega | (simp; omega)
          intro v8 w8 hown hgrow
          have HP8 := Lib.hid ((HP1.out.drewN nq).more hown rfl hgrow)
          clear hown hgrow
          go_wp2
          go_roundw
          case rel => first | exact ⟨k + 1, false, _, by omega, by go_num, rfl, HQ2.out, HP8.out⟩ | ((repeat apply Exists.intro); refine And.intro ?_ rfl; exact ⟨k + 1, false, _, by omega, by go_num, rfl, HQ2.out, HP8.out⟩)
          case measure => simp [intOf]; omega
    · obtain ⟨n0, n1, n2, n3, n4⟩ := nt_cells HP1.out.box
      cases bb with
      | true =>
        have HR := Lib.hid (put_end HQ.out (by omega))
        go_wp2
        go_ret
        exact ⟨_, rfl, by rw [HE.out, ← HR.out]; exact HP1.out.done⟩
      | false =>
        have HR := Lib.hid (put_last HQ.out (by omega))
        go_wp2_with (at_builtin; refine wpList_append_recs ntS (by decide) rfl _ _ 26 rfl (w.heap.size + 1) 74 i0 _ 48 Tryz.underlying26 hi hz0 hz1 hz2 rfl _ _ _ rfl (HP1.out.own.alloc _) (some ⟨wr.heap.size, 0, none⟩) 1 1 [x] rfl rfl (part_one wr x rfl) ?e3 ?e4 ?e5 ?_)
        case e3 => (show out.length + 1 ≤ maxLen); unfold maxLen; omega
        case e4 => (show (out.length + 1) * 48 ≤ 140737488355328); omega
        case e5 => first | omega | (simp; omega)
        intro v8 w8 hown hgrow
        have HP8 := Lib.hid (HP1.out.more hown rfl hgrow)
        clear hown hgrow
        go_wp2
        go_ret
        exact ⟨_, rfl, by rw [HE.out, ← HR.out]; exact HP8.out.done⟩

/-- while a mark is put: its box, the list so far -/
structure PBM (w V : World) (x : Mk) (v : Value) (out : List Mk) : Prop where
  box : Blk V w.heap.size 88 #[.int .i64 x.f, .int .i64 x.n, .int .i64 x.u]
  own : OwnAt mkS 88 (w.heap.size + 1) V v out
  bel : Below w.heap.size w V
  sz : w.heap.size + 1 ≤ V.heap.size
section
variable {w V V' : World} {x y : Mk} {v v' : Value} {out : List Mk}
theorem PBM.new (w : World) (x : Mk) : PBM w ((w.alloc (.cells #[.int .i64 x.f, .int .i64 x.n, .int .i64 x.u] 88)).alloc (.cells #[] 88)) x (.slice (some ⟨w.heap.size + 1, 0, none⟩) 0 0) [] := by
  have h1 := ownAt_new (S := mkS) (t := 88) (B := w.heap.size + 1) (w.alloc (.cells #[.int .i64 x.f, .int .i64 x.n, .int .i64 x.u] 88)) (by simp)
  simp only [World.size_alloc] at h1
  exact ⟨(Blk.new w _ _).alloc _, h1, ((Below.refl _ w).alloc (Nat.le_refl _) _).alloc (by simp) _, by simp⟩
theorem PBM.drewN (h : PBM w V x v out) (q : Nat) : PBM w (V.drewN q) x v out := ⟨h.box, h.own, below_drewN' h.bel q, h.sz⟩
theorem PBM.more {n : Nat} {o : Obj} (h : PBM w V x v out) (h1 : V'.ownsRow (w.heap.size + 1) 88 (mkS).n v' n (out.flatMap (mkS).f ++ [y].flatMap (mkS).f)) (hn : n = out.length + 1) (hg : (V.alloc o).grownBy V' v.ownBlock) : PBM w V' x v' (out ++ [y]) := by
  have hO := h.own.alloc o
  have hz : (V.alloc o).heap.size = V.heap.size + 1 := by simp
  have hB := hO.below hg (by have := h.sz; omega)
  exact ⟨hO.keepBlk hg (h.box.alloc o) (by omega), OwnAt.grew h1 hn, (h.bel.alloc h.bel.size o).trans (hB.mono (by omega)), by have := h.sz; have := hg.size; omega⟩
theorem PBM.done (h : PBM w V x v out) : OwnR mkS 88 w V v out := ⟨OwnAt.down h.own (by omega), h.bel⟩
end

set_option maxRecDepth 100000 in
set_option maxHeartbeats 1600000 in
theorem putM_any (w : World) (v : Value) (l : List Mk) (x : Mk) (h : SeesMk w v l) (hl : l.length ≤ 1048576) :
    Calls Tryz.prog 81 #[v, mkV x] w (ListM w (putM l x)) := by
  obtain ⟨i0, hi, hz0, hz1, hz2⟩ := info_parts infoMark
  have HS := Lib.hid h
  obtain ⟨A, c, rfl, _⟩ := h
  have hP := PBM.new w x
  have HE := Lib.hid (show putM l x = putL (fun y => less x.f x.n y.f y.n) l x from rfl)
  unfold mkV mark
  go_enter Tryz.func81, Tryz.ntmps81
  go_wp2
  have HP := Lib.hid hP
  clear hP
  go_loopw [5, 6, 7] (fun ov dv i wr => ∃ (k : Nat) (b : Bool) (out : List Mk), k ≤ l.length ∧ i = .int .i64 k ∧ dv = .bool b ∧ Hid (Putting (fun y => less x.f x.n y.f y.n) l x k b out) ∧ Hid (PBM w wr x ov out)) (fun _ _ i _ => (l.length + 1 : Nat) - (intOf i).toNat)
  case atStart => exact ⟨0, false, [], by omega, rfl, rfl, put_start, HP.out⟩
  case round =>
    obtain ⟨k, bb, out, hk, rfl, rfl, HQ, HP1⟩ := hrel
    clear HP
    have hlen := put_len HQ.out
    have hsz := HP1.out.sz
    by_cases hkl : k < l.length
    · have hx : l[k]? = some l[k] := List.getElem?_eq_getElem hkl
      have hc := mark_at (HS.out.later HP1.out.bel) hx
      generalize l[k] = y at hx hc
      obtain ⟨g, c', e, hg, _, t0, t1, t2⟩ := hc
      injection e with e1 e2 e3
      subst e1; subst e3
      have hk0 : (0 : Int) ≤ (k : Int) := by omega
      have hk1 : (k : Int) < (l.length : Int) := by omega
      obtain ⟨n0, n1, n2⟩ := mk_cells HP1.out.box
      have HL := Lib.hid (fun V => (less_any x.f x.n y.f y.n V).mono (R' := fun e w' => e = .returned (.bool (less x.f x.n y.f y.n)) ∧ w' = V) fun _ _ h => ⟨h.1, h.2.symm⟩)
      cases bb with
      | true =>
        have HQ2 := Lib.hid (put_on HQ.out hx)
        clear hx
        go_wp2_with fail
        go_quiet (fail)
        go_wp2_with (at_builtin; refine wpList_append_recs mkS (by decide) rfl _ _ 27 rfl (w.heap.size + 1) 88 i0 _ 24 Tryz.underlying27 hi hz0 hz1 hz2 rfl _ _ _ rfl ((HP1.out.drewN nq).own.alloc _) (some ⟨(wr.drewN nq).heap.size, 0, none⟩) 1 1 [y] rfl rfl (part_one (wr.drewN nq) y rfl) ?e3 ?e4 ?e5 ?_)
        case e3 => (show out.length + 1 ≤ maxLen); unfold maxLen; omega
        case e4 => (show (out.length + 1) * 24 ≤ 140737488355328); omega
        case e5 => first | omega | (simp; omega)
        intro v8 w8 hown hgrow
        have HP8 := Lib.hid ((HP1.out.drewN nq).more hown rfl hgrow)
        clear hown hgrow
        go_wp2
        go_roundw
        case rel => first | exact ⟨k + 1, true, _, by omega, by go_num, rfl, HQ2.out, HP8.out⟩ | ((repeat apply Exists.intro); refine And.intro ?_ rfl; exact ⟨k + 1, true, _, by omega, by go_num, rfl, HQ2.out, HP8.out⟩)
        case measure => simp [intOf]; omega
      | false =>
        cases hls : less x.f x.n y.f y.n with
        | true =>
          have HQ2 := Lib.hid (put_here HQ.out hx hls)
          have HX := Lib.hid hx
          rw [hls] at HL
          clear hx hls
          go_wp2_with fail
          go_quiet ((go_at_call 107; with_reducible exact Calls.quiet_of_same (HL.out _)))
          go_wp2_with (at_builtin; refine wpList_append_recs mkS (by decide) rfl _ _ 27 rfl (w.heap.size + 1) 88 i0 _ 24 Tryz.underlying27 hi hz0 hz1 hz2 rfl _ _ _ rfl ((HP1.out.drewN nq).own.alloc _) (some ⟨(wr.drewN nq).heap.size, 0, none⟩) 1 1 [x] rfl rfl (part_one (wr.drewN nq) x rfl) ?e3 ?e4 ?e5 ?_)
          case e3 => (show out.length + 1 ≤ maxLen); unfold maxLen; omega
          case e4 => (show (out.length + 1) * 24 ≤ 140737488355328); omega
          case e5 => first | omega | (simp; omega)
          intro v8 w8 hown hgrow
          have HP8 := Lib.hid ((HP1.out.drewN nq).more hown rfl hgrow)
          clear hown hgrow
          have hl8 : (out ++ [x]).length ≤ k + 2 := by simp; omega
          generalize out ++ [x] = o2 at HP8 HQ2 hl8
          have hs8 := HP8.out.sz
          have hc8 := mark_at (HS.out.later HP8.out.bel) HX.out
          obtain ⟨g8, c8, e8, _, _, r0, r1, r2⟩ := hc8
          injection e8 with e8 _ e9
          injection e8 with e8
          injection e8 with e8
          subst e8
          subst e9
          clear t0 t1 t2 n0 n1 n2
          go_wp2_with (at_builtin; refine wpList_append_recs mkS (by decide) rfl _ _ 27 rfl (w.heap.size + 1) 88 i0 _ 24 Tryz.underlying27 hi hz0 hz1 hz2 rfl _ _ _ rfl (HP8.out.own.alloc _) (some ⟨w8.heap.size, 0, none⟩) 1 1 [y] rfl rfl (part_one w8 y rfl) ?e3 ?e4 ?e5 ?_)
          case e3 => (show o2.length + 1 ≤ maxLen); unfold maxLen; omega
          case e4 => (show (o2.length + 1) * 24 ≤ 140737488355328); omega
          case e5 => first | omega | (simp; omega)
          intro v9 w9 hown hgrow
          have HP9 := Lib.hid (HP8.out.more hown rfl hgrow)
          clear hown hgrow
          go_wp2
          go_roundw
          case rel => first | exact ⟨k + 1, true, _, by omega, by go_num, rfl, HQ2.out, HP9.out⟩ | ((repeat apply Exists.intro); refine And.intro ?_ rfl; exact ⟨k + 1, true, _, by omega, by go_num, rfl, HQ2.out, HP9.out⟩)
          case measure => simp [intOf]; omega
        | false =>
          have HQ2 := Lib.hid (put_skip HQ.out hx hls)
          rw [hls] at HL
          clear hx hls
          go_wp2_with fail
          go_quiet ((go_at_call 107; with_reducible exact Calls.quiet_of_same (HL.out _)))
          go_wp2_with (at_builtin; refine wpList_append_recs mkS (by decide) rfl _ _ 27 rfl (w.heap.size + 1) 88 i0 _ 24 Tryz.underlying27 hi hz0 hz1 hz2 rfl _ _ _ rfl ((HP1.out.drewN nq).own.alloc _) (some ⟨(wr.drewN nq).heap.size, 0, none⟩) 1 1 [y] rfl rfl (part_one (wr.drewN nq) y rfl) ?e3 ?e4 ?e5 ?_)
          case e3 => (show out.length + 1 ≤ maxLen); unfold maxLen; omega
          case e4 => (show (out.length + 1) * 24 ≤ 140737488355328); omega
          case e5 => first | omega | (simp; omega)
          intro v8 w8 hown hgrow
          have HP8 := Lib.hid ((HP1.out.drewN nq).more hown rfl hgrow)
          clear hown hgrow
          go_wp2
          go_roundw
          case rel => first | exact ⟨k + 1, false, _, by omega, by go_num, rfl, HQ2.out, HP8.out⟩ | ((repeat apply Exists.intro); refine And.intro ?_ rfl; exact ⟨k + 1, false, _, by omega, by go_num, rfl, HQ2.out, HP8.out⟩)
          case measure => simp [intOf]; omega
    · obtain ⟨n0, n1, n2⟩ := mk_cells HP1.out.box
      cases bb with
      | true =>
        have HR := Lib.hid (put_end HQ.out (by omega))
        go_wp2
        go_ret
        exact ⟨_, rfl, by rw [HE.out, ← HR.out]; exact HP1.out.done⟩
      | false =>
        have HR := Lib.hid (put_last HQ.out (by omega))
        go_wp2_with (at_builtin; refine wpList_append_recs mkS (by decide) rfl _ _ 27 rfl (w.heap.size + 1) 88 i0 _ 24 Tryz.underlying27 hi hz0 hz1 hz2 rfl _ _ _ rfl (HP1.out.own.alloc _) (some ⟨wr.heap.size, 0, none⟩) 1 1 [x] rfl rfl (part_one wr x rfl) ?e3 ?e4 ?e5 ?_)
        case e3 => (show out.length + 1 ≤ maxLen); unfold maxLen; omega
        case e4 => (show (out.length + 1) * 24 ≤ 140737488355328); omega
        case e5 => first | omega | (simp; omega)
        intro v8 w8 hown hgrow
        have HP8 := Lib.hid (HP1.out.more hown rfl hgrow)
        clear hown hgrow
        go_wp2
        go_ret
        exact ⟨_, rfl, by rw [HE.out, ← HR.out]; exact HP8.out.done⟩
end Go.Proofs.YtgihbilpimempabGreatDoor.kp

/-
  Contract of spec.l12Fresh: whether a message is neither over, nor held, nor remembered, nor in the inbox.
-/
namespace Go.Proofs.YtgihbilpimempabGreatDoor.kp
open Go.ChangeShapes Go.WideShapes Go.ChangeAt Go.RowKit
open Go.Proofs.YtgihbilpimempabGreatDoor.wd Go.Proofs.YtgihbilpimempabGreatDoor.ow Go.Proofs.YtgihbilpimempabGreatDoor.rl Go.Proofs.YtgihbilpimempabGreatDoor.ok Go.Proofs.YtgihbilpimempabGreatDoor.nb

def fresh (k : Kp) (x : Nt) : Bool := okNt x && decide (k.time < x.u) && !hasN k.held x.f x.n && !hasM k.marks x.f x.n && !hasN k.inbox x.f x.n
theorem fresh_f {k : Kp} {x : Nt} (h : okNt x = false ∨ ¬ k.time < x.u ∨ hasN k.held x.f x.n = true ∨ hasM k.marks x.f x.n = true ∨ hasN k.inbox x.f x.n = true) : fresh k x = false := by
  unfold fresh
  rcases h with h | h | h | h | h
  · simp [h]
  · rw [decide_eq_false h]; simp
  · simp [h]
  · simp [h]
  · simp [h]
theorem fresh_t {k : Kp} {x : Nt} (h1 : okNt x = true) (h2 : k.time < x.u) (h3 : hasN k.held x.f x.n = false) (h4 : hasM k.marks x.f x.n = false) (h5 : hasN k.inbox x.f x.n = false) : fresh k x = true := by
  unfold fresh
  rw [h1, decide_eq_true h2, h3, h4, h5]
  rfl

/-- the boxes of a keep and a message -/
structure FB (w V : World) (k : Kp) (a b c : Value) (x : Nt) : Prop where
  box : Blk V w.heap.size 29 #[.int .i64 k.id, .int .i64 k.time, .int .i64 k.next, a, b, c]
  nt : Blk V (w.heap.size + 1) 74 #[.int .i64 x.f, .int .i64 x.n, .int .i64 x.t, .int .i64 x.u, .string x.s]
  bel : Below w.heap.size w V
section
variable {w V V' : World} {k : Kp} {a b c : Value} {x : Nt}
theorem FB.new (w : World) (k : Kp) (a b c : Value) (x : Nt) : FB w ((w.alloc (.cells #[.int .i64 k.id, .int .i64 k.time, .int .i64 k.next, a, b, c] 29)).alloc (.cells #[.int .i64 x.f, .int .i64 x.n, .int .i64 x.t, .int .i64 x.u, .string x.s] 74)) k a b c x := by
  have k1 := Blk.new (w.alloc (.cells #[.int .i64 k.id, .int .i64 k.time, .int .i64 k.next, a, b, c] 29)) 74 #[.int .i64 x.f, .int .i64 x.n, .int .i64 x.t, .int .i64 x.u, .string x.s]
  simp only [World.size_alloc] at k1
  exact ⟨(Blk.new w _ _).alloc _, k1, ((Below.refl _ w).alloc (Nat.le_refl _) _).alloc (by simp) _⟩
theorem FB.later (h : FB w V k a b c x) (hb : Below V.heap.size V V') : FB w V' k a b c x := ⟨h.box.below hb h.box.lt, h.nt.below hb h.nt.lt, h.bel.trans (hb.mono h.bel.size)⟩
theorem FB.cells (h : FB w V k a b c x) : V.cell? ⟨w.heap.size, 1, none⟩ = some (.int .i64 k.time) ∧ V.cell? ⟨w.heap.size, 3, none⟩ = some a ∧ V.cell? ⟨w.heap.size, 4, none⟩ = some b ∧ V.cell? ⟨w.heap.size, 5, none⟩ = some c := ⟨h.box.cell 1, h.box.cell 3, h.box.cell 4, h.box.cell 5⟩
end

set_option maxRecDepth 100000 in
set_option maxHeartbeats 1600000 in
theorem fresh_any (w : World) (k : Kp) (a b c : Value) (x : Nt) (h : SeesK w k a b c) (hl : k.held.length ≤ 1048576 ∧ k.marks.length ≤ 1048576 ∧ k.inbox.length ≤ 1048576) (hx : x.s.size ≤ maxLen) :
    Calls Tryz.prog 108 #[kpV k.id k.time k.next a b c, ntV x] w (BoolK w (fresh k x)) := by
  obtain ⟨hl1, hl2, hl3⟩ := hl
  have hT := FB.new w k a b c x
  have H1 := Lib.hid (fun V => ok.sok_any x.f x.n x.t x.u x.s V hx)
  have H2 := Lib.hid (fun V (hV : Below w.heap.size w V) => ixN_any V a k.held x.f x.n (h.held.later hV) hl1)
  have H3 := Lib.hid (fun V (hV : Below w.heap.size w V) => ixM_any V b k.marks x.f x.n (h.marks.later hV) hl2)
  have H4 := Lib.hid (fun V (hV : Below w.heap.size w V) => ixN_any V c k.inbox x.f x.n (h.inbox.later hV) hl3)
  unfold ok.BoolPost note at H1
  unfold IsI at H2 H3 H4
  unfold ntV note
  clear h
  go_enter Tryz.func108, Tryz.ntmps108
  go_wp2_with fail
  generalize (w.alloc (.cells #[.int .i64 k.id, .int .i64 k.time, .int .i64 k.next, a, b, c] 29)).alloc (.cells #[.int .i64 x.f, .int .i64 x.n, .int .i64 x.t, .int .i64 x.u, .string x.s] 74) = V at hT ⊢
  refine (H1.out _).mono ?_
  rintro e w1 ⟨rfl, hB1⟩
  have hT1 := hT.later hB1
  obtain ⟨c1, c3, c4, c5⟩ := hT1.cells
  obtain ⟨n0, n1, n2, n3, n4⟩ := nt_cells hT1.nt
  have HT := Lib.hid hT1
  clear hT hT1 hB1 H1
  cases hb : okNt x with
  | false =>
    have HR := Lib.hid (fresh_f (k := k) (.inl hb))
    unfold okNt at hb
    rw [hb]
    go_wp2
    go_ret
    exact ⟨nb.ret_bool HR.out.symm, HT.out.bel⟩
  | true =>
  have HB := Lib.hid hb
  unfold okNt at hb
  rw [hb]
  clear hb
  by_cases hu : k.time < x.u
  · go_wp2_with fail
    with_reducible refine (H2.out _ HT.out.bel).mono ?_
    rintro e w2 ⟨rfl, rfl⟩
    rcases ixN_cases k.held x.f x.n with ⟨hm, hi⟩ | ⟨hm, i, y, hi, _, _, _⟩
    · rw [hi]
      clear hi
      go_wp2_with fail
      with_reducible refine (H3.out _ HT.out.bel).mono ?_
      rintro e w2 ⟨rfl, rfl⟩
      rcases ixM_cases k.marks x.f x.n with ⟨hm2, hi⟩ | ⟨hm2, i, y, hi, _, _, _⟩
      · rw [hi]
        clear hi
        go_wp2_with fail
        with_reducible refine (H4.out _ HT.out.bel).mono ?_
        rintro e w2 ⟨rfl, rfl⟩
        rcases ixN_cases k.inbox x.f x.n with ⟨hm3, hi⟩ | ⟨hm3, i, y, hi, _, _, _⟩
        · have HR := Lib.hid (fresh_t HB.out hu hm hm2 hm3)
          rw [hi]
          clear hi
          go_wp2
          go_ret
          exact ⟨nb.ret_bool HR.out.symm, HT.out.bel⟩
        · have HR := Lib.hid (fresh_f (k := k) (x := x) (.inr (.inr (.inr (.inr hm3)))))
          rw [hi]
          have i9 : ¬ ((i : Nat) : Int) < 0 := by omega
          clear hi
          go_wp2
          go_ret
          exact ⟨nb.ret_bool HR.out.symm, HT.out.bel⟩
      · have HR := Lib.hid (fresh_f (k := k) (x := x) (.inr (.inr (.inr (.inl hm2)))))
        rw [hi]
        have i9 : ¬ ((i : Nat) : Int) < 0 := by omega
        clear hi
        go_wp2
        go_ret
        exact ⟨nb.ret_bool HR.out.symm, HT.out.bel⟩
    · have HR := Lib.hid (fresh_f (k := k) (x := x) (.inr (.inr (.inl hm))))
      rw [hi]
      have i9 : ¬ ((i : Nat) : Int) < 0 := by omega
      clear hi
      go_wp2
      go_ret
      exact ⟨nb.ret_bool HR.out.symm, HT.out.bel⟩
  · have HR := Lib.hid (fresh_f (k := k) (x := x) (.inr (.inl hu)))
    go_wp2
    go_ret
    exact ⟨nb.ret_bool HR.out.symm, HT.out.bel⟩
end Go.Proofs.YtgihbilpimempabGreatDoor.kp

