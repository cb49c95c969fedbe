/-
  Merged texts: RecPost, Five, SWrite, SRead.
-/
import Derived.Test.YtgihbilpimempabGreatDoorGFnExactKeepDo14
import Derived.Test.YtgihbilpimempabGreatDoorGFnExactKeepDo15
import Derived.Test.YtgihbilpimempabGreatDoorGFnExactKeepDo1
import Derived.Test.YtgihbilpimempabGreatDoorGFnExactKeepDo5
import Derived.Deep.RegionHeld3
import Derived.Deep.RegionWith
/-
  Words for the doing of a record: sizes; what is told behind it.
-/
namespace Go.Proofs.YtgihbilpimempabGreatDoor.kp
open Go.ChangeShapes Go.WideShapes Go.ChangeAt Go.RowKit
open Go.Proofs.YtgihbilpimempabGreatDoor.wd Go.Proofs.YtgihbilpimempabGreatDoor.ow Go.Proofs.YtgihbilpimempabGreatDoor.rl Go.Proofs.YtgihbilpimempabGreatDoor.ok Go.Proofs.YtgihbilpimempabGreatDoor.nb Go.Proofs.YtgihbilpimempabGreatDoor.dc

/-- no list is long, no text is -/
structure Sz (n : Nat) (k : Kp) : Prop where
  h : k.held.length ≤ n
  m : k.marks.length ≤ n
  i : k.inbox.length ≤ n
  ht : ∀ x ∈ k.held, x.s.size ≤ 1048576
  it : ∀ x ∈ k.inbox, x.s.size ≤ 1048576
theorem Sz.few {n : Nat} {k : Kp} (h : Sz n k) (hn : n ≤ 1048576) : k.held.length ≤ 1048576 ∧ k.marks.length ≤ 1048576 ∧ k.inbox.length ≤ 1048576 := ⟨Nat.le_trans h.h hn, Nat.le_trans h.m hn, Nat.le_trans h.i hn⟩
theorem Sz.texts {n : Nat} {k : Kp} (h : Sz n k) : (∀ x ∈ k.held, x.s.size ≤ maxLen) ∧ ∀ x ∈ k.inbox, x.s.size ≤ maxLen :=
  ⟨fun x hx => Nat.le_trans (h.ht x hx) (by unfold maxLen; omega), fun x hx => Nat.le_trans (h.it x hx) (by unfold maxLen; omega)⟩
theorem okNt_size {x : Nt} (h : okNt x = true) : x.s.size ≤ 1048576 := by
  obtain ⟨_, _, _, _, h5, _⟩ := okN_parts h
  omega
theorem sz_ok {k : Kp} (h : okK k = true) : Sz 12 k := by
  obtain ⟨_, _, _, h4, h5, h6, _⟩ := okK_parts h
  exact ⟨by have := (okNts_parts h4).1; omega, (okMks_parts h5).1, by have := (okNts_parts h6).1; omega, fun x hx => okNt_size (okNts_mem h4 hx), fun x hx => okNt_size (okNts_mem h6 hx)⟩
theorem Sz.up {n m : Nat} {k : Kp} (h : Sz n k) (hn : n ≤ m) : Sz m k := ⟨Nat.le_trans h.h hn, Nat.le_trans h.m hn, Nat.le_trans h.i hn, h.ht, h.it⟩
theorem mem_putL {α : Type} {p : α → Bool} {l : List α} {x y : α} (h : y ∈ putL p l x) : y = x ∨ y ∈ l := by
  unfold putL at h
  rw [List.mem_append, List.mem_cons] at h
  rcases h with h | h | h
  · exact .inr (List.mem_of_mem_take h)
  · exact .inl h
  · exact .inr (List.mem_of_mem_drop h)
theorem mem_cutL {α : Type} {l : List α} {i : Nat} {y : α} (h : y ∈ cutL l i) : y ∈ l := by
  unfold cutL at h
  rw [List.mem_append] at h
  rcases h with h | h
  · exact List.mem_of_mem_take h
  · exact List.mem_of_mem_drop h
theorem cutL_le {α : Type} (l : List α) (i : Nat) : (cutL l i).length ≤ l.length := by
  unfold cutL
  rw [List.length_append, List.length_take, List.length_drop]
  omega
section
variable {n : Nat} {k : Kp}
theorem sz_time (h : Sz n k) (v : Int) : Sz n (timeS k v) :=
  ⟨Nat.le_trans (List.length_filter_le _ _) h.h, Nat.le_trans (List.length_filter_le _ _) h.m, h.i, fun x hx => h.ht x (List.mem_filter.1 hx).1, h.it⟩
theorem sz_held (h : Sz n k) {x : Nt} (hx : x.s.size ≤ 1048576) : Sz (n + 1) { k with held := putN k.held x } :=
  ⟨by show (putN k.held x).length ≤ _; rw [putN_len]; exact Nat.succ_le_succ h.h, Nat.le_succ_of_le h.m, Nat.le_succ_of_le h.i, fun y hy => by rcases mem_putL hy with rfl | h'; exact hx; exact h.ht y h', h.it⟩
theorem sz_inbox (h : Sz n k) {x : Nt} (hx : x.s.size ≤ 1048576) : Sz (n + 1) { k with inbox := putN k.inbox x } :=
  ⟨Nat.le_succ_of_le h.h, Nat.le_succ_of_le h.m, by show (putN k.inbox x).length ≤ _; rw [putN_len]; exact Nat.succ_le_succ h.i, h.ht, fun y hy => by rcases mem_putL hy with rfl | h'; exact hx; exact h.it y h'⟩
theorem sz_mark (h : Sz n k) (m : Mk) : Sz (n + 1) { k with marks := putM k.marks m } :=
  ⟨Nat.le_succ_of_le h.h, by show (putM k.marks m).length ≤ _; rw [putM_len]; exact Nat.succ_le_succ h.m, Nat.le_succ_of_le h.i, h.ht, h.it⟩
theorem sz_next (h : Sz n k) (v : Int) : Sz n { k with next := v } := ⟨h.h, h.m, h.i, h.ht, h.it⟩
theorem sz_take (h : Sz n k) {x : Nt} (hx : x.s.size ≤ 1048576) : Sz (n + 1) (takeS k x) := by
  unfold takeS
  split
  · split
    · have h1 := sz_inbox h hx
      have h2 := sz_mark h ⟨x.f, x.n, x.u⟩
      exact ⟨h1.h, h2.m, h1.i, h1.ht, h1.it⟩
    · exact sz_held h hx
  · exact h.up (Nat.le_succ _)
theorem sz_let (h : Sz n k) (i : Nat) (m : Mk) : Sz (n + 1) (letS k i m) :=
  ⟨Nat.le_succ_of_le (Nat.le_trans (cutL_le _ _) h.h), (sz_mark h m).m, Nat.le_succ_of_le h.i, fun y hy => h.ht y (mem_cutL hy), h.it⟩
theorem sz_eat (h : Sz n k) (i : Nat) : Sz n (eatS k i) :=
  ⟨h.h, h.m, Nat.le_trans (cutL_le _ _) h.i, h.ht, fun y hy => h.it y (mem_cutL hy)⟩
end
theorem CB.put2 {w V : World} {k : Kp} {a b c : Value} (h : CB w V k a b c) (v : Int) : CB w (V.setCell ⟨w.heap.size, 2, none⟩ (.int .i64 v)) { k with next := v } a b c := ⟨h.box.put 2 _, h.res.far (p := ⟨w.heap.size, 2, none⟩) (by show w.heap.size + 1 ≠ w.heap.size; omega) _, h.bel.setCell (p := ⟨w.heap.size, 2, none⟩) (Nat.le_refl _) _, by simpa using h.sz⟩
def RecPost (w : World) (k : Kp) (l : List UInt8) (e : Ending) (w' : World) : Prop := ∃ (k' : Kp) (b : Bool), RecP k l k' b ∧ Sz 14 k' ∧ ∃ vh vm vi, e = .returned (.tuple #[kpV k'.id k'.time k'.next vh vm vi, .bool b]) ∧ SeesK w' k' vh vm vi ∧ Below w.heap.size w w'
theorem sees_set {α : Type} {S : Shape α} {W : World} {v : Value} {l : List α} (p : Addr) (x : Value) (h : SeesR S W v l) (hp : v.ownBlock ≠ some p.block) : SeesR S (W.setCell p x) v l := by
  obtain ⟨A, c, rfl, hc⟩ := h
  refine ⟨A, c, rfl, ?_⟩
  rcases hc with hc | ⟨g, rfl, hg, hcell⟩
  · exact .inl hc
  · refine .inr ⟨g, rfl, by simpa using hg, fun i y hy j u hu => ?_⟩
    have e : (W.setCell p x).cell? ⟨g, i * S.n + j, none⟩ = W.cell? ⟨g, i * S.n + j, none⟩ := by
      apply World.cell?_setCell_other
      intro e
      apply hp
      rw [e]
      rfl
    rw [e]
    exact hcell i y hy j u hu
theorem sees_blk {α : Type} {S : Shape α} {W : World} {v : Value} {l : List α} (h : SeesR S W v l) {g : Nat} (hg : v.ownBlock = some g) : g < W.heap.size := by
  obtain ⟨A, c, rfl, hc⟩ := h
  rcases hc with ⟨rfl, _⟩ | ⟨g', rfl, hg', _⟩
  · cases hg
  · injection hg with hg
    exact hg ▸ hg'
theorem sees_put6 {α : Type} {S : Shape α} {W : World} {v : Value} {l : List α} {R : Nat} (h : SeesR S W v l) (hp : v.ownBlock ≠ some R) (a b c d e f : Value) : SeesR S (put6 W R a b c d e f) v l :=
  sees_set ⟨R, 5, none⟩ f (sees_set ⟨R, 4, none⟩ e (sees_set ⟨R, 3, none⟩ d (sees_set ⟨R, 2, none⟩ c (sees_set ⟨R, 1, none⟩ b (sees_set ⟨R, 0, none⟩ a h hp) hp) hp) hp) hp) hp
theorem From.ne {α : Type} {S : Shape α} {w0 w : World} {v v0 : Value} {l : List α} {R : Nat} (h : From w v v0) (hs : SeesR S w0 v0 l) (h0 : w0.heap.size ≤ R) (h1 : R < w.heap.size) : v.ownBlock ≠ some R := fun e => by
  rcases h R e with h | h
  · omega
  · have := sees_blk hs h
    omega
/-- what a call gave back, behind the result's block being written -/
theorem OutK.put6 {w0 w w' : World} {k0 k : Kp} {a b c vh vm vi : Value} {R : Nat} (h : OutK w w' k a b c vh vm vi) (hs : SeesK w0 k0 a b c) (h0 : w0.heap.size ≤ R) (h1 : R < w.heap.size) (x0 x1 x2 x3 x4 x5 : Value) : SeesK (put6 w' R x0 x1 x2 x3 x4 x5) k vh vm vi :=
  ⟨sees_put6 h.sees.held (h.fh.ne hs.held h0 h1) _ _ _ _ _ _, sees_put6 h.sees.marks (h.fm.ne hs.marks h0 h1) _ _ _ _ _ _, sees_put6 h.sees.inbox (h.fi.ne hs.inbox h0 h1) _ _ _ _ _ _⟩
theorem cell_set {W : World} {g i R j : Nat} (h : g ≠ R) (x : Value) : (W.setCell ⟨R, j, none⟩ x).cell? ⟨g, i, none⟩ = W.cell? ⟨g, i, none⟩ := by
  apply World.cell?_setCell_other
  intro e
  injection e with e
  exact h e.symm
theorem cell_put6 {W : World} {g i R : Nat} (h : g ≠ R) (a b c d e f : Value) : (put6 W R a b c d e f).cell? ⟨g, i, none⟩ = W.cell? ⟨g, i, none⟩ := by
  unfold put6
  rw [cell_set h, cell_set h, cell_set h, cell_set h, cell_set h, cell_set h]
theorem kpV_eq {k k' : Kp} (h : k = k') (a b c : Value) : kpV k.id k.time k.next a b c = kpV k'.id k'.time k'.next a b c := by rw [h]
end Go.Proofs.YtgihbilpimempabGreatDoor.kp

/-
  Words: a block of five cells that is known whole.
-/
namespace Go.Proofs.YtgihbilpimempabGreatDoor.ok
open Go.RowKit
open Go.Proofs.YtgihbilpimempabGreatDoor.wd

theorem five {w : World} {g : Nat} {T : TypeId} {a b c d e : Value} (h : Blk w g T #[a, b, c, d, e]) :
    w.cell? ⟨g, 0, none⟩ = some a ∧ w.cell? ⟨g, 1, none⟩ = some b ∧ w.cell? ⟨g, 2, none⟩ = some c ∧ w.cell? ⟨g, 3, none⟩ = some d ∧ w.cell? ⟨g, 4, none⟩ = some e ∧ g < w.heap.size :=
  ⟨h.cell 0, h.cell 1, h.cell 2, h.cell 3, h.cell 4, h.lt⟩
end Go.Proofs.YtgihbilpimempabGreatDoor.ok

/-
  Contract of spec.NoteWrite.
-/
namespace Go.Proofs.YtgihbilpimempabGreatDoor.dc
open Go.ChangeShapes Go.WideShapes Go.ChangeAt Go.RowKit
open Go.Proofs.YtgihbilpimempabGreatDoor.nb Go.Proofs.YtgihbilpimempabGreatDoor.ok Go.Proofs.YtgihbilpimempabGreatDoor.wd

/-- a sum of two short strings -/
theorem adds (a b : ByteArray) (h : a.size + b.size ≤ 1000000000) : ∃ c : ByteArray, c = a ++ b ∧ c.size = a.size + b.size ∧ ∀ W : World, (Op.stringOp .add a b).run Tryz.prog W = .ok (.string c) W :=
  ⟨a ++ b, rfl, by simp, fun W => run_string_add_sum W a b (by omega)⟩

theorem wr_cat (f n t u : Int) (s : ByteArray) : (((((((str (dl f) ++ str [32]) ++ str (dl n)) ++ str [32]) ++ str (dl t)) ++ str [32]) ++ str (dl u)) ++ str [32]) ++ s = wr f n t u s := by
  unfold wr wl
  rw [← str_data s]
  simp only [str_app, data_str]
  congr 1
  simp

theorem swrite_f (f n t u : Int) (s : ByteArray) (w : World) (hs : s.size ≤ maxLen) (h : okN f n t u s = false) :
    Calls Tryz.prog 50 #[note f n t u s] w (StrPost w (str [])) := by
  unfold note
  go_enter Tryz.func50, Tryz.ntmps50
  go_wp2_with fail
  refine (sok_any f n t u s _ hs).mono ?_
  rintro e w1 ⟨rfl, hB1⟩
  have HB := Lib.hid (((Below.refl w.heap.size w).alloc (Nat.le_refl _) _).trans (hB1.mono (by simp)))
  clear hB1
  rw [h]
  go_wp2
  go_ret
  exact ⟨rfl, HB.out⟩

set_option maxRecDepth 100000 in
set_option maxHeartbeats 1000000 in
theorem swrite_t (f n t u : Int) (s : ByteArray) (w : World) (h : okN f n t u s = true) :
    Calls Tryz.prog 50 #[note f n t u s] w (StrPost w (wr f n t u s)) := by
  obtain ⟨⟨f0, f1⟩, ⟨n0, n1⟩, ⟨t0, t1⟩, ⟨u0, u1⟩, ⟨z0, z1⟩, _⟩ := okN_parts h
  have HD0 := Lib.hid (fun W => dec_any f f0 (by omega) W)
  have HD1 := Lib.hid (fun W => dec_any n (by omega) (by omega) W)
  have HD2 := Lib.hid (fun W => dec_any t t0 (by omega) W)
  have HD3 := Lib.hid (fun W => dec_any u (by omega) (by omega) W)
  have l0 : (str (dl f)).size ≤ 3 := by rw [str_size]; exact (dl_len (by omega)).2
  have l1 : (str (dl n)).size ≤ 3 := by rw [str_size]; exact (dl_len (by omega)).2
  have l2 : (str (dl t)).size ≤ 3 := by rw [str_size]; exact (dl_len (by omega)).2
  have l3 : (str (dl u)).size ≤ 3 := by rw [str_size]; exact (dl_len (by omega)).2
  have HW := Lib.hid (wr_cat f n t u s)
  have lb : (⟨#[32]⟩ : ByteArray).size = 1 := rfl
  generalize str (dl f) = D0 at HD0 l0 HW
  generalize str (dl n) = D1 at HD1 l1 HW
  generalize str (dl t) = D2 at HD2 l2 HW
  generalize str (dl u) = D3 at HD3 l3 HW
  obtain ⟨p1, e1, q1, r1⟩ := adds D0 ⟨#[32]⟩ (by omega)
  obtain ⟨p2, e2, q2, r2⟩ := adds p1 D1 (by omega)
  obtain ⟨p3, e3, q3, r3⟩ := adds p2 ⟨#[32]⟩ (by omega)
  obtain ⟨p4, e4, q4, r4⟩ := adds p3 D2 (by omega)
  obtain ⟨p5, e5, q5, r5⟩ := adds p4 ⟨#[32]⟩ (by omega)
  obtain ⟨p6, e6, q6, r6⟩ := adds p5 D3 (by omega)
  obtain ⟨p7, e7, q7, r7⟩ := adds p6 ⟨#[32]⟩ (by omega)
  obtain ⟨p8, e8, q8, r8⟩ := adds p7 s (by omega)
  have HP : Hid (p8 = wr f n t u s) := by rw [e8, e7, e6, e5, e4, e3, e2, e1]; exact HW.out
  clear e1 e2 e3 e4 e5 e6 e7 e8 q1 q2 q3 q4 q5 q6 q7 q8 HW l0 l1 l2 l3 lb
  have hs : s.size ≤ maxLen := by unfold maxLen; omega
  unfold note
  have hb := Blk.new w 74 #[.int .i64 f, .int .i64 n, .int .i64 t, .int .i64 u, .string s]
  have hB0 : Below w.heap.size w (w.alloc (.cells #[.int .i64 f, .int .i64 n, .int .i64 t, .int .i64 u, .string s] 74)) := (Below.refl _ _).alloc (Nat.le_refl _) _
  go_enter Tryz.func50, Tryz.ntmps50
  go_wp2_with fail
  generalize w.alloc (.cells #[.int .i64 f, .int .i64 n, .int .i64 t, .int .i64 u, .string s] 74) = W0 at hb hB0 ⊢
  refine (sok_any f n t u s _ hs).mono ?_
  rintro e W ⟨rfl, hB1⟩
  have hbW := hb.below hB1 hb.lt
  have hBW := hB0.trans (hB1.mono hB0.size)
  rw [h]
  clear hb hB0 hB1 h hs
  obtain ⟨c0, c1, c2, c3, c4, hz⟩ := five hbW
  clear hbW
  go_wp2_with fail
  go_region_held3 (fun w' => w'.cell? ⟨w.heap.size, 0, none⟩ = some (.int .i64 f) ∧ w'.cell? ⟨w.heap.size, 1, none⟩ = some (.int .i64 n) ∧ w'.cell? ⟨w.heap.size, 2, none⟩ = some (.int .i64 t) ∧ w'.cell? ⟨w.heap.size, 3, none⟩ = some (.int .i64 u) ∧ w'.cell? ⟨w.heap.size, 4, none⟩ = some (.string s)) (first | exact ⟨c0, c1, c2, c3, c4⟩ | exact ⟨s0, s1, s2, s3, s4⟩ | go_keep) (first | (go_at_call_of 49 f; refine (HD0.out _).mono ?_; rintro e w2 ⟨rfl, hB2⟩; first | (have hBa := hBa.trans (hB2.mono hBa.size); have s0 := (hB2.cell (p := ⟨w.heap.size, 0, none⟩) hz2).trans s0; have s1 := (hB2.cell (p := ⟨w.heap.size, 1, none⟩) hz2).trans s1; have s2 := (hB2.cell (p := ⟨w.heap.size, 2, none⟩) hz2).trans s2; have s3 := (hB2.cell (p := ⟨w.heap.size, 3, none⟩) hz2).trans s3; have s4 := (hB2.cell (p := ⟨w.heap.size, 4, none⟩) hz2).trans s4; have hz2 := Nat.lt_of_lt_of_le hz2 hB2.size) | (have hBa := hB2; have s0 := (hB2.cell (p := ⟨w.heap.size, 0, none⟩) hz).trans c0; have s1 := (hB2.cell (p := ⟨w.heap.size, 1, none⟩) hz).trans c1; have s2 := (hB2.cell (p := ⟨w.heap.size, 2, none⟩) hz).trans c2; have s3 := (hB2.cell (p := ⟨w.heap.size, 3, none⟩) hz).trans c3; have s4 := (hB2.cell (p := ⟨w.heap.size, 4, none⟩) hz).trans c4; have hz2 := Nat.lt_of_lt_of_le hz hB2.size)) | (go_at_call_of 49 n; refine (HD1.out _).mono ?_; rintro e w2 ⟨rfl, hB2⟩; first | (have hBa := hBa.trans (hB2.mono hBa.size); have s0 := (hB2.cell (p := ⟨w.heap.size, 0, none⟩) hz2).trans s0; have s1 := (hB2.cell (p := ⟨w.heap.size, 1, none⟩) hz2).trans s1; have s2 := (hB2.cell (p := ⟨w.heap.size, 2, none⟩) hz2).trans s2; have s3 := (hB2.cell (p := ⟨w.heap.size, 3, none⟩) hz2).trans s3; have s4 := (hB2.cell (p := ⟨w.heap.size, 4, none⟩) hz2).trans s4; have hz2 := Nat.lt_of_lt_of_le hz2 hB2.size) | (have hBa := hB2; have s0 := (hB2.cell (p := ⟨w.heap.size, 0, none⟩) hz).trans c0; have s1 := (hB2.cell (p := ⟨w.heap.size, 1, none⟩) hz).trans c1; have s2 := (hB2.cell (p := ⟨w.heap.size, 2, none⟩) hz).trans c2; have s3 := (hB2.cell (p := ⟨w.heap.size, 3, none⟩) hz).trans c3; have s4 := (hB2.cell (p := ⟨w.heap.size, 4, none⟩) hz).trans c4; have hz2 := Nat.lt_of_lt_of_le hz hB2.size)) | (go_at_call_of 49 t; refine (HD2.out _).mono ?_; rintro e w2 ⟨rfl, hB2⟩; first | (have hBa := hBa.trans (hB2.mono hBa.size); have s0 := (hB2.cell (p := ⟨w.heap.size, 0, none⟩) hz2).trans s0; have s1 := (hB2.cell (p := ⟨w.heap.size, 1, none⟩) hz2).trans s1; have s2 := (hB2.cell (p := ⟨w.heap.size, 2, none⟩) hz2).trans s2; have s3 := (hB2.cell (p := ⟨w.heap.size, 3, none⟩) hz2).trans s3; have s4 := (hB2.cell (p := ⟨w.heap.size, 4, none⟩) hz2).trans s4; have hz2 := Nat.lt_of_lt_of_le hz2 hB2.size) | (have hBa := hB2; have s0 := (hB2.cell (p := ⟨w.heap.size, 0, none⟩) hz).trans c0; have s1 := (hB2.cell (p := ⟨w.heap.size, 1, none⟩) hz).trans c1; have s2 := (hB2.cell (p := ⟨w.heap.size, 2, none⟩) hz).trans c2; have s3 := (hB2.cell (p := ⟨w.heap.size, 3, none⟩) hz).trans c3; have s4 := (hB2.cell (p := ⟨w.heap.size, 4, none⟩) hz).trans c4; have hz2 := Nat.lt_of_lt_of_le hz hB2.size)) | (go_at_call_of 49 u; refine (HD3.out _).mono ?_; rintro e w2 ⟨rfl, hB2⟩; first | (have hBa := hBa.trans (hB2.mono hBa.size); have s0 := (hB2.cell (p := ⟨w.heap.size, 0, none⟩) hz2).trans s0; have s1 := (hB2.cell (p := ⟨w.heap.size, 1, none⟩) hz2).trans s1; have s2 := (hB2.cell (p := ⟨w.heap.size, 2, none⟩) hz2).trans s2; have s3 := (hB2.cell (p := ⟨w.heap.size, 3, none⟩) hz2).trans s3; have s4 := (hB2.cell (p := ⟨w.heap.size, 4, none⟩) hz2).trans s4; have hz2 := Nat.lt_of_lt_of_le hz2 hB2.size) | (have hBa := hB2; have s0 := (hB2.cell (p := ⟨w.heap.size, 0, none⟩) hz).trans c0; have s1 := (hB2.cell (p := ⟨w.heap.size, 1, none⟩) hz).trans c1; have s2 := (hB2.cell (p := ⟨w.heap.size, 2, none⟩) hz).trans c2; have s3 := (hB2.cell (p := ⟨w.heap.size, 3, none⟩) hz).trans c3; have s4 := (hB2.cell (p := ⟨w.heap.size, 4, none⟩) hz).trans c4; have hz2 := Nat.lt_of_lt_of_le hz hB2.size)))
  have HB := Lib.hid (show Below w.heap.size w w2 from hBW.trans ((show Below W.heap.size W w2 from ⟨hBa.os, hBa.tape, hBa.output, hBa.size, hBa.block⟩).mono hBW.size))
  clear hBa hBW hB2 s0 s1 s2 s3 s4 c0 c1 c2 c3 c4
  go_wp2
  go_ret
  exact ⟨by rw [← HP.out]; rfl, HB.out⟩

theorem swrite_any (f n t u : Int) (s : ByteArray) (w : World) (hs : s.size ≤ maxLen) :
    Calls Tryz.prog 50 #[note f n t u s] w (StrPost w (nw f n t u s)) := by
  cases h : okN f n t u s with
  | true => rw [nw_t h]; exact swrite_t f n t u s w h
  | false => rw [nw_f h]; exact swrite_f f n t u s w hs h
end Go.Proofs.YtgihbilpimempabGreatDoor.dc

/-
  Contract of spec.NoteRead.
-/
namespace Go.Proofs.YtgihbilpimempabGreatDoor.dc
open Go.ChangeShapes Go.WideShapes Go.ChangeAt Go.RowKit
open Go.Proofs.YtgihbilpimempabGreatDoor.nb Go.Proofs.YtgihbilpimempabGreatDoor.ok Go.Proofs.YtgihbilpimempabGreatDoor.wd

def ReadPost (w : World) (x : ByteArray) (e : Ending) (w' : World) : Prop :=
  ∃ (b : Bool) (f n t u : Int) (s : ByteArray), e = .returned (.tuple #[note f n t u s, .bool b]) ∧ RD x b f n t u s ∧ Below w.heap.size w w'

theorem four {vs : List Int} (h : vs.length = 4) : ∃ a b c d, vs = [a, b, c, d] := by
  match vs, h with
  | [a, b, c, d], _ => exact ⟨a, b, c, d, rfl⟩

theorem own_four {w0 w : World} {v : Value} {a b c d : Int} (h : ow.Own 3 w0 w v (iv [a, b, c, d])) :
    ∃ g cap, v = .slice (some ⟨g, 0, none⟩) 4 cap ∧ w0.heap.size ≤ g ∧ g < w.heap.size ∧ w.cell? ⟨g, 0, none⟩ = some (.int .i64 a) ∧ w.cell? ⟨g, 1, none⟩ = some (.int .i64 b) ∧ w.cell? ⟨g, 2, none⟩ = some (.int .i64 c) ∧ w.cell? ⟨g, 3, none⟩ = some (.int .i64 d) := by
  obtain ⟨A, cap, rfl, hc⟩ := h.form
  obtain ⟨g, rfl, h1, h2, h3⟩ := hc (by simp [iv])
  exact ⟨g, cap, rfl, h1, h2, h3 0 _ rfl, h3 1 _ rfl, h3 2 _ rfl, h3 3 _ rfl⟩

theorem put5 {B : Nat} {w W : World} {v0 v1 v2 v3 v4 : Value} {g : Nat} (h : Below B w W) (hg : B ≤ g := by omega) :
    Below B w (((((W.setCell ⟨g, 0, none⟩ v0).setCell ⟨g, 1, none⟩ v1).setCell ⟨g, 2, none⟩ v2).setCell ⟨g, 3, none⟩ v3).setCell ⟨g, 4, none⟩ v4) :=
  ((((h.setCell hg _).setCell hg _).setCell hg _).setCell hg _).setCell hg _
theorem not_blank {x : ByteArray} (h : x ≠ ⟨#[]⟩) : (x.toList == []) = false ∧ x.toList.isEmpty = false := by
  have e : x.toList ≠ [] := fun e => by
    apply h
    rw [ByteArray.toList_eq] at e
    cases x
    simp at e
    rw [e]
  exact ⟨by simpa using e, by simpa using e⟩
theorem behind {w W V : World} {T : TypeId} {cs ds : Array Value} (hZ : Blk W w.heap.size T cs) (hBW : Below w.heap.size w W) (hB : Below (W.alloc (.cells ds T)).drew.heap.size (W.alloc (.cells ds T)).drew V) :
    Blk V w.heap.size T cs ∧ Blk V W.heap.size T ds ∧ Below w.heap.size w V := by
  have hB' : Below (W.alloc (.cells ds T)).heap.size (W.alloc (.cells ds T)) V := ⟨hB.os, hB.tape, hB.output, hB.size, hB.block⟩
  have h1 := hBW.alloc hBW.size (.cells ds T)
  exact ⟨(hZ.alloc _).below hB' (hZ.alloc (.cells ds T)).lt, (Blk.new W T ds).below hB' (Blk.new W T ds).lt, h1.trans (hB'.mono h1.size)⟩
theorem no_blank : (⟨#[]⟩ : ByteArray) = str [] := rfl

set_option maxRecDepth 100000 in
set_option maxHeartbeats 1600000 in
theorem sread_any (x : ByteArray) (hs : x.size ≤ 1048576) (w : World) :
    Calls Tryz.prog 74 #[.string x] w (ReadPost w x) := by
  have hZ := Blk.new w 74 #[.int .i64 0, .int .i64 0, .int .i64 0, .int .i64 0, .string ⟨#[]⟩]
  have hB0 : Below w.heap.size w (w.alloc (.cells #[.int .i64 0, .int .i64 0, .int .i64 0, .int .i64 0, .string ⟨#[]⟩] 74)) := (Below.refl _ _).alloc (Nat.le_refl _) _
  have HN := Lib.hid (fun W => nums_any x hs W)
  go_enter Tryz.func74, Tryz.ntmps74
  go_wp2_with fail
  generalize w.alloc (.cells #[.int .i64 0, .int .i64 0, .int .i64 0, .int .i64 0, .string ⟨#[]⟩] 74) = W0 at hZ hB0 ⊢
  refine (HN.out _).mono ?_
  rintro e W ⟨v, vs, r, rfl, hl4, hO, HI, hr⟩
  obtain ⟨a, b, c, d, rfl⟩ := four hl4
  obtain ⟨g, cap, rfl, hg0, hg1, c0, c1, c2, c3⟩ := own_four hO
  have hZ1 := hZ.below hO.2 hZ.lt
  have hBW := hB0.trans (hO.2.mono hB0.size)
  have HI := Lib.hid HI
  have hrz : (str r).size ≤ maxLen := by rw [str_size]; rw [Lib.size_eq] at hs; unfold maxLen; omega
  have HW := Lib.hid (fun V => swrite_any a b c d (str r) V hrz)
  have HQ := Lib.hid (⟨fun h => fin_bad HI.out h, fun h => fin_other HI.out h⟩ : (okN a b c d (str r) = false → NoNote x) ∧ (wr a b c d (str r) ≠ x → NoNote x))
  generalize str r = rs at HW HQ hrz ⊢
  have hZl := hZ1.lt
  clear hO HN hZ hB0 hl4 HI hr hrz
  go_wp2_with fail
  go_region_held3 (fun w' => w'.cell? ⟨g, 0, none⟩ = some (.int .i64 a) ∧ w'.cell? ⟨g, 1, none⟩ = some (.int .i64 b) ∧ w'.cell? ⟨g, 2, none⟩ = some (.int .i64 c) ∧ w'.cell? ⟨g, 3, none⟩ = some (.int .i64 d)) (first | exact ⟨c0, c1, c2, c3⟩ | go_keep) (fail)
  clear c0 c1 c2 c3
  have HZ := Lib.hid hZ1
  obtain ⟨z0, z1, z2, z3, z4, _⟩ := five hZ1
  have y0 := hZ1.frozen 0
  have y1 := hZ1.frozen 1
  have y2 := hZ1.frozen 2
  have y3 := hZ1.frozen 3
  have y4 := hZ1.frozen 4
  clear hZ1
  have hBW' := hBW.size
  by_cases hx : x = ⟨#[]⟩
  · subst hx
    go_wp2
    refine bodyPost_ret (v := .tuple #[note 0 0 0 0 ⟨#[]⟩, .bool false]) (by simp [results, Tryz.results74, go_sem, note, *]) rfl ⟨false, 0, 0, 0, 0, ⟨#[]⟩, rfl, .inr ⟨rfl, rfl, rfl, rfl, rfl, rfl, no_empty⟩, ?_⟩
    exact ((put5 hBW).alloc (by simp; omega) _).drew
  obtain ⟨hx0, hx1⟩ := not_blank hx
  cases hok : okN a b c d rs with
  | false =>
    rw [nw_f hok] at HW
    have HNo := Lib.hid (HQ.out.1 hok)
    have hx2 : ((str []).toList == x.toList) = false := toList_ne (fun e => hx e.symm)
    generalize str [] = es at HW hx2
    clear hok HQ hx
    go_wp2_with fail
    refine (HW.out _).mono ?_
    rintro e V ⟨rfl, hB2⟩
    clear z0 z1 z2 z3 z4 y0 y1 y2 y3 y4
    obtain ⟨hZV, hNV, hBV⟩ := behind HZ.out hBW hB2
    obtain ⟨z0, z1, z2, z3, z4, _⟩ := five hZV
    obtain ⟨n0, n1, n2, n3, n4, hNl⟩ := five hNV
    have y0 := hZV.frozen 0
    have y1 := hZV.frozen 1
    have y2 := hZV.frozen 2
    have y3 := hZV.frozen 3
    have y4 := hZV.frozen 4
    clear hZV hNV hB2 hBW HZ
    go_wp2
    refine bodyPost_ret (v := .tuple #[note 0 0 0 0 ⟨#[]⟩, .bool false]) (by simp [results, Tryz.results74, go_sem, note, *]) rfl ⟨false, 0, 0, 0, 0, ⟨#[]⟩, rfl, .inr ⟨rfl, rfl, rfl, rfl, rfl, rfl, HNo.out⟩, ?_⟩
    exact put5 hBV
  | true =>
    rw [nw_t hok] at HW
    by_cases hq : wr a b c d rs = x
    · have HOk := Lib.hid hok
      have HEq : Hid (x = wr a b c d rs) := hq.symm
      rw [hq] at HW
      clear hok HQ hx hq
      go_wp2_with fail
      refine (HW.out _).mono ?_
      rintro e V ⟨rfl, hB2⟩
      clear z0 z1 z2 z3 z4 y0 y1 y2 y3 y4
      obtain ⟨hZV, hNV, hBV⟩ := behind HZ.out hBW hB2
      obtain ⟨z0, z1, z2, z3, z4, _⟩ := five hZV
      obtain ⟨n0, n1, n2, n3, n4, hNl⟩ := five hNV
      have y0 := hZV.frozen 0
      have y1 := hZV.frozen 1
      have y2 := hZV.frozen 2
      have y3 := hZV.frozen 3
      have y4 := hZV.frozen 4
      clear hZV hNV hB2 hBW HZ
      go_wp2
      refine bodyPost_ret (v := .tuple #[note a b c d rs, .bool true]) (by simp [results, Tryz.results74, go_sem, note, *]) rfl ⟨true, a, b, c, d, rs, rfl, .inl ⟨rfl, HOk.out, HEq.out⟩, ?_⟩
      exact put5 hBV
    · have HNo := Lib.hid (HQ.out.2 hq)
      have hx2 := toList_ne hq
      generalize wr a b c d rs = es at HW hx2
      clear hok HQ hx hq
      go_wp2_with fail
      refine (HW.out _).mono ?_
      rintro e V ⟨rfl, hB2⟩
      clear z0 z1 z2 z3 z4 y0 y1 y2 y3 y4
      obtain ⟨hZV, hNV, hBV⟩ := behind HZ.out hBW hB2
      obtain ⟨z0, z1, z2, z3, z4, _⟩ := five hZV
      obtain ⟨n0, n1, n2, n3, n4, hNl⟩ := five hNV
      have y0 := hZV.frozen 0
      have y1 := hZV.frozen 1
      have y2 := hZV.frozen 2
      have y3 := hZV.frozen 3
      have y4 := hZV.frozen 4
      clear hZV hNV hB2 hBW HZ
      go_wp2
      refine bodyPost_ret (v := .tuple #[note 0 0 0 0 ⟨#[]⟩, .bool false]) (by simp [results, Tryz.results74, go_sem, note, *]) rfl ⟨false, 0, 0, 0, 0, ⟨#[]⟩, rfl, .inr ⟨rfl, rfl, rfl, rfl, rfl, rfl, HNo.out⟩, ?_⟩
      exact put5 hBV
end Go.Proofs.YtgihbilpimempabGreatDoor.dc

