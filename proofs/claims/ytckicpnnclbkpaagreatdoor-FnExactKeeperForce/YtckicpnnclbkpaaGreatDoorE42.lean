/-
  Merged texts: HfList, RunId, ICopyN, IOper, IForceK.
-/
import Derived.Test.YtckicpnnclbkpaaGreatDoorE41
namespace Go.Proofs.YtckicpnnclbkpaaGreatDoor.hf
open Go.ChangeShapes Go.WideShapes Go.ChangeAt Go.RowKit
open wd ow rl ok kp nb sl dc
def ListP (w : World) (lr : List Hr) (e : Ending) (w' : World) : Prop := ∃ v, e = .returned v ∧ OwnR hrS 62 w w' v lr
set_option maxRecDepth 100000 in
set_option maxHeartbeats 3200000 in
theorem list_h (w : World) (nb : Nat) (lr : List Hr) {hd : List Value} (h : RingAt w nb lr.length hd lr) (hk : lr.length ≤ 3) :
  Calls Tryz.prog 102 #[.pointer (some ⟨nb, 8, none⟩)] w (ListP w lr) := by
 obtain ⟨i0, hi, hz0, hz1, hz2⟩ := info_parts infoHf
 have HRg := Lib.hid h
 obtain ⟨n, hn⟩ : ∃ n, n = lr.length := ⟨_, rfl⟩
 have HN := Lib.hid hn
 rw [← hn] at hk h
 obtain ⟨cs, hb, hs, h26, h27, _, _⟩ := h
 have q26 := (hb.cell 26).trans h26
 have hnb := hb.lt
 have M0 := Lib.hid (show OwnAt hrS 62 w.heap.size w (.slice none 0 0) ([] : List Hr) ∧ Below w.heap.size w w from ⟨World.ownsRow_nil _ _ _ _, Below.refl _ _⟩)
 clear hb h26 h27 hs hn
 go_enter Tryz.func102, Tryz.ntmps102
 go_wp2
 go_loopw [3, 4] (fun v i wr => ∃ (j : Nat) (l1 : List Hr), j ≤ n ∧ i = .int .i64 j ∧ Hid (l1 = lr.take j) ∧ Hid (OwnAt hrS 62 w.heap.size wr v l1 ∧ Below w.heap.size w wr)) (fun _ i _ => (n + 1 : Nat) - (intOf i).toNat)
 case atStart => exact ⟨0, [], by omega, rfl, by show [] = _; simp, M0.out⟩
 case round =>
  clear M0 q26
  obtain ⟨j, l1, hj, rfl, HL1, HM⟩ := hrel
  obtain ⟨Av, cv, rfl⟩ := OwnAt.form HM.out.1
  obtain ⟨cs, hb, hs, h26, h27, _, hR⟩ := HRg.out.later HM.out.2
  have q27 := (hb.cell 27).trans h27
  rw [← HN.out] at q27
  have hl1 : l1.length ≤ 3 := by rw [HL1.out, List.length_take]; omega
  by_cases hjn : j < n
  ·have hr : lr[j]? = some (lr[j]'(by rw [← HN.out]; exact hjn)) := List.getElem?_eq_getElem _
   have t := fun jj u (hu : (hrF (lr[j]'(by rw [← HN.out]; exact hjn)))[jj]? = some u) => (hb.cell (8 + j * 6 + jj)).trans (hR j _ (by rw [← HN.out]; exact hjn) hr jj u hu)
   have HR := Lib.hid hr
   generalize lr[j]'(by rw [← HN.out]; exact hjn) = y at t HR
   have t0 : wr.cell? ⟨nb, 8 + j * 6, none⟩ = some (.int .i64 y.f) := t 0 _ rfl
   have t1 : wr.cell? ⟨nb, 8 + j * 6 + 1, none⟩ = some (.int .i64 y.n) := t 1 _ rfl
   have t2 : wr.cell? ⟨nb, 8 + j * 6 + 2, none⟩ = some (.int .i64 y.t) := t 2 _ rfl
   have t3 : wr.cell? ⟨nb, 8 + j * 6 + 3, none⟩ = some (.int .i64 y.u) := t 3 _ rfl
   have t4 : wr.cell? ⟨nb, 8 + j * 6 + 4, none⟩ = some (.int .i64 y.z) := t 4 _ rfl
   have t5 : wr.cell? ⟨nb, 8 + j * 6 + 5, none⟩ = some (.slice y.A y.m y.c) := t 5 _ rfl
   have hj3 : j < 3 := by omega
   have hj1 : (j : Int) < (n : Int) := by omega
   clear hr t hb hs h26 h27 hR
   go_wp2_with fail
   refine (slot_h nb j hj3 _).mono ?_
   rintro e w1 ⟨rfl, rfl⟩
   have hA := (Below.refl wr.heap.size wr).alloc (Nat.le_refl _) (.cells #[.int .i64 y.f, .int .i64 y.n, .int .i64 y.t, .int .i64 y.u, .int .i64 y.z, .slice y.A y.m y.c] 62)
   have R5 := HM.out.1.later hA
   have hws := HM.out.2.size
   have PA : PartR hrS (wr.alloc (.cells #[.int .i64 y.f, .int .i64 y.n, .int .i64 y.t, .int .i64 y.u, .int .i64 y.z, .slice y.A y.m y.c] 62)) (some ⟨wr.heap.size, 0, none⟩) 1 [y] := .inr ⟨wr.heap.size, 0, rfl, fun q u hu => by
    have hb := (Blk.new wr 62 #[.int .i64 y.f, .int .i64 y.n, .int .i64 y.t, .int .i64 y.u, .int .i64 y.z, .slice y.A y.m y.c]).cell q
    rw [Nat.zero_add, hb]
    have hu' : (hrF y)[q]? = some u := by simpa [hrS] using hu
    simpa [hrF] using hu'⟩
   go_wp2_with (at_builtin; refine wpList_append_recs hrS (by decide) rfl _ _ 30 rfl w.heap.size 62 i0 _ 64 Tryz.underlying30 hi hz0 hz1 hz2 rfl _ l1.length (l1.flatMap hrS.f) rfl R5 _ _ _ [y] rfl rfl PA ?e3 ?e4 ?e5 ?_)
   case e3 => show l1.length + 1 ≤ maxLen; unfold maxLen; omega
   case e4 => show (l1.length + 1) * 64 ≤ _; omega
   case e5 => simp; omega
   intro v' w6 hown hgrow
   have hown' : OwnAt hrS 62 w.heap.size w6 v' (l1 ++ [y]) := by
    unfold OwnAt
    rw [List.length_append, List.flatMap_append]
    exact hown
   have HB6 := HM.out.2.trans ((hA.mono hws).trans (OwnAt.below R5 hgrow (by simp; omega)))
   have M6 := Lib.hid (And.intro hown' HB6)
   have HL6 := Lib.hid (show l1 ++ [y] = lr.take (j + 1) by rw [HL1.out, List.take_add_one, HR.out]; rfl)
   clear t0 t1 t2 t3 t4 t5 q27 hA R5 PA hws hown hown' hgrow HB6 HM
   go_wp2
   go_roundw
   case rel => exact ⟨j + 1, _, by omega, by go_num, HL6.out, M6.out⟩
   case measure => simp [intOf]; omega
  ·obtain rfl : j = n := by omega
   have HE := Lib.hid (show l1 = lr by rw [HL1.out, HN.out, List.take_length])
   clear hb hs h26 h27 hR
   go_wp2
   go_ret
   exact ⟨_, rfl, by rw [← HE.out]; exact HM.out⟩
def RunP (w : World) (id : Int) (s : ByteArray) (f : Int) (lr : List Hr) (e : Ending) (w' : World) : Prop := ∃ v, e = .returned (nodeV id true s f v) ∧ OwnR hrS 62 w w' v lr
set_option maxRecDepth 100000 in
set_option maxHeartbeats 3200000 in
theorem running_h (w : World) (nb : Nat) (id : Int) (s : ByteArray) (f : Int) (lr : List Hr) {hd : List Value} (h : RingAt w nb lr.length (.string s :: .int .i64 f :: .int .i64 id :: hd) lr) (hk : lr.length ≤ 3) :
  Calls Tryz.prog 75 #[.pointer (some ⟨nb, 0, none⟩)] w (RunP w id s f lr) := by
 obtain ⟨cs, hb, hs, h26, h27, h8, hR⟩ := h
 have c0 := h8 0 (by omega)
 have c1 := h8 1 (by omega)
 have c2 := h8 2 (by omega)
 simp only [List.getElem?_cons_zero, List.getElem?_cons_succ] at c0 c1 c2
 have HRg := Lib.hid (show RingAt w nb lr.length (.string s :: .int .i64 f :: .int .i64 id :: hd) lr from ⟨cs, hb, hs, h26, h27, h8, hR⟩)
 have hnb := hb.lt
 have K0 := Lib.hid (hb.alloc (.cells (nodeC 0 false ⟨#[]⟩ 0 (.slice none 0 0)) 32))
 have R0 := Lib.hid (Blk.new w 32 (nodeC 0 false ⟨#[]⟩ 0 (.slice none 0 0)))
 have HB0 := Lib.hid ((Below.refl w.heap.size w).alloc (Nat.le_refl _) (.cells (nodeC 0 false ⟨#[]⟩ 0 (.slice none 0 0)) 32))
 have HLi := Lib.hid (fun V (hV : Below w.heap.size w V) => list_h V nb lr (HRg.out.later hV) hk)
 unfold ListP at HLi
 clear hb hs h26 h27 h8 hR
 go_enter Tryz.func75, Tryz.ntmps75
 go_upto_region 1 with (fail)
 generalize w.alloc (.cells (nodeC 0 false ⟨#[]⟩ 0 (.slice none 0 0)) 32) = V at K0 R0 HB0 ⊢
 have h0 := (Below.refl V.heap.size V).drew
 refine wp_region_held_drew (S := (fun w' : World => (∃ cs' : Array Value, Blk w' nb 75 cs' ∧ cs'[0]? = some (.string s) ∧ cs'[1]? = some (.int .i64 f) ∧ cs'[2]? = some (.int .i64 id)) ∧ ∃ cs' : Array Value, Blk w' w.heap.size 32 cs')) (by kernel_rfl) ⟨⟨cs, K0.out.below h0 K0.out.lt, c0, c1, c2⟩, _, R0.out.below h0 R0.out.lt⟩ (fun hHeld => ?_)
 clear hHeld
 replace K0 := Lib.hid (K0.out.below h0 K0.out.lt)
 replace R0 := Lib.hid (R0.out.below h0 R0.out.lt)
 replace HB0 := Lib.hid (HB0.out.trans (h0.mono HB0.out.size))
 clear h0
 generalize V.drew = Z at K0 R0 HB0 ⊢
 have hKd : (∃ cs' : Array Value, Blk Z nb 75 cs' ∧ cs'[0]? = some (.string s) ∧ cs'[1]? = some (.int .i64 f) ∧ cs'[2]? = some (.int .i64 id)) ∧ ∃ cs' : Array Value, Blk Z w.heap.size 32 cs' := ⟨⟨cs, K0.out, c0, c1, c2⟩, _, R0.out⟩
 refine rs.w 0 3 ?_ rfl ?_ ?_
 rotate_left 1
 ·(intro w' hSw; obtain ⟨⟨cs', hq, z0, z1, z2⟩, _⟩ := hSw; have k0 := (hq.cell 0).trans z0; have k1 := (hq.cell 1).trans z1; have k2 := (hq.cell 2).trans z2; go_simp; try with_reducible rfl)
 simp only [rs.a, rs.b, rs.c]
 refine rs.w 1 4 ?_ rfl ?_ ?_
 rotate_left 1
 ·(intro w' hSw; obtain ⟨⟨cs', hq, z0, z1, z2⟩, _⟩ := hSw; have k0 := (hq.cell 0).trans z0; have k1 := (hq.cell 1).trans z1; have k2 := (hq.cell 2).trans z2; go_simp; try with_reducible rfl)
 simp only [rs.a, rs.b, rs.c]
 refine rs.w 2 5 ?_ rfl ?_ ?_
 rotate_left 1
 ·(intro w' hSw; obtain ⟨⟨cs', hq, z0, z1, z2⟩, _⟩ := hSw; have k0 := (hq.cell 0).trans z0; have k1 := (hq.cell 1).trans z1; have k2 := (hq.cell 2).trans z2; go_simp; try with_reducible rfl)
 simp only [rs.a, rs.b, rs.c]
 refine rs.w 3 6 ?_ rfl ?_ ?_
 rotate_left 1
 ·(intro w' hSw; obtain ⟨⟨cs', hq, z0, z1, z2⟩, _⟩ := hSw; have k0 := (hq.cell 0).trans z0; have k1 := (hq.cell 1).trans z1; have k2 := (hq.cell 2).trans z2; go_simp; try with_reducible rfl)
 simp only [rs.a, rs.b, rs.c]
 refine rs.w 4 7 ?_ rfl ?_ ?_
 rotate_left 1
 ·(intro w' hSw; obtain ⟨⟨cs', hq, z0, z1, z2⟩, _⟩ := hSw; have k0 := (hq.cell 0).trans z0; have k1 := (hq.cell 1).trans z1; have k2 := (hq.cell 2).trans z2; go_simp; try with_reducible rfl)
 simp only [rs.a, rs.b, rs.c]
 refine rs.w 5 8 ?_ rfl ?_ ?_
 rotate_left 1
 ·(intro w' hSw; obtain ⟨⟨cs', hq, z0, z1, z2⟩, _⟩ := hSw; have k0 := (hq.cell 0).trans z0; have k1 := (hq.cell 1).trans z1; have k2 := (hq.cell 2).trans z2; go_simp; try with_reducible rfl)
 simp only [rs.a, rs.b, rs.c]
 refine rs.w 6 9 ?_ rfl ?_ ?_
 rotate_left 1
 ·(intro w' hSw; obtain ⟨⟨cs', hq, z0, z1, z2⟩, _⟩ := hSw; have k0 := (hq.cell 0).trans z0; have k1 := (hq.cell 1).trans z1; have k2 := (hq.cell 2).trans z2; go_simp; try with_reducible rfl)
 simp only [rs.a, rs.b, rs.c]
 refine rs.w 7 10 ?_ rfl ?_ ?_
 rotate_left 1
 ·(intro w' hSw; obtain ⟨⟨cs', hq, z0, z1, z2⟩, _⟩ := hSw; have k0 := (hq.cell 0).trans z0; have k1 := (hq.cell 1).trans z1; have k2 := (hq.cell 2).trans z2; go_simp; try with_reducible rfl)
 simp only [rs.a, rs.b, rs.c]
 refine rs.w 8 11 ?_ rfl ?_ ?_
 rotate_left 1
 ·(intro w' hSw; obtain ⟨⟨cs', hq, z0, z1, z2⟩, _⟩ := hSw; have k0 := (hq.cell 0).trans z0; have k1 := (hq.cell 1).trans z1; have k2 := (hq.cell 2).trans z2; go_simp; try with_reducible rfl)
 simp only [rs.a, rs.b, rs.c]
 refine rs.w 9 12 ?_ rfl ?_ ?_
 rotate_left 1
 ·(intro w' hSw; obtain ⟨⟨cs', hq, z0, z1, z2⟩, _⟩ := hSw; have k0 := (hq.cell 0).trans z0; have k1 := (hq.cell 1).trans z1; have k2 := (hq.cell 2).trans z2; go_simp; try with_reducible rfl)
 simp only [rs.a, rs.b, rs.c]
 refine rs.w 10 13 ?_ rfl ?_ ?_
 rotate_left 1
 ·(intro w' hSw; obtain ⟨⟨cs', hq, z0, z1, z2⟩, _⟩ := hSw; have k0 := (hq.cell 0).trans z0; have k1 := (hq.cell 1).trans z1; have k2 := (hq.cell 2).trans z2; go_simp; try with_reducible rfl)
 simp only [rs.a, rs.b, rs.c]
 refine rs.w 11 14 ?_ rfl ?_ ?_
 rotate_left 1
 ·(intro w' hSw; obtain ⟨⟨cs', hq, z0, z1, z2⟩, _⟩ := hSw; have k0 := (hq.cell 0).trans z0; have k1 := (hq.cell 1).trans z1; have k2 := (hq.cell 2).trans z2; go_simp; try with_reducible rfl)
 simp only [rs.a, rs.b, rs.c]
 refine wpAnyH_ready (rs := [12]) (by kernel_rfl) (by simp) ?_
 refine AllReadyH.cons rfl (fun K hK => ?_) AllReadyH.nil
 go_simp
 refine (HLi.out _ HB0.out).mono ?_
 rintro e w1 ⟨v, rfl, hO⟩
 obtain ⟨A1, c3, rfl⟩ := OwnR.form hO
 have B1 := hO.2
 replace K0 := Lib.hid (K0.out.below B1 K0.out.lt)
 replace R0 := Lib.hid (R0.out.below B1 R0.out.lt)
 replace HB0 := Lib.hid (HB0.out.trans (B1.mono HB0.out.size))
 have HZ := Lib.hid (show w.heap.size < Z.heap.size from by have := hKd.2; obtain ⟨_, h⟩ := this; exact h.lt)
 have HO := Lib.hid hO.1
 clear B1 hKd HLi hO
 have hKd : (∃ cs' : Array Value, Blk w1 nb 75 cs' ∧ cs'[0]? = some (.string s) ∧ cs'[1]? = some (.int .i64 f) ∧ cs'[2]? = some (.int .i64 id)) ∧ ∃ cs' : Array Value, Blk w1 w.heap.size 32 cs' := ⟨⟨cs, K0.out, c0, c1, c2⟩, _, R0.out⟩
 refine hK.out _ _ hKd (fun hHeld => ?_)
 clear hK K hHeld
 refine rs.w 13 16 ?_ rfl ?_ ?_
 rotate_left 1
 ·(intro w' hSw; obtain ⟨⟨cs', hq, z0, z1, z2⟩, _⟩ := hSw; have k0 := (hq.cell 0).trans z0; have k1 := (hq.cell 1).trans z1; have k2 := (hq.cell 2).trans z2; go_simp; try with_reducible rfl)
 simp only [rs.a, rs.b, rs.c]
 obtain ⟨r0, r1, r2, r3, r4, g0, g1, g2, g3, g4⟩ := five5 R0.out
 have HC := Lib.hid (put5n_blk (a' := .int .i64 id) (b' := .bool true) (c' := .string s) (d' := .int .i64 f) (e' := .slice A1 lr.length c3) R0.out)
 have HE := Lib.hid (put5n_below (B := w.heap.size) (R := w.heap.size) (Nat.le_refl _) HB0.out (.int .i64 id) (.bool true) (.string s) (.int .i64 f) (.slice A1 lr.length c3))
 have HA := Lib.hid (((((OwnAt.set HO.out (p := ⟨w.heap.size, 0, none⟩) HZ.out (.int .i64 id)).set (p := ⟨w.heap.size, 1, none⟩) HZ.out (.bool true)).set (p := ⟨w.heap.size, 2, none⟩) HZ.out (.string s)).set (p := ⟨w.heap.size, 3, none⟩) HZ.out (.int .i64 f)).set (p := ⟨w.heap.size, 4, none⟩) HZ.out (.slice A1 lr.length c3))
 refine wpAnyH_ready (rs := [14]) (by kernel_rfl) (by simp) ?_
 refine AllReadyH.cons rfl (fun K hK => ?_) AllReadyH.nil
 go_simp
 have ne : nb ≠ w.heap.size := by omega
 have HK5 : Blk (put5n w1 w.heap.size (.int .i64 id) (.bool true) (.string s) (.int .i64 f) (.slice A1 lr.length c3)) nb 75 cs :=
  ((((K0.out.far (p := ⟨w.heap.size, 0, none⟩) ne _).far (p := ⟨w.heap.size, 1, none⟩) ne _).far (p := ⟨w.heap.size, 2, none⟩) ne _).far (p := ⟨w.heap.size, 3, none⟩) ne _).far (p := ⟨w.heap.size, 4, none⟩) ne _
 refine hK.out _ _ ⟨⟨cs, HK5, c0, c1, c2⟩, _, HC.out⟩ (fun hHeld => ?_)
 clear hK K hHeld
 refine wpAnyH_done (by kernel_rfl) ?_ _
 clear hKd r0 r1 r2 r3 r4 g0 g1 g2 g3 g4 HK5
 go_wp2
 obtain ⟨x0, x1, x2, x3, x4, _⟩ := five5 HC.out
 exact bodyPost_ret (v := nodeV id true s f (.slice A1 lr.length c3)) (by simp [results, Tryz.results75, go_sem, x0, x1, x2, x3, x4]) rfl ⟨_, rfl, OwnAt.down HA.out (Nat.le_of_lt HZ.out), HE.out⟩
end Go.Proofs.YtckicpnnclbkpaaGreatDoor.hf

namespace Go.Proofs.YtckicpnnclbkpaaGreatDoor.hf
open nb kp sh dc wd sl
theorem takeS_id (k : Kp) (x : Nt) : (takeS k x).id = k.id := by
 unfold takeS
 repeat' split
 all_goals rfl
theorem apply_id {k k' : Kp} {r : Rc} (h : applyS k r = some k') : k'.id = k.id := by
 cases r <;> simp only [applyS, takeO] at h <;> repeat' (split at h)
 all_goals first
  | (cases h; done)
  | (injection h with h; subst h; first | rfl | exact takeS_id _ _)
theorem runs_id : ∀ {ls : List (List UInt8)} {k k' : Kp}, Runs k ls k' → k'.id = k.id
 | [], k, k', h => by rw [show k' = k from h]
 | l :: ls, k, k', h => by
  obtain ⟨k1, h1, h2⟩ := h
  rcases h1 with ⟨_, r, _, _, ha, _⟩ | ⟨e, _⟩
  ·exact (runs_id h2).trans (apply_id ha)
  ·cases e
theorem has_id {id : Int} {s : ByteArray} {k : Kp} (h : Has id s k true) : k.id = id := by
 rcases h with ⟨hi, _, h⟩ | ⟨h, _⟩
 ·have := runs_id h
  rw [this]
  unfold startK
  rw [if_pos hi]
 ·cases h
end Go.Proofs.YtckicpnnclbkpaaGreatDoor.hf

namespace Go.Proofs.YtckicpnnclbkpaaGreatDoor.hf
open Go.ChangeShapes Go.WideShapes Go.ChangeAt Go.RowKit
open wd ow rl ok kp nb sl dc
set_option maxRecDepth 100000 in
set_option maxHeartbeats 1600000 in
theorem icopyN_any (w : World) (id : Int) (up : Bool) (s : ByteArray) (f : Int) (g : Value) (l : List Hf) (h : SeesH w g l) (hl : FewH l) :
  Calls Tryz.prog 54 #[nodeV id up s f g] w (NodePost w id up s f l) := by
 have HC0 := Lib.hid (fun V (hV : Below w.heap.size w V) => copyHs_any V g l (h.later hV) ⟨hl.1, hl.2⟩)
 unfold HalvesPost at HC0
 obtain ⟨A, c, rfl⟩ := h.form
 have K0 := Lib.hid ((Blk.new w 32 (nodeC id up s f (.slice A l.length c))).alloc (.cells (nodeC 0 false ⟨#[]⟩ 0 (.slice none 0 0)) 32))
 have R0 := Blk.new (w.alloc (.cells (nodeC id up s f (.slice A l.length c)) 32)) 32 (nodeC 0 false ⟨#[]⟩ 0 (.slice none 0 0))
 simp only [World.size_alloc] at R0
 have HR0 := Lib.hid R0
 have HB0 := Lib.hid (((Below.refl w.heap.size w).alloc (Nat.le_refl _) (.cells (nodeC id up s f (.slice A l.length c)) 32)).alloc (by simp) (.cells (nodeC 0 false ⟨#[]⟩ 0 (.slice none 0 0)) 32))
 have hz : w.heap.size + 2 ≤ ((w.alloc (.cells (nodeC id up s f (.slice A l.length c)) 32)).alloc (.cells (nodeC 0 false ⟨#[]⟩ 0 (.slice none 0 0)) 32)).heap.size := by simp
 clear h hl R0
 go_enter Tryz.func54, Tryz.ntmps54
 go_upto_region 1 with (fail)
 generalize (w.alloc (.cells (nodeC id up s f (.slice A l.length c)) 32)).alloc (.cells (nodeC 0 false ⟨#[]⟩ 0 (.slice none 0 0)) 32) = V at K0 HR0 HB0 hz ⊢
 obtain ⟨_, _, _, _, n4, _⟩ := five5 K0.out
 go_wp2_with fail
 refine (HC0.out _ HB0.out).mono ?_
 rintro e w1 ⟨v, lr, rfl, o⟩
 obtain ⟨A1, c1, rfl⟩ := o.sees.form
 have HB1 := Lib.hid (HB0.out.trans (o.bel.mono HB0.out.size))
 have k1 := K0.out.below o.bel K0.out.lt
 have r1 := HR0.out.below o.bel HR0.out.lt
 have O1 := o.at_.down hz
 clear n4
 have n4 := k1.cell 4
 simp only [List.getElem?_toArray, List.getElem?_cons_zero, List.getElem?_cons_succ] at n4
 have f4 := k1.frozen 4
 have K2 := Lib.hid (show Blk (w1.setCell ⟨w.heap.size, 4, none⟩ (.slice A1 l.length c1)) w.heap.size 32 (nodeC id up s f (.slice A1 l.length c1)) from k1.put 4 _)
 have R2 := Lib.hid (r1.far (p := ⟨w.heap.size, 4, none⟩) (by show w.heap.size + 1 ≠ w.heap.size; omega) (.slice A1 l.length c1))
 have O2 := Lib.hid (O1.set (p := ⟨w.heap.size, 4, none⟩) (by show w.heap.size < w.heap.size + 2; omega) (.slice A1 l.length c1))
 have HB2 := Lib.hid (HB1.out.setCell (p := ⟨w.heap.size, 4, none⟩) (Nat.le_refl _) (.slice A1 l.length c1))
 clear o k1 r1 O1 HB1 K0 HR0 HB0 HC0 hz
 go_upto_region 2 with (fail)
 clear n4 f4
 generalize w1.setCell ⟨w.heap.size, 4, none⟩ (.slice A1 l.length c1) = W2 at K2 R2 O2 HB2 ⊢
 obtain ⟨p0, p1, p2, p3, p4, _⟩ := five5 K2.out
 obtain ⟨r0, r1, r2, r3, r4, g0, g1, g2, g3, g4⟩ := five5 R2.out
 have HC := Lib.hid (put5n_blk (a' := .int .i64 id) (b' := .bool up) (c' := .string s) (d' := .int .i64 f) (e' := .slice A1 l.length c1) R2.out)
 have HE := Lib.hid (put5n_below (B := w.heap.size) (R := w.heap.size + 1) (Nat.le_succ _) HB2.out (.int .i64 id) (.bool up) (.string s) (.int .i64 f) (.slice A1 l.length c1))
 have HA := Lib.hid (put5n_own O2.out (R := w.heap.size + 1) (by omega) (.int .i64 id) (.bool up) (.string s) (.int .i64 f) (.slice A1 l.length c1))
 go_wp2
 obtain ⟨x0, x1, x2, x3, x4, _⟩ := five5 HC.out
 refine bodyPost_ret (v := .agg #[.int .i64 id, .bool up, .string s, .int .i64 f, .slice A1 l.length c1]) (by simp [results, Tryz.results54, go_sem, x0, x1, x2, x3, x4]) rfl ⟨_, lr, rfl, HA.out.of (by omega) HE.out⟩
end Go.Proofs.YtckicpnnclbkpaaGreatDoor.hf

namespace Go.Proofs.YtckicpnnclbkpaaGreatDoor.hf
open Go.ChangeShapes Go.WideShapes Go.ChangeAt Go.RowKit
open wd ow rl ok kp nb sl dc
theorem node_apart {W : World} {nb B : Nat} {cs : Array Value} {u : Value} {l : List Mb} (hb : Blk W nb 75 cs) (h : OwnAt mbS 97 B W u l) : u.ownBlock ≠ some nb := by
 intro q
 rcases h.2 with ⟨rfl, _⟩ | ⟨g', cap', cur', rfl, _, hh', _⟩
 ·cases q
 ·injection q with q
  subst q
  rw [show W.heap[g']? = some (.cells cs 75) from hb] at hh'
  injection hh' with hh'
  injection hh' with _ ht
  exact absurd ht (by decide)
set_option maxRecDepth 100000 in
set_option maxHeartbeats 3200000 in
theorem operF_h (w : World) (id : Int) (up : Bool) (s : ByteArray) (f : Int) (g : Value) (l : List Hf) (hs : s.size ≤ 1048576) (h : SeesH w g l) (hl : FewH l) (hft : FitsH w g l) (hE : sh.Env w) :
  Calls Tryz.prog 48 #[nodeV id up s f g, .func (.func 49) #[] #[]] w (NodeP2 (ForceR id up s f l) w) := by
 obtain ⟨A, c, rfl⟩ := h.form
 have K0 := Lib.hid ((Blk.new w 32 (nodeC id up s f (.slice A l.length c))).alloc (.cells (nodeC 0 false ⟨#[]⟩ 0 (.slice none 0 0)) 32))
 have R0 := Blk.new (w.alloc (.cells (nodeC id up s f (.slice A l.length c)) 32)) 32 (nodeC 0 false ⟨#[]⟩ 0 (.slice none 0 0))
 simp only [World.size_alloc] at R0
 have HR0 := Lib.hid R0
 have HB0 := Lib.hid (((Below.refl w.heap.size w).alloc (Nat.le_refl _) (.cells (nodeC id up s f (.slice A l.length c)) 32)).alloc (by simp) (.cells (nodeC 0 false ⟨#[]⟩ 0 (.slice none 0 0)) 32))
 have hz : w.heap.size + 2 ≤ ((w.alloc (.cells (nodeC id up s f (.slice A l.length c)) 32)).alloc (.cells (nodeC 0 false ⟨#[]⟩ 0 (.slice none 0 0)) 32)).heap.size := by simp
 have HN := Lib.hid (fun V (hV : Below w.heap.size w V) => open_h V id up s f _ l hs (h.later hV) hl (hft.later h hV) (hE.later hV))
 unfold OpenP at HN
 have HCp := Lib.hid (fun V (hV : Below w.heap.size w V) => icopyN_any V id up s f _ l (h.later hV) hl)
 unfold NodePost at HCp
 have HEn := Lib.hid hE
 clear h hl R0 hft hE
 go_enter Tryz.func48, Tryz.ntmps48
 go_wp2_with fail
 generalize (w.alloc (.cells (nodeC id up s f (.slice A l.length c)) 32)).alloc (.cells (nodeC 0 false ⟨#[]⟩ 0 (.slice none 0 0)) 32) = V at K0 HR0 HB0 hz ⊢
 refine (HN.out _ HB0.out).mono ?_
 rintro e w1 ⟨p, b, rfl, hN, B1, hY⟩
 have HB1 := Lib.hid (HB0.out.trans (B1.mono HB0.out.size))
 have K1 := Lib.hid (K0.out.below B1 K0.out.lt)
 have R1 := Lib.hid (HR0.out.below B1 HR0.out.lt)
 have HNo := Lib.hid hN
 have HB0s := Lib.hid (show w.heap.size + 2 ≤ V.heap.size from hz)
 have HB1s := Lib.hid B1
 clear B1 K0 HR0 HN hN hz
 cases b with
 | false =>
  clear hY HB1s
  obtain ⟨r0, r1, r2, r3, r4, g0, g1, g2, g3, g4⟩ := five5 R1.out
  have HC := Lib.hid (put5n_blk (a' := .int .i64 0) (b' := .bool false) (c' := .string ⟨#[]⟩) (d' := .int .i64 0) (e' := .slice none 0 0) R1.out)
  have HE := Lib.hid (put5n_below (B := w.heap.size) (R := w.heap.size + 1) (Nat.le_succ _) HB1.out (.int .i64 0) (.bool false) (.string ⟨#[]⟩) (.int .i64 0) (.slice none 0 0))
  go_wp2
  obtain ⟨x0, x1, x2, x3, x4, _⟩ := five5 HC.out
  exact bodyPost_ret (v := .tuple #[.agg #[.int .i64 0, .bool false, .string ⟨#[]⟩, .int .i64 0, .slice none 0 0], .bool false]) (by simp [results, Tryz.results48, go_sem, x0, x1, x2, x3, x4]) rfl ⟨_, _, _, _, [], _, [], false, .inr (.inr ⟨HNo.out, rfl, rfl⟩), rfl, ownHs_nil HE.out⟩
 | true =>
  obtain ⟨nb, k, vh, vm, vi, lr, rfl, hd, hn⟩ := hY rfl
  have HI := Lib.hid (has_id hd)
  have HNn := Lib.hid hn
  have HOk := Lib.hid (show sh.okSh s f = true by rcases HNo.out with ⟨_, h, _⟩ | ⟨h, _⟩; exact h; cases h)
  have HH3 := Lib.hid (show l.length ≤ 3 by
   rcases HNo.out with ⟨_, _, h, _⟩ | ⟨h, _⟩
   ·by_cases h3 : 3 < l.length
    ·rw [hfs_many h3] at h; cases h
    ·omega
   ·cases h)
  clear hY hd hn
  cases up with
  | false =>
   have HF := Lib.hid (show ForceR id false s f l ⟨id, false, s, f, l⟩ false from .inr (.inl ⟨HNo.out, (fun h => by cases h.1), rfl, rfl⟩))
   obtain ⟨n0, n1, n2, n3, n4, _⟩ := five5 K1.out
   go_wp2_with fail
   refine (HCp.out _ HB1.out).mono ?_
   rintro e w8 ⟨v8, lr8, rfl, o8⟩
   obtain ⟨A8, c8, rfl⟩ := o8.sees.form
   have HB8 := Lib.hid (HB1.out.trans (o8.bel.mono HB1.out.size))
   have R8 := Lib.hid (R1.out.below o8.bel R1.out.lt)
   have O8 := Lib.hid o8.at_
   have HL8 := Lib.hid (show w.heap.size + 1 < w1.heap.size from R1.out.lt)
   clear o8 n0 n1 n2 n3 n4
   obtain ⟨r0, r1, r2, r3, r4, g0, g1, g2, g3, g4⟩ := five5 R8.out
   have HC := Lib.hid (put5n_blk (a' := .int .i64 id) (b' := .bool false) (c' := .string s) (d' := .int .i64 f) (e' := .slice A8 l.length c8) R8.out)
   have HE := Lib.hid (put5n_below (B := w.heap.size) (R := w.heap.size + 1) (Nat.le_succ _) HB8.out (.int .i64 id) (.bool false) (.string s) (.int .i64 f) (.slice A8 l.length c8))
   have HA := Lib.hid (put5n_own O8.out (R := w.heap.size + 1) HL8.out (.int .i64 id) (.bool false) (.string s) (.int .i64 f) (.slice A8 l.length c8))
   go_wp2
   obtain ⟨x0, x1, x2, x3, x4, _⟩ := five5 HC.out
   exact bodyPost_ret (v := .tuple #[.agg #[.int .i64 id, .bool false, .string s, .int .i64 f, .slice A8 l.length c8], .bool false]) (by simp [results, Tryz.results48, go_sem, x0, x1, x2, x3, x4]) rfl ⟨_, _, _, _, l, _, lr8, false, HF.out, rfl, HA.out.of (by have := HL8.out; omega) HE.out⟩
  | true =>
   obtain ⟨cs, hb, hcs, h26, h27, h8, hR⟩ := HNn.out.ring
   have hLg : Logged w1 nb s f cs := ⟨cs, hb, hcs, (h8 0 (by omega)).trans rfl, (h8 1 (by omega)).trans rfl, fun _ _ => rfl⟩
   have HLg := Lib.hid hLg
   have HRg := Lib.hid (fun W f' (hW : Logged W nb s f' cs) => show RingAt W nb l.length (.string s :: .int .i64 f' :: .int .i64 k.id :: [.int .i64 k.time, .int .i64 k.next, vh, vm, vi]) lr by
    obtain ⟨c', g1, g2, g3, g4, g5⟩ := hW
    refine ⟨c', g1, g2, (g5 26 (by omega)).trans h26, (g5 27 (by omega)).trans h27, fun i hi => ?_, fun i r hi hr j u hu => (g5 _ (by omega)).trans (hR i r hi hr j u hu)⟩
    rcases (by omega : i = 0 ∨ i = 1 ∨ 2 ≤ i) with rfl | rfl | h2
    ·exact g3
    ·exact g4
    ·refine (g5 i h2).trans ((h8 i hi).trans ?_)
     match i, h2 with
     | i + 2, _ => rfl)
   clear hb hcs h26 h27 h8 hR hLg
   by_cases hf : f = (s.size : Int)
   ·have HF := Lib.hid (show ForceR id true s f l ⟨id, true, s, f, l⟩ false from .inr (.inl ⟨HNo.out, (fun h => h.2 hf), rfl, rfl⟩))
    have HFo := Lib.hid (forced_h w1 nb s f cs false (.inr ⟨rfl, hf⟩) HLg.out HOk.out (HEn.out.later HB1.out))
    unfold ForcedP at HFo
    clear hf
    obtain ⟨n0, n1, n2, n3, n4, _⟩ := five5 K1.out
    go_wp2_with fail
    refine HFo.out.mono ?_
    rintro e w4 ⟨rfl, hL, hG⟩
    have hB4 := gbelow hG (HNn.out.lo) HB1s.out.size
    have HB4 := Lib.hid (HB0.out.trans ((HB1s.out.trans hB4).mono HB0.out.size))
    have K4 := Lib.hid (show Blk w4 w.heap.size 32 (nodeC id true s f (.slice A l.length c)) from (hG.block _ K1.out.lt (fun e => by have e2 : w.heap.size = nb := (by injection e); have := HNn.out.lo; have := HB0s.out; omega)).trans K1.out)
    have R4 := Lib.hid (show Blk w4 (w.heap.size + 1) 32 (nodeC 0 false ⟨#[]⟩ 0 (.slice none 0 0)) from (hG.block _ R1.out.lt (fun e => by have e2 : w.heap.size + 1 = nb := (by injection e); have := HNn.out.lo; have := HB0s.out; omega)).trans R1.out)
    clear hL hG hB4 n0 n1 n2 n3 n4
    obtain ⟨n0, n1, n2, n3, n4, _⟩ := five5 K4.out
    go_wp2_with fail
    refine (HCp.out _ HB4.out).mono ?_
    rintro e w8 ⟨v8, lr8, rfl, o8⟩
    obtain ⟨A8, c8, rfl⟩ := o8.sees.form
    have HB8 := Lib.hid (HB4.out.trans (o8.bel.mono HB4.out.size))
    have R8 := Lib.hid (R4.out.below o8.bel R4.out.lt)
    have O8 := Lib.hid o8.at_
    have HL8 := Lib.hid (show w.heap.size + 1 < w4.heap.size from R4.out.lt)
    clear o8 n0 n1 n2 n3 n4
    obtain ⟨r0, r1, r2, r3, r4, g0, g1, g2, g3, g4⟩ := five5 R8.out
    have HC := Lib.hid (put5n_blk (a' := .int .i64 id) (b' := .bool true) (c' := .string s) (d' := .int .i64 f) (e' := .slice A8 l.length c8) R8.out)
    have HE := Lib.hid (put5n_below (B := w.heap.size) (R := w.heap.size + 1) (Nat.le_succ _) HB8.out (.int .i64 id) (.bool true) (.string s) (.int .i64 f) (.slice A8 l.length c8))
    have HA := Lib.hid (put5n_own O8.out (R := w.heap.size + 1) HL8.out (.int .i64 id) (.bool true) (.string s) (.int .i64 f) (.slice A8 l.length c8))
    go_wp2
    obtain ⟨x0, x1, x2, x3, x4, _⟩ := five5 HC.out
    exact bodyPost_ret (v := .tuple #[.agg #[.int .i64 id, .bool true, .string s, .int .i64 f, .slice A8 l.length c8], .bool false]) (by simp [results, Tryz.results48, go_sem, x0, x1, x2, x3, x4]) rfl ⟨_, _, _, _, l, _, lr8, false, HF.out, rfl, HA.out.of (by have := HL8.out; omega) HE.out⟩
   ·have HF := Lib.hid (show ForceR id true s f l ⟨id, true, s, s.size, l⟩ true from .inl ⟨HNo.out, rfl, hf, rfl, rfl⟩)
    have HFo := Lib.hid (forced_h w1 nb s f cs true (.inl ⟨rfl, hf⟩) HLg.out HOk.out (HEn.out.later HB1.out))
    unfold ForcedP at HFo
    clear hf
    obtain ⟨n0, n1, n2, n3, n4, _⟩ := five5 K1.out
    go_wp2_with fail
    refine HFo.out.mono ?_
    rintro e w4 ⟨rfl, hL, hG⟩
    have hB4 := gbelow hG (HNn.out.lo) HB1s.out.size
    have HB4 := Lib.hid (HB0.out.trans ((HB1s.out.trans hB4).mono HB0.out.size))
    have R4 := Lib.hid (show Blk w4 (w.heap.size + 1) 32 (nodeC 0 false ⟨#[]⟩ 0 (.slice none 0 0)) from (hG.block _ R1.out.lt (fun e => by have e2 : w.heap.size + 1 = nb := (by injection e); have := HNn.out.lo; have := HB0s.out; omega)).trans R1.out)
    obtain ⟨vv, hv⟩ := HNn.out.half
    have HG4 := Lib.hid hG
    have hlr := hv.len
    have HV := Lib.hid hv
    have HRn := Lib.hid (running_h w4 nb k.id s s.size lr (by rw [hlr]; exact HRg.out _ _ hL) (by rw [hlr]; exact HH3.out))
    unfold RunP at HRn
    rw [HI.out] at HRn
    clear hL hG hB4 n0 n1 n2 n3 n4 hv
    go_wp2_with fail
    refine HRn.out.mono ?_
    rintro e w5 ⟨v, rfl, o⟩
    obtain ⟨A5, c5, rfl⟩ := OwnR.form o
    have HO5 := Lib.hid (show OwnHAt V.heap.size w5 (.slice A5 lr.length c5) lr l by
     obtain ⟨cs0, hb0, _⟩ := HNn.out.ring
     have hg := fun i r x (hr : lr[i]? = some r) (hx : l[i]? = some x) => ((HV.out.got i r x hr hx).2.same (W' := w4) fun b hb => HG4.out.block b ((HV.out.got i r x hr hx).2.lt hb).2 (fun e => node_apart hb0 (HV.out.got i r x hr hx).2 (by rw [hb, ← e])))
     exact ⟨OwnAt.down o.1 (Nat.le_trans HB1s.out.size HG4.out.size), HV.out.len, fun i r x hr hx => ⟨(HV.out.got i r x hr hx).1, (hg i r x hr hx).later o.2⟩, fun i r hr => by
      have hi := (List.getElem?_eq_some_iff.1 hr).1
      obtain ⟨x, hx⟩ : ∃ x, l[i]? = some x := ⟨_, List.getElem?_eq_getElem (by rw [← HV.out.len]; exact hi)⟩
      exact half_mixed (OwnAt.down (B' := V.heap.size) o.1 (Nat.le_trans HB1s.out.size HG4.out.size)) ((hg i r x hr hx).later o.2), HV.out.apart⟩)
    rw [hlr] at HO5 ⊢
    have HB5 := Lib.hid (HB4.out.trans (o.2.mono HB4.out.size))
    have R5 := Lib.hid (R4.out.below o.2 R4.out.lt)
    clear o
    obtain ⟨r0, r1, r2, r3, r4, g0, g1, g2, g3, g4⟩ := five5 R5.out
    have HC := Lib.hid (put5n_blk (a' := .int .i64 id) (b' := .bool true) (c' := .string s) (d' := .int .i64 s.size) (e' := .slice A5 l.length c5) R5.out)
    have HE := Lib.hid (put5n_below (B := w.heap.size) (R := w.heap.size + 1) (Nat.le_succ _) HB5.out (.int .i64 id) (.bool true) (.string s) (.int .i64 s.size) (.slice A5 l.length c5))
    have HA := Lib.hid (put5n_own HO5.out (R := w.heap.size + 1) (by have := HB0s.out; omega) (.int .i64 id) (.bool true) (.string s) (.int .i64 s.size) (.slice A5 l.length c5))
    go_wp2
    obtain ⟨x0, x1, x2, x3, x4, _⟩ := five5 HC.out
    exact bodyPost_ret (v := .tuple #[.agg #[.int .i64 id, .bool true, .string s, .int .i64 s.size, .slice A5 l.length c5], .bool true]) (by simp [results, Tryz.results48, go_sem, x0, x1, x2, x3, x4]) rfl ⟨_, _, _, _, l, _, lr, true, HF.out, rfl, HA.out.of (by have := HB0s.out; omega) HE.out⟩
end Go.Proofs.YtckicpnnclbkpaaGreatDoor.hf

namespace Go.Proofs.YtckicpnnclbkpaaGreatDoor.hf
open Go.ChangeShapes Go.WideShapes Go.ChangeAt Go.RowKit
open wd ow rl ok kp nb sl dc
set_option maxRecDepth 100000 in
set_option maxHeartbeats 1600000 in
theorem iforceK_any (w : World) (id : Int) (up : Bool) (s : ByteArray) (f : Int) (g : Value) (l : List Hf) (hs : s.size ≤ 1048576) (h : SeesH w g l) (hl : FewH l) (hft : FitsH w g l) (hE : sh.Env w) :
  Calls Tryz.prog 20 #[nodeV id up s f g] w (NodeP2 (ForceR id up s f l) w) := by
 obtain ⟨A, c, rfl⟩ := h.form
 have K0 := Lib.hid ((Blk.new w 32 (nodeC id up s f (.slice A l.length c))).alloc (.cells (nodeC 0 false ⟨#[]⟩ 0 (.slice none 0 0)) 32))
 have R0 := Blk.new (w.alloc (.cells (nodeC id up s f (.slice A l.length c)) 32)) 32 (nodeC 0 false ⟨#[]⟩ 0 (.slice none 0 0))
 simp only [World.size_alloc] at R0
 have HR0 := Lib.hid R0
 have HB0 := Lib.hid (((Below.refl w.heap.size w).alloc (Nat.le_refl _) (.cells (nodeC id up s f (.slice A l.length c)) 32)).alloc (by simp) (.cells (nodeC 0 false ⟨#[]⟩ 0 (.slice none 0 0)) 32))
 have hz : w.heap.size + 2 ≤ ((w.alloc (.cells (nodeC id up s f (.slice A l.length c)) 32)).alloc (.cells (nodeC 0 false ⟨#[]⟩ 0 (.slice none 0 0)) 32)).heap.size := by simp
 have HO := Lib.hid (fun V (hV : Below w.heap.size w V) => operF_h V id up s f _ l hs (h.later hV) hl (hft.later h hV) (hE.later hV))
 unfold NodeP2 at HO
 clear h hl R0 hft hE
 go_enter Tryz.func20, Tryz.ntmps20
 go_wp2_with fail
 generalize (w.alloc (.cells (nodeC id up s f (.slice A l.length c)) 32)).alloc (.cells (nodeC 0 false ⟨#[]⟩ 0 (.slice none 0 0)) 32) = V at K0 HR0 HB0 hz ⊢
 refine (HO.out _ HB0.out).mono ?_
 rintro e w1 ⟨id1, up1, s1, f1, l1, v, lr, b, hR, rfl, o⟩
 obtain ⟨A1, c1, rfl⟩ := o.sees.form
 have HB1 := Lib.hid (HB0.out.trans (o.bel.mono HB0.out.size))
 have R1 := Lib.hid (HR0.out.below o.bel HR0.out.lt)
 have O1 := Lib.hid (o.at_)
 have HF := Lib.hid hR
 have HZ := Lib.hid hz
 clear o hR hz K0 HR0 HB0 HO
 obtain ⟨r0, r1, r2, r3, r4, g0, g1, g2, g3, g4⟩ := five5 R1.out
 have HC := Lib.hid (put5n_blk (a' := .int .i64 id1) (b' := .bool up1) (c' := .string s1) (d' := .int .i64 f1) (e' := .slice A1 l1.length c1) R1.out)
 have HE := Lib.hid (put5n_below (B := w.heap.size) (R := w.heap.size + 1) (Nat.le_succ _) HB1.out (.int .i64 id1) (.bool up1) (.string s1) (.int .i64 f1) (.slice A1 l1.length c1))
 have HA := Lib.hid (put5n_own O1.out (R := w.heap.size + 1) (by have := HZ.out; omega) (.int .i64 id1) (.bool up1) (.string s1) (.int .i64 f1) (.slice A1 l1.length c1))
 go_wp2
 obtain ⟨x0, x1, x2, x3, x4, _⟩ := five5 HC.out
 exact bodyPost_ret (v := .tuple #[.agg #[.int .i64 id1, .bool up1, .string s1, .int .i64 f1, .slice A1 l1.length c1], .bool b]) (by simp [results, Tryz.results20, go_sem, x0, x1, x2, x3, x4]) rfl ⟨_, _, _, _, l1, _, lr, b, HF.out, rfl, HA.out.of (by have := HZ.out; omega) HE.out⟩
end Go.Proofs.YtckicpnnclbkpaaGreatDoor.hf

