/-
  Merged texts: DrawNear.
-/
import Derived.Test.YtjmmojjjopjdpaaGreatDoorGFnKeepOf5
import Derived.Test.YtjmmojjjopjdpaaGreatDoorGFnKeepOf19
import Derived.Test.YtjmmojjjopjdpaaGreatDoorGFnKeepOf20
import Derived.Deep.RegionWith
import Derived.Deep.Cut
/-
  Contract of spec.l72Near: a record that may be done to what a keeper has: whatever the code, a text of at most 100 bytes; nothing old is turned but the reader.
-/
namespace Go.Proofs.YtjmmojjjopjdpaaGreatDoor.kp
open Go.ChangeShapes Go.WideShapes Go.ChangeAt Go.RowKit
open Go.Proofs.YtjmmojjjopjdpaaGreatDoor.wd Go.Proofs.YtjmmojjjopjdpaaGreatDoor.ow Go.Proofs.YtjmmojjjopjdpaaGreatDoor.rl Go.Proofs.YtjmmojjjopjdpaaGreatDoor.ok Go.Proofs.YtjmmojjjopjdpaaGreatDoor.nb Go.Proofs.YtjmmojjjopjdpaaGreatDoor.dc Go.Proofs.YtjmmojjjopjdpaaGreatDoor.pk Go.Proofs.YtjmmojjjopjdpaaGreatDoor.dr

/-- what is asked of a keep that is drawn upon -/
structure NearK (k : Kp) : Prop where
  id : 0 ≤ k.id ∧ k.id ≤ 3
  time : 0 ≤ k.time ∧ k.time ≤ 999
  next : 0 ≤ k.next ∧ k.next ≤ 100
  held : ∀ x ∈ k.held, okNt x = true
  inbox : ∀ x ∈ k.inbox, okNt x = true
  hl : k.held.length ≤ 6
  il : k.inbox.length ≤ 6
theorem nearK_ok {k : Kp} (h : okK k = true) : NearK k := by
  obtain ⟨h1, h2, h3, h4, h5, h6, _⟩ := okK_parts h
  have h1 := inB_iff.1 h1
  have h2 := inB_iff.1 h2
  have h3 := inB_iff.1 h3
  exact ⟨h1, h2, by omega, fun x hx => okNts_mem h4 hx, fun x hx => okNts_mem h6 hx, (okNts_parts h4).1, (okNts_parts h6).1⟩
theorem nearK_zero : NearK zeroK := ⟨by decide, by decide, by decide, (fun _ h => by cases h), (fun _ h => by cases h), Nat.zero_le _, Nat.zero_le _⟩
theorem seesR_grown {α : Type} {S : Shape α} {W W' : World} {v : Value} {l : List α} {b : Nat} (h : SeesR S W v l) (hg : W.grownBy W' (some b)) (hv : v.ownBlock ≠ some b) : SeesR S W' v l := by
  obtain ⟨A, c, rfl, hc⟩ := h
  refine ⟨A, c, rfl, ?_⟩
  rcases hc with hc | ⟨g, rfl, hlt, hcell⟩
  · exact .inl hc
  · refine .inr ⟨g, rfl, Nat.lt_of_lt_of_le hlt hg.size, fun i x hx j u hu => ?_⟩
    have e : W'.heap[g]? = W.heap[g]? := hg.block g hlt (fun e => hv (by injection e with e; subst e; rfl))
    have e2 : W'.cell? ⟨g, i * S.n + j, none⟩ = W.cell? ⟨g, i * S.n + j, none⟩ := by unfold World.cell?; simp only [e]
    rw [e2]; exact hcell i x hx j u hu
theorem cells6 {w : World} {g : Nat} {t : TypeId} {a b c d e f : Value} (h : Blk w g t #[a, b, c, d, e, f]) : w.cell? ⟨g, 0, none⟩ = some a ∧ w.cell? ⟨g, 1, none⟩ = some b ∧ w.cell? ⟨g, 2, none⟩ = some c ∧ w.cell? ⟨g, 3, none⟩ = some d ∧ w.cell? ⟨g, 4, none⟩ = some e ∧ w.cell? ⟨g, 5, none⟩ = some f :=
  ⟨h.cell 0, h.cell 1, h.cell 2, h.cell 3, h.cell 4, h.cell 5⟩
theorem cells5 {w : World} {g : Nat} {t : TypeId} {a b c d e : Value} (h : Blk w g t #[a, b, c, d, e]) : w.cell? ⟨g, 0, none⟩ = some a ∧ w.cell? ⟨g, 1, none⟩ = some b ∧ w.cell? ⟨g, 2, none⟩ = some c ∧ w.cell? ⟨g, 3, none⟩ = some d ∧ w.cell? ⟨g, 4, none⟩ = some e ∧ w.frozen? ⟨g, 0, none⟩ = false ∧ w.frozen? ⟨g, 1, none⟩ = false ∧ w.frozen? ⟨g, 3, none⟩ = false :=
  ⟨h.cell 0, h.cell 1, h.cell 2, h.cell 3, h.cell 4, h.frozen 0, h.frozen 1, h.frozen 3⟩
theorem sees_note {w : World} {g n c i : Nat} {l : List Nt} {x : Nt} (h : SeesN w (.slice (some ⟨g, 0, none⟩) n c) l) (hx : l[i]? = some x) : w.cell? ⟨g, i * 5, none⟩ = some (.int .i64 x.f) ∧ w.cell? ⟨g, i * 5 + 1, none⟩ = some (.int .i64 x.n) ∧ w.cell? ⟨g, i * 5 + 2, none⟩ = some (.int .i64 x.t) ∧ w.cell? ⟨g, i * 5 + 3, none⟩ = some (.int .i64 x.u) ∧ w.cell? ⟨g, i * 5 + 4, none⟩ = some (.string x.s) := by
  obtain ⟨g', c', e, _, _, c0, c1, c2, c3, c4⟩ := note_at h hx
  injection e with e1 _ _
  injection e1 with e1
  injection e1 with e1 _ _
  subst e1
  exact ⟨c0, c1, c2, c3, c4⟩
theorem grown_later {w W W' : World} {b : Nat} (h : w.grownBy W (some b)) (hb : Below w.heap.size W W') : w.grownBy W' (some b) :=
  ⟨hb.os.trans h.os, hb.tape.trans h.tape, hb.output.trans h.output, Nat.le_trans h.size hb.size, fun k hk hn => (hb.block k hk).trans (h.block k hk hn)⟩
theorem set_grown {W W' : World} {o : Nat} (h : W.grownBy W' (some o)) (i : Nat) (v : Value) : W.grownBy (W'.setCell ⟨o, i, none⟩ v) (some o) :=
  ⟨h.os, h.tape, h.output, by simpa using h.size, fun k hk hn => (Below.heap_setCell W' _ v k (by show k ≠ o; intro e; exact hn (by rw [e]))).trans (h.block k hk hn)⟩
theorem put5g (W : World) (o : Nat) (a0 a1 a2 a3 a4 : Value) : W.grownBy (((((W.setCell ⟨o, 0, none⟩ a0).setCell ⟨o, 1, none⟩ a1).setCell ⟨o, 2, none⟩ a2).setCell ⟨o, 3, none⟩ a3).setCell ⟨o, 4, none⟩ a4) (some o) :=
  set_grown (set_grown (set_grown (set_grown (set_grown (dr.below_grown (Below.refl _ _) _) 0 a0) 1 a1) 2 a2) 3 a3) 4 a4
theorem put5b {W : World} {o : Nat} {T : TypeId} {x0 x1 x2 x3 x4 : Value} (h : Blk W o T #[x0, x1, x2, x3, x4]) (a0 a1 a2 a3 a4 : Value) : Blk (((((W.setCell ⟨o, 0, none⟩ a0).setCell ⟨o, 1, none⟩ a1).setCell ⟨o, 2, none⟩ a2).setCell ⟨o, 3, none⟩ a3).setCell ⟨o, 4, none⟩ a4) o T #[a0, a1, a2, a3, a4] := by
  simpa using ((((h.put 0 a0).put 1 a1).put 2 a2).put 3 a3).put 4 a4
theorem frozen5 {w : World} {g : Nat} {t : TypeId} {cs : Array Value} (h : Blk w g t cs) : w.frozen? ⟨g, 0, none⟩ = false ∧ w.frozen? ⟨g, 1, none⟩ = false ∧ w.frozen? ⟨g, 2, none⟩ = false ∧ w.frozen? ⟨g, 3, none⟩ = false ∧ w.frozen? ⟨g, 4, none⟩ = false :=
  ⟨h.frozen 0, h.frozen 1, h.frozen 2, h.frozen 3, h.frozen 4⟩
def NearPost (w : World) (b : Nat) (A : Option Addr) (len cap : Nat) (p : Int) (e : Ending) (w' : World) : Prop :=
  ∃ (s : ByteArray) (p' : Int), e = .returned (.string s) ∧ s.size ≤ 100 ∧ p ≤ p' ∧ p' ≤ p + 120 ∧ Rd w' b A len cap p' ∧ w.grownBy w' (some b)

set_option maxRecDepth 100000 in
set_option maxHeartbeats 8000000 in
theorem near72 (w : World) (b : Nat) (A : Option Addr) (len cap : Nat) (p : Int) (h : Rd w b A len cap p) (hp : p ≤ 600000) (k : Kp) (a1 b1 c1 : Value) (hS : SeesK w k a1 b1 c1) (hn : NearK k) (ho : Off b a1 b1 c1) :
    Calls Tryz.prog 47 #[.pointer (some ⟨b, 0, none⟩), kpV k.id k.time k.next a1 b1 c1] w (NearPost w b A len cap p) := by
  have hb := h.1.lt
  have hK := Blk.new w 29 #[.int .i64 k.id, .int .i64 k.time, .int .i64 k.next, a1, b1, c1]
  have hR0 := rd_later h ((Below.refl (b + 1) w).alloc (by omega) (.cells #[.int .i64 k.id, .int .i64 k.time, .int .i64 k.next, a1, b1, c1] 29))
  have hG0 := dr.below_grown ((Below.refl _ w).alloc (Nat.le_refl _) (.cells #[.int .i64 k.id, .int .i64 k.time, .int .i64 k.next, a1, b1, c1] 29)) (some b)
  have HS := Lib.hid hS
  have HNk := Lib.hid hn
  have HOf := Lib.hid ho
  have hKb : w.heap.size ≠ b := by omega
  clear hS hn ho h
  go_enter Tryz.func47, Tryz.ntmps47
  go_wp2_with fail
  have hkb := hK.lt
  generalize w.heap.size = kb at hK hKb hkb ⊢
  generalize w.alloc (.cells #[.int .i64 k.id, .int .i64 k.time, .int .i64 k.next, a1, b1, c1] 29) = V at hK hR0 hG0 hkb ⊢
  refine (note72 _ _ _ _ _ _ hR0 (by omega)).mono ?_
  rintro e w1 ⟨f, n, t, u, x, p1, rfl, hx, hp0, hp1, hR1, hG1⟩
  have hG2 := grown_trans hG0 hG1
  have hb1 := hR1.1.lt
  have hK1 := blk_grown hK hG1 hKb
  have hN := Blk.new w1 131 #[.int .i64 f, .int .i64 n, .int .i64 t, .int .i64 u, .string x]
  have B2 := (Below.refl w1.heap.size w1).alloc (Nat.le_refl _) (.cells #[.int .i64 f, .int .i64 n, .int .i64 t, .int .i64 u, .string x] 131)
  have HR := Lib.hid (rd_later hR1 (B2.mono (by omega)))
  have HG := Lib.hid (grown_trans hG2 (dr.below_grown B2 _))
  have HK := Lib.hid (hK1.below B2 hK1.lt)
  have HN := Lib.hid hN
  have HKb := Lib.hid hKb
  have HBn := Lib.hid hb1
  have HWn := Lib.hid hG2.size
  have HNb := Lib.hid (show w1.heap.size ≠ b by omega)
  have HKN := Lib.hid (show kb ≠ w1.heap.size from Nat.ne_of_lt hK1.lt)
  have hp2 : p1 ≤ p + 50 := hp1
  clear hR0 hG0 hG1 hG2 hR1 hK1 hN B2 hK hKb hkb hb1 hb
  unfold note
  go_upto_region 2 with (fail)
  generalize w1.alloc (.cells #[.int .i64 f, .int .i64 n, .int .i64 t, .int .i64 u, .string x] 131) = V1 at HR HG HK HN ⊢
  generalize w1.heap.size = nb at HN HNb HKN HBn HWn ⊢
  go_wp2_with fail
  refine (picked _ _ _ _ _ _ _ HR.out (by omega) (by omega) (by omega)).mono ?_
  rintro e w2 ⟨v, rfl, v0, v1, hR2, hO2⟩
  have HR2 := Lib.hid hR2
  have HG2 := Lib.hid (grown_trans HG.out (only_grown hO2))
  have HK2 := Lib.hid (blk_only HK.out hO2 HKb.out)
  have HN2 := Lib.hid (blk_only HN.out hO2 HNb.out)
  have hb2 := hR2.1.lt
  clear HR HG HK HN hR2 hO2
  have hid := HNk.out.id
  have htm := HNk.out.time
  have hnx := HNk.out.next
  rcases (by omega : v = 0 ∨ v = 1 ∨ v = 4 ∨ 5 ≤ v ∨ v = 2 ∨ v = 3) with rfl | rfl | rfl | h5 | rfl | rfl
  · go_upto_region 4 with (fail)
    have h0 := (Below.refl w2.heap.size w2).drew
    refine wp_region_held_drew (S := (fun w' : World => Blk w' kb 29 #[.int .i64 k.id, .int .i64 k.time, .int .i64 k.next, a1, b1, c1])) (by kernel_rfl) (HK2.out.below h0 HK2.out.lt) (fun hHeld => ?_)
    clear hHeld
    have HRd := Lib.hid (rd_later HR2.out (h0.mono (by have := HR2.out.1.lt; omega)))
    have HGd := Lib.hid (grown_trans HG2.out (dr.below_grown h0 _))
    have HKd := Lib.hid (HK2.out.below h0 HK2.out.lt)
    have HNd := Lib.hid (HN2.out.below h0 HN2.out.lt)
    clear h0
    generalize w2.drew = Z at HRd HGd HKd HNd ⊢
    have hKd := HKd.out
    refine rs.want_take (i := 0) 14 (v := ?_) rfl rfl (by kernel_rfl) (by kernel_rfl) (by kernel_rfl) (fun _ _ _ _ h => h) rfl ?_ (by assumption) ?_
    rotate_left 1
    · (intro w' hSw; obtain ⟨k0, k1, k2, k3, k4, k5⟩ := cells6 hSw; go_simp; try with_reducible rfl)
    simp only [List.setIfInBounds_toArray, List.set_cons_zero, List.set_cons_succ]
    refine rs.want_take (i := 1) 15 (v := ?_) rfl rfl (by kernel_rfl) (by kernel_rfl) (by kernel_rfl) (fun _ _ _ _ h => h) rfl ?_ (by assumption) ?_
    rotate_left 1
    · (intro w' hSw; obtain ⟨k0, k1, k2, k3, k4, k5⟩ := cells6 hSw; go_simp; try with_reducible rfl)
    simp only [List.setIfInBounds_toArray, List.set_cons_zero, List.set_cons_succ]
    refine rs.want_take (i := 2) 16 (v := ?_) rfl rfl (by kernel_rfl) (by kernel_rfl) (by kernel_rfl) (fun _ _ _ _ h => h) rfl ?_ (by assumption) ?_
    rotate_left 1
    · (intro w' hSw; obtain ⟨k0, k1, k2, k3, k4, k5⟩ := cells6 hSw; go_simp; try with_reducible rfl)
    simp only [List.setIfInBounds_toArray, List.set_cons_zero, List.set_cons_succ]
    refine wpAnyH_ready (rs := [3]) (by kernel_rfl) (by simp) ?_
    refine AllReadyH.cons rfl (fun K hK => ?_) AllReadyH.nil
    go_simp
    refine (picked _ _ _ _ _ _ _ HRd.out (by omega) (by omega) (by omega)).mono ?_
    rintro e u1 ⟨q, rfl, q0, q1, hR4, hO4⟩
    have HR4 := Lib.hid hR4
    have HG4 := Lib.hid (grown_trans HGd.out (only_grown hO4))
    have HK4 := Lib.hid (blk_only HKd.out hO4 HKb.out)
    have HN4 := Lib.hid (blk_only HNd.out hO4 HNb.out)
    clear hR4 hO4 HRd HGd HKd HNd hKd
    refine hK.out _ _ HK4.out (fun hHeld => ?_)
    clear hK K hHeld
    have hKd := HK4.out
    have hwr : IntKind.i64.wrap (k.time + q) = k.time + q := by rw [IntKind.wrap_i64]; omega
    refine rs.want_take (i := 4) 18 (v := ?_) rfl rfl (by kernel_rfl) (by kernel_rfl) (by kernel_rfl) (fun _ _ _ _ h => h) rfl ?_ (by assumption) ?_
    rotate_left 1
    · (intro w' hSw; obtain ⟨k0, k1, k2, k3, k4, k5⟩ := cells6 hSw; go_simp; try with_reducible rfl)
    simp only [List.setIfInBounds_toArray, List.set_cons_zero, List.set_cons_succ]
    refine wpAnyH_ready (rs := [5]) (by kernel_rfl) (by simp) ?_
    refine AllReadyH.cons rfl (fun K hK => ?_) AllReadyH.nil
    go_simp
    refine (decS (k.time + q) (by omega) (by omega) _).mono ?_
    rintro e u2 ⟨z, rfl, hz, hB6⟩
    have HR7 := Lib.hid (rd_later HR4.out (hB6.mono (by have := HR4.out.1.lt; omega)))
    have HG7 := Lib.hid (grown_trans HG4.out (dr.below_grown hB6 _))
    have hK7 := HK4.out.below hB6 HK4.out.lt
    refine hK.out _ _ hK7 (fun hHeld => ?_)
    clear hK K hHeld hB6
    have q5 : (⟨#[116, 105, 109, 101, 32]⟩ : ByteArray).size = 5 := rfl
    obtain ⟨y, ey, qy, ry⟩ := adds ⟨#[116, 105, 109, 101, 32]⟩ z (by omega)
    have hy : y.size ≤ 100 := by omega
    clear ey qy
    refine rs.want_take (i := 6) 20 (v := ?_) rfl rfl (by kernel_rfl) (by kernel_rfl) (by kernel_rfl) (fun _ _ _ _ h => h) rfl ?_ (by assumption) ?_
    rotate_left 1
    · (intro w' hSw; obtain ⟨k0, k1, k2, k3, k4, k5⟩ := cells6 hSw; go_simp; try with_reducible rfl)
    simp only [List.setIfInBounds_toArray, List.set_cons_zero, List.set_cons_succ]
    refine rs.want_take (i := 7) 4 (v := ?_) rfl rfl (by kernel_rfl) (by kernel_rfl) (by kernel_rfl) (fun _ _ _ _ h => h) rfl ?_ (by assumption) ?_
    rotate_left 1
    · (intro w' hSw; obtain ⟨k0, k1, k2, k3, k4, k5⟩ := cells6 hSw; go_simp; try with_reducible rfl)
    simp only [List.setIfInBounds_toArray, List.set_cons_zero, List.set_cons_succ]
    refine wpAnyH_done (by kernel_rfl) ?_ _
    go_wp2
    go_ret
    exact ⟨y, p1 + 1 + 1, rfl, hy, by omega, by omega, HR7.out, HG7.out⟩
  · obtain ⟨k0, k1, k2, k3, k4, k5⟩ := cells6 HK2.out
    obtain ⟨n0, n1, n2, n3, n4, n5, n6, n7⟩ := cells5 HN2.out
    go_upto_region 7 with (fail)
    have HR3 := Lib.hid (rd_set HR2.out (a := ⟨nb, 0, none⟩) HBn.out (.int .i64 k.id))
    have HG3 := Lib.hid (grown_set HG2.out (a := ⟨nb, 0, none⟩) HWn.out (.int .i64 k.id))
    have HK3 := Lib.hid (HK2.out.far (p := ⟨nb, 0, none⟩) HKN.out (.int .i64 k.id))
    have HN3 : Hid (Blk (w2.setCell ⟨nb, 0, none⟩ (.int .i64 k.id)) nb 131 #[.int .i64 k.id, .int .i64 n, .int .i64 t, .int .i64 u, .string x]) := by refine Lib.hid ?_; simpa using HN2.out.put 0 (.int .i64 k.id)
    clear n0 n1 n2 n3 n4 n5 n6 n7 k0 k1 k2 k3 k4 k5
    generalize w2.setCell ⟨nb, 0, none⟩ (.int .i64 k.id) = W3 at HR3 HG3 HK3 HN3 ⊢
    obtain ⟨k0, k1, k2, k3, k4, k5⟩ := cells6 HK3.out
    obtain ⟨n0, n1, n2, n3, n4, n5, n6, n7⟩ := cells5 HN3.out
    go_upto_region 8 with (fail)
    have HR4 := Lib.hid (rd_set HR3.out (a := ⟨nb, 1, none⟩) HBn.out (.int .i64 k.next))
    have HG4 := Lib.hid (grown_set HG3.out (a := ⟨nb, 1, none⟩) HWn.out (.int .i64 k.next))
    have HK4 := Lib.hid (HK3.out.far (p := ⟨nb, 1, none⟩) HKN.out (.int .i64 k.next))
    have HN4 : Hid (Blk (W3.setCell ⟨nb, 1, none⟩ (.int .i64 k.next)) nb 131 #[.int .i64 k.id, .int .i64 k.next, .int .i64 t, .int .i64 u, .string x]) := by refine Lib.hid ?_; simpa using HN3.out.put 1 (.int .i64 k.next)
    clear n0 n1 n2 n3 n4 n5 n6 n7 k0 k1 k2 k3 k4 k5
    generalize W3.setCell ⟨nb, 1, none⟩ (.int .i64 k.next) = W4 at HR4 HG4 HK4 HN4 ⊢
    obtain ⟨n0, n1, n2, n3, n4, n5, n6, n7⟩ := cells5 HN4.out
    go_wp2_with fail
    refine (swrite_any k.id k.next t u x _ (by unfold maxLen; omega)).mono ?_
    rintro e w6 ⟨rfl, hB6⟩
    have hx2 := nw_size k.id k.next t u x
    have hR7 := rd_later HR4.out (hB6.mono (by have := HR4.out.1.lt; omega))
    have hG7 := grown_trans HG4.out (dr.below_grown hB6 _)
    have HR7 := Lib.hid hR7
    have HG7 := Lib.hid hG7
    clear hB6 hR7 hG7
    generalize nw k.id k.next t u x = z at hx2 ⊢
    have q5 : (⟨#[111, 119, 110, 32]⟩ : ByteArray).size = 4 := rfl
    obtain ⟨y, ey, qy, ry⟩ := adds ⟨#[111, 119, 110, 32]⟩ z (by omega)
    have hy : y.size ≤ 100 := by omega
    clear ey qy
    go_wp2
    go_ret
    exact ⟨y, p1 + 1, rfl, hy, by omega, by omega, HR7.out, HG7.out⟩
  · go_wp2_with fail
    refine (rec72 _ _ _ _ _ _ HR2.out (by omega)).mono ?_
    rintro e w3 ⟨s, p', rfl, hs, q0, q1, hR3, hG3⟩
    have HG3 := Lib.hid (grown_trans HG2.out hG3)
    have HR3 := Lib.hid hR3
    clear hG3 hR3
    go_wp2
    go_ret
    exact ⟨s, p', rfl, hs, by omega, by omega, HR3.out, HG3.out⟩
  · have e0 : (v == 0) = false := by simp; omega
    have e1 : (v == 1) = false := by simp; omega
    have e2 : (v == 2) = false := by simp; omega
    have e3 : (v == 3) = false := by simp; omega
    have e4 : (v == 4) = false := by simp; omega
    go_upto_region 19 with (fail)
    have h0 := (Below.refl w2.heap.size w2).drew
    refine wp_region_held_drew (S := (fun w' : World => Blk w' kb 29 #[.int .i64 k.id, .int .i64 k.time, .int .i64 k.next, a1, b1, c1])) (by kernel_rfl) (HK2.out.below h0 HK2.out.lt) (fun hHeld => ?_)
    clear hHeld
    have HRd := Lib.hid (rd_later HR2.out (h0.mono (by have := HR2.out.1.lt; omega)))
    have HGd := Lib.hid (grown_trans HG2.out (dr.below_grown h0 _))
    have HKd := Lib.hid (HK2.out.below h0 HK2.out.lt)
    have HNd := Lib.hid (HN2.out.below h0 HN2.out.lt)
    clear h0
    generalize w2.drew = Z at HRd HGd HKd HNd ⊢
    have hKd := HKd.out
    refine rs.want_take (i := 0) 82 (v := ?_) rfl rfl (by kernel_rfl) (by kernel_rfl) (by kernel_rfl) (fun _ _ _ _ h => h) rfl ?_ (by assumption) ?_
    rotate_left 1
    · (intro w' hSw; obtain ⟨k0, k1, k2, k3, k4, k5⟩ := cells6 hSw; go_simp; try with_reducible rfl)
    simp only [List.setIfInBounds_toArray, List.set_cons_zero, List.set_cons_succ]
    refine rs.want_take (i := 1) 83 (v := ?_) rfl rfl (by kernel_rfl) (by kernel_rfl) (by kernel_rfl) (fun _ _ _ _ h => h) rfl ?_ (by assumption) ?_
    rotate_left 1
    · (intro w' hSw; obtain ⟨k0, k1, k2, k3, k4, k5⟩ := cells6 hSw; go_simp; try with_reducible rfl)
    simp only [List.setIfInBounds_toArray, List.set_cons_zero, List.set_cons_succ]
    refine rs.want_take (i := 2) 84 (v := ?_) rfl rfl (by kernel_rfl) (by kernel_rfl) (by kernel_rfl) (fun _ _ _ _ h => h) rfl ?_ (by assumption) ?_
    rotate_left 1
    · (intro w' hSw; obtain ⟨k0, k1, k2, k3, k4, k5⟩ := cells6 hSw; go_simp; try with_reducible rfl)
    simp only [List.setIfInBounds_toArray, List.set_cons_zero, List.set_cons_succ]
    refine wpAnyH_ready (rs := [3]) (by kernel_rfl) (by simp) ?_
    refine AllReadyH.cons rfl (fun K hK => ?_) AllReadyH.nil
    go_simp
    refine (picked _ _ _ _ _ _ _ HRd.out (by omega) (by omega) (by omega)).mono ?_
    rintro e u1 ⟨q, rfl, q0, q1, hR4, hO4⟩
    have HR4 := Lib.hid hR4
    have HG4 := Lib.hid (grown_trans HGd.out (only_grown hO4))
    have HK4 := Lib.hid (blk_only HKd.out hO4 HKb.out)
    have HN4 := Lib.hid (blk_only HNd.out hO4 HNb.out)
    clear hR4 hO4 HRd HGd HKd HNd hKd
    refine hK.out _ _ HK4.out (fun hHeld => ?_)
    clear hK K hHeld
    have hKd := HK4.out
    have hwr : IntKind.i64.wrap (k.time + q) = k.time + q := by rw [IntKind.wrap_i64]; omega
    refine rs.want_take (i := 4) 86 (v := ?_) rfl rfl (by kernel_rfl) (by kernel_rfl) (by kernel_rfl) (fun _ _ _ _ h => h) rfl ?_ (by assumption) ?_
    rotate_left 1
    · (intro w' hSw; obtain ⟨k0, k1, k2, k3, k4, k5⟩ := cells6 hSw; go_simp; try with_reducible rfl)
    simp only [List.setIfInBounds_toArray, List.set_cons_zero, List.set_cons_succ]
    refine rs.want_take (i := 5) 87 (v := ?_) rfl rfl (by kernel_rfl) (by kernel_rfl) (by kernel_rfl) (fun _ _ _ _ h => h) rfl ?_ (by assumption) ?_
    rotate_left 1
    · (intro w' hSw; obtain ⟨k0, k1, k2, k3, k4, k5⟩ := cells6 hSw; go_simp; try with_reducible rfl)
    simp only [List.setIfInBounds_toArray, List.set_cons_zero, List.set_cons_succ]
    obtain ⟨n0, n1, n2, n3, n4, n5, n6, n7⟩ := cells5 HN4.out
    refine wpAnyH_ready (rs := [6]) (by kernel_rfl) (by simp) ?_
    refine AllReadyH.cons rfl (fun K hK => ?_) AllReadyH.nil
    go_simp
    have HR5 := Lib.hid (rd_set HR4.out (a := ⟨nb, 3, none⟩) HBn.out (.int .i64 (k.time + q)))
    have HG5 := Lib.hid (grown_set HG4.out (a := ⟨nb, 3, none⟩) HWn.out (.int .i64 (k.time + q)))
    have HK5 := Lib.hid (HK4.out.far (p := ⟨nb, 3, none⟩) HKN.out (.int .i64 (k.time + q)))
    have HN5 : Hid (Blk (u1.setCell ⟨nb, 3, none⟩ (.int .i64 (k.time + q))) nb 131 #[.int .i64 f, .int .i64 n, .int .i64 t, .int .i64 (k.time + q), .string x]) := by refine Lib.hid ?_; simpa using HN4.out.put 3 (.int .i64 (k.time + q))
    refine hK.out _ _ HK5.out (fun hHeld => ?_)
    clear hK K hHeld n0 n1 n2 n3 n4 n5 n6 n7 hKd HR4 HG4 HK4 HN4
    refine wpAnyH_done (by kernel_rfl) ?_ _
    generalize u1.setCell ⟨nb, 3, none⟩ (.int .i64 (k.time + q)) = W5 at HR5 HG5 HK5 HN5 ⊢
    obtain ⟨n0, n1, n2, n3, n4, n5, n6, n7⟩ := cells5 HN5.out
    go_wp2_with fail
    refine (swrite_any f n t (k.time + q) x _ (by unfold maxLen; omega)).mono ?_
    rintro e w6 ⟨rfl, hB6⟩
    have hx2 := nw_size f n t (k.time + q) x
    have hR7 := rd_later HR5.out (hB6.mono (by have := HR5.out.1.lt; omega))
    have hG7 := grown_trans HG5.out (dr.below_grown hB6 _)
    have HR7 := Lib.hid hR7
    have HG7 := Lib.hid hG7
    clear hB6 hR7 hG7
    generalize nw f n t (k.time + q) x = z at hx2 ⊢
    have q5 : (⟨#[116, 97, 107, 101, 32]⟩ : ByteArray).size = 5 := rfl
    obtain ⟨y, ey, qy, ry⟩ := adds ⟨#[116, 97, 107, 101, 32]⟩ z (by omega)
    have hy : y.size ≤ 100 := by omega
    clear ey qy
    go_wp2
    go_ret
    exact ⟨y, p1 + 1 + 1, rfl, hy, by omega, by omega, HR7.out, HG7.out⟩
  · obtain ⟨A1, cp, ea, hsl⟩ := HS.out.held
    have hoff := HOf.out.1
    subst ea
    have hS2 : SeesN w2 (.slice A1 k.held.length cp) k.held := seesR_grown HS.out.held HG2.out hoff
    have HS2 := Lib.hid hS2
    have HFt := Lib.hid hoff
    have HL := Lib.hid HNk.out.hl
    clear hsl hoff hS2
    by_cases hz : k.held.length = 0
    · have hz0 : ((k.held.length : Nat) : Int) = 0 := by omega
      obtain ⟨k0, k1, k2, k3, k4, k5⟩ := cells6 HK2.out
      go_upto_region 19 with (fail)
      have h0 := (Below.refl w2.heap.size w2).drew
      refine wp_region_held_drew (S := (fun w' : World => Blk w' kb 29 #[.int .i64 k.id, .int .i64 k.time, .int .i64 k.next, .slice A1 k.held.length cp, b1, c1])) (by kernel_rfl) (HK2.out.below h0 HK2.out.lt) (fun hHeld => ?_)
      clear hHeld
      have HRd := Lib.hid (rd_later HR2.out (h0.mono (by have := HR2.out.1.lt; omega)))
      have HGd := Lib.hid (grown_trans HG2.out (dr.below_grown h0 _))
      have HKd := Lib.hid (HK2.out.below h0 HK2.out.lt)
      have HNd := Lib.hid (HN2.out.below h0 HN2.out.lt)
      clear h0
      generalize w2.drew = Z at HRd HGd HKd HNd ⊢
      have hKd := HKd.out
      refine rs.want_take (i := 0) 82 (v := ?_) rfl rfl (by kernel_rfl) (by kernel_rfl) (by kernel_rfl) (fun _ _ _ _ h => h) rfl ?_ (by assumption) ?_
      rotate_left 1
      · (intro w' hSw; obtain ⟨k0, k1, k2, k3, k4, k5⟩ := cells6 hSw; go_simp; try with_reducible rfl)
      simp only [List.setIfInBounds_toArray, List.set_cons_zero, List.set_cons_succ]
      refine rs.want_take (i := 1) 83 (v := ?_) rfl rfl (by kernel_rfl) (by kernel_rfl) (by kernel_rfl) (fun _ _ _ _ h => h) rfl ?_ (by assumption) ?_
      rotate_left 1
      · (intro w' hSw; obtain ⟨k0, k1, k2, k3, k4, k5⟩ := cells6 hSw; go_simp; try with_reducible rfl)
      simp only [List.setIfInBounds_toArray, List.set_cons_zero, List.set_cons_succ]
      refine rs.want_take (i := 2) 84 (v := ?_) rfl rfl (by kernel_rfl) (by kernel_rfl) (by kernel_rfl) (fun _ _ _ _ h => h) rfl ?_ (by assumption) ?_
      rotate_left 1
      · (intro w' hSw; obtain ⟨k0, k1, k2, k3, k4, k5⟩ := cells6 hSw; go_simp; try with_reducible rfl)
      simp only [List.setIfInBounds_toArray, List.set_cons_zero, List.set_cons_succ]
      refine wpAnyH_ready (rs := [3]) (by kernel_rfl) (by simp) ?_
      refine AllReadyH.cons rfl (fun K hK => ?_) AllReadyH.nil
      go_simp
      refine (picked _ _ _ _ _ _ _ HRd.out (by omega) (by omega) (by omega)).mono ?_
      rintro e u1 ⟨q, rfl, q0, q1, hR4, hO4⟩
      have HR4 := Lib.hid hR4
      have HG4 := Lib.hid (grown_trans HGd.out (only_grown hO4))
      have HK4 := Lib.hid (blk_only HKd.out hO4 HKb.out)
      have HN4 := Lib.hid (blk_only HNd.out hO4 HNb.out)
      clear hR4 hO4 HRd HGd HKd HNd hKd
      refine hK.out _ _ HK4.out (fun hHeld => ?_)
      clear hK K hHeld
      have hKd := HK4.out
      have hwr : IntKind.i64.wrap (k.time + q) = k.time + q := by rw [IntKind.wrap_i64]; omega
      refine rs.want_take (i := 4) 86 (v := ?_) rfl rfl (by kernel_rfl) (by kernel_rfl) (by kernel_rfl) (fun _ _ _ _ h => h) rfl ?_ (by assumption) ?_
      rotate_left 1
      · (intro w' hSw; obtain ⟨k0, k1, k2, k3, k4, k5⟩ := cells6 hSw; go_simp; try with_reducible rfl)
      simp only [List.setIfInBounds_toArray, List.set_cons_zero, List.set_cons_succ]
      refine rs.want_take (i := 5) 87 (v := ?_) rfl rfl (by kernel_rfl) (by kernel_rfl) (by kernel_rfl) (fun _ _ _ _ h => h) rfl ?_ (by assumption) ?_
      rotate_left 1
      · (intro w' hSw; obtain ⟨k0, k1, k2, k3, k4, k5⟩ := cells6 hSw; go_simp; try with_reducible rfl)
      simp only [List.setIfInBounds_toArray, List.set_cons_zero, List.set_cons_succ]
      obtain ⟨n0, n1, n2, n3, n4, n5, n6, n7⟩ := cells5 HN4.out
      refine wpAnyH_ready (rs := [6]) (by kernel_rfl) (by simp) ?_
      refine AllReadyH.cons rfl (fun K hK => ?_) AllReadyH.nil
      go_simp
      have HR5 := Lib.hid (rd_set HR4.out (a := ⟨nb, 3, none⟩) HBn.out (.int .i64 (k.time + q)))
      have HG5 := Lib.hid (grown_set HG4.out (a := ⟨nb, 3, none⟩) HWn.out (.int .i64 (k.time + q)))
      have HK5 := Lib.hid (HK4.out.far (p := ⟨nb, 3, none⟩) HKN.out (.int .i64 (k.time + q)))
      have HN5 : Hid (Blk (u1.setCell ⟨nb, 3, none⟩ (.int .i64 (k.time + q))) nb 131 #[.int .i64 f, .int .i64 n, .int .i64 t, .int .i64 (k.time + q), .string x]) := by refine Lib.hid ?_; simpa using HN4.out.put 3 (.int .i64 (k.time + q))
      refine hK.out _ _ HK5.out (fun hHeld => ?_)
      clear hK K hHeld n0 n1 n2 n3 n4 n5 n6 n7 hKd HR4 HG4 HK4 HN4
      refine wpAnyH_done (by kernel_rfl) ?_ _
      generalize u1.setCell ⟨nb, 3, none⟩ (.int .i64 (k.time + q)) = W5 at HR5 HG5 HK5 HN5 ⊢
      obtain ⟨n0, n1, n2, n3, n4, n5, n6, n7⟩ := cells5 HN5.out
      go_wp2_with fail
      refine (swrite_any f n t (k.time + q) x _ (by unfold maxLen; omega)).mono ?_
      rintro e w6 ⟨rfl, hB6⟩
      have hx2 := nw_size f n t (k.time + q) x
      have hR7 := rd_later HR5.out (hB6.mono (by have := HR5.out.1.lt; omega))
      have hG7 := grown_trans HG5.out (dr.below_grown hB6 _)
      have HR7 := Lib.hid hR7
      have HG7 := Lib.hid hG7
      clear hB6 hR7 hG7
      generalize nw f n t (k.time + q) x = z at hx2 ⊢
      have q5 : (⟨#[116, 97, 107, 101, 32]⟩ : ByteArray).size = 5 := rfl
      obtain ⟨y, ey, qy, ry⟩ := adds ⟨#[116, 97, 107, 101, 32]⟩ z (by omega)
      have hy : y.size ≤ 100 := by omega
      clear ey qy
      go_wp2
      go_ret
      exact ⟨y, p1 + 1 + 1, rfl, hy, by omega, by omega, HR7.out, HG7.out⟩
    · have hzp : (0 : Int) < ((k.held.length : Nat) : Int) := by omega
      have hlen := HL.out
      obtain ⟨x0, hx0⟩ : ∃ y, k.held[0]? = some y := ⟨_, List.getElem?_eq_getElem (by omega)⟩
      obtain ⟨g, c, ec, _⟩ := note_at HS2.out hx0
      injection ec with ec _ _
      subst ec
      clear hx0
      obtain ⟨k0, k1, k2, k3, k4, k5⟩ := cells6 HK2.out
      go_upto_region 11 with (fail)
      clear k0 k1 k2 k3 k4 k5
      have h0 := (Below.refl w2.heap.size w2).drew
      refine wp_region_held_drew (S := (fun w' : World => Blk w' kb 29 #[.int .i64 k.id, .int .i64 k.time, .int .i64 k.next, .slice (some ⟨g, 0, none⟩) k.held.length cp, b1, c1] ∧ SeesN w' (.slice (some ⟨g, 0, none⟩) k.held.length cp) k.held)) (by kernel_rfl) ⟨HK2.out.below h0 HK2.out.lt, HS2.out.later h0⟩ (fun hHeld => ?_)
      clear hHeld
      have HRd := Lib.hid (rd_later HR2.out (h0.mono (by have := HR2.out.1.lt; omega)))
      have HGd := Lib.hid (grown_trans HG2.out (dr.below_grown h0 _))
      have HKd := Lib.hid (HK2.out.below h0 HK2.out.lt)
      have HSd := Lib.hid (HS2.out.later h0)
      clear h0
      generalize w2.drew = Z at HRd HGd HKd HSd ⊢
      have hKd : Blk Z kb 29 #[.int .i64 k.id, .int .i64 k.time, .int .i64 k.next, .slice (some ⟨g, 0, none⟩) k.held.length cp, b1, c1] ∧ SeesN Z (.slice (some ⟨g, 0, none⟩) k.held.length cp) k.held := ⟨HKd.out, HSd.out⟩
      refine rs.want_take (i := 0) 38 (v := ?_) rfl rfl (by kernel_rfl) (by kernel_rfl) (by kernel_rfl) (fun _ _ _ _ h => h) rfl ?_ (by assumption) ?_
      rotate_left 1
      · (intro w' hSw; obtain ⟨k0, k1, k2, k3, k4, k5⟩ := cells6 hSw.1; go_simp; try with_reducible rfl)
      simp only [List.setIfInBounds_toArray, List.set_cons_zero, List.set_cons_succ]
      refine rs.want_take (i := 1) 39 (v := ?_) rfl rfl (by kernel_rfl) (by kernel_rfl) (by kernel_rfl) (fun _ _ _ _ h => h) rfl ?_ (by assumption) ?_
      rotate_left 1
      · (intro w' hSw; obtain ⟨k0, k1, k2, k3, k4, k5⟩ := cells6 hSw.1; go_simp; try with_reducible rfl)
      simp only [List.setIfInBounds_toArray, List.set_cons_zero, List.set_cons_succ]
      refine rs.want_take (i := 2) 40 (v := ?_) rfl rfl (by kernel_rfl) (by kernel_rfl) (by kernel_rfl) (fun _ _ _ _ h => h) rfl ?_ (by assumption) ?_
      rotate_left 1
      · (intro w' hSw; obtain ⟨k0, k1, k2, k3, k4, k5⟩ := cells6 hSw.1; go_simp; try with_reducible rfl)
      simp only [List.setIfInBounds_toArray, List.set_cons_zero, List.set_cons_succ]
      refine rs.want_take (i := 3) 41 (v := ?_) rfl rfl (by kernel_rfl) (by kernel_rfl) (by kernel_rfl) (fun _ _ _ _ h => h) rfl ?_ (by assumption) ?_
      rotate_left 1
      · (intro w' hSw; obtain ⟨k0, k1, k2, k3, k4, k5⟩ := cells6 hSw.1; go_simp; try with_reducible rfl)
      simp only [List.setIfInBounds_toArray, List.set_cons_zero, List.set_cons_succ]
      refine rs.want_take (i := 4) 42 (v := ?_) rfl rfl (by kernel_rfl) (by kernel_rfl) (by kernel_rfl) (fun _ _ _ _ h => h) rfl ?_ (by assumption) ?_
      rotate_left 1
      · (intro w' hSw; obtain ⟨k0, k1, k2, k3, k4, k5⟩ := cells6 hSw.1; go_simp; try with_reducible rfl)
      simp only [List.setIfInBounds_toArray, List.set_cons_zero, List.set_cons_succ]
      refine rs.want_take (i := 5) 43 (v := ?_) rfl rfl (by kernel_rfl) (by kernel_rfl) (by kernel_rfl) (fun _ _ _ _ h => h) rfl ?_ (by assumption) ?_
      rotate_left 1
      · (intro w' hSw; obtain ⟨k0, k1, k2, k3, k4, k5⟩ := cells6 hSw.1; go_simp; try with_reducible rfl)
      simp only [List.setIfInBounds_toArray, List.set_cons_zero, List.set_cons_succ]
      refine wpAnyH_ready (rs := [6, 9]) (by kernel_rfl) (by simp) ?_
      refine AllReadyH.cons rfl (fun K hK => ?_) (AllReadyH.cons rfl (fun K hK => ?_) AllReadyH.nil)
      · go_simp
        refine (picked _ _ _ _ _ _ _ HRd.out (by omega) (by omega) (by omega)).mono ?_
        rintro e u1 ⟨q, rfl, q0, q1, hR4, hO4⟩
        obtain ⟨i, rfl⟩ := Int.eq_ofNat_of_zero_le q0
        have hi : i < k.held.length := by omega
        obtain ⟨xe, he⟩ : ∃ xe, k.held[i]? = some xe := ⟨_, List.getElem?_eq_getElem hi⟩
        have hS4 := seesR_grown HSd.out (only_grown hO4) HFt.out
        have HS4 := Lib.hid hS4
        have HR4 := Lib.hid hR4
        have HG4 := Lib.hid (grown_trans HGd.out (only_grown hO4))
        have HK4 := Lib.hid (blk_only HKd.out hO4 HKb.out)
        clear hR4 hO4 hS4 HRd HGd HKd HSd hKd
        refine hK.out _ _ ⟨HK4.out, HS4.out⟩ (fun hHeld => ?_)
        clear hK K hHeld
        have hKd : Blk u1 kb 29 #[.int .i64 k.id, .int .i64 k.time, .int .i64 k.next, .slice (some ⟨g, 0, none⟩) k.held.length cp, b1, c1] ∧ SeesN u1 (.slice (some ⟨g, 0, none⟩) k.held.length cp) k.held := ⟨HK4.out, HS4.out⟩
        refine rs.want_take (i := 7) 45 (v := ?_) rfl rfl (by kernel_rfl) (by kernel_rfl) (by kernel_rfl) (fun _ _ _ _ h => h) rfl ?_ (by assumption) ?_
        rotate_left 1
        · (intro w' hSw; obtain ⟨k0, k1, k2, k3, k4, k5⟩ := cells6 hSw.1; obtain ⟨c0, c1, c2, c3, c4⟩ := sees_note hSw.2 he; go_simp; try with_reducible rfl)
        simp only [List.setIfInBounds_toArray, List.set_cons_zero, List.set_cons_succ]
        refine rs.want_take (i := 8) 46 (v := ?_) rfl rfl (by kernel_rfl) (by kernel_rfl) (by kernel_rfl) (fun _ _ _ _ h => h) rfl ?_ (by assumption) ?_
        rotate_left 1
        · (intro w' hSw; obtain ⟨k0, k1, k2, k3, k4, k5⟩ := cells6 hSw.1; obtain ⟨c0, c1, c2, c3, c4⟩ := sees_note hSw.2 he; go_simp; try with_reducible rfl)
        simp only [List.setIfInBounds_toArray, List.set_cons_zero, List.set_cons_succ]
        refine wpAnyH_ready (rs := [9]) (by kernel_rfl) (by simp) ?_
        refine AllReadyH.cons rfl (fun K hK => ?_) AllReadyH.nil
        go_simp
        have hB := (Below.refl u1.heap.size u1).alloc (Nat.le_refl _) (.cells #[.int .i64 0, .int .i64 0, .int .i64 0, .int .i64 0, .string ⟨#[]⟩] 131)
        have HS5 := Lib.hid (HS4.out.later hB)
        have HK5 := Lib.hid (HK4.out.below hB HK4.out.lt)
        refine hK.out _ _ ⟨HK5.out, HS5.out⟩ (fun hHeld => ?_)
        clear hK K hHeld
        have hKd2 := And.intro HK5.out HS5.out
        refine wpAnyH_ready (rs := [10]) (by kernel_rfl) (by simp) ?_
        refine AllReadyH.cons rfl (fun K hK => ?_) AllReadyH.nil
        go_simp
        have hB5 := (Below.refl u1.heap.size u1).alloc (Nat.le_refl _) (.cells #[.int .i64 xe.f, .int .i64 xe.n, .int .i64 xe.t, .int .i64 xe.u, .string xe.s] 131)
        refine hK.out _ _ ⟨HK4.out.below hB5 HK4.out.lt, HS4.out.later hB5⟩ (fun hHeld => ?_)
        clear hK K hHeld HK5 HS5 hKd hKd2 hB
        refine wpAnyH_done (by kernel_rfl) ?_ _
        have HR5 := Lib.hid (rd_later HR4.out (hB5.mono (by have := HR4.out.1.lt; omega)))
        have HG5 := Lib.hid (grown_trans HG4.out (dr.below_grown hB5 _))
        have HX5 := Lib.hid (Blk.new u1 131 #[.int .i64 xe.f, .int .i64 xe.n, .int .i64 xe.t, .int .i64 xe.u, .string xe.s])
        clear hB5 HK4 HS4 HR4 HG4
        generalize u1.alloc (.cells #[.int .i64 xe.f, .int .i64 xe.n, .int .i64 xe.t, .int .i64 xe.u, .string xe.s] 131) = W5 at HR5 HG5 HX5 ⊢
        generalize u1.heap.size = ob at HX5 ⊢
        obtain ⟨n0, n1, n2, n3, n4, _, _, _⟩ := cells5 HX5.out
        obtain ⟨⟨x1, x2⟩, ⟨x3, x4⟩, ⟨x5, x6⟩, ⟨x7, x8⟩, _⟩ := okN_parts (HNk.out.held xe (List.mem_of_getElem? he))
        go_wp2_with fail
        refine (three_any xe.f xe.n xe.u (by omega) (by omega) (by omega) (by omega) (by omega) (by omega) _).mono ?_
        rintro e w6 ⟨z, rfl, hz6, hB6⟩
        have HR7 := Lib.hid (rd_later HR5.out (hB6.mono (by have := HR5.out.1.lt; omega)))
        have HG7 := Lib.hid (grown_trans HG5.out (dr.below_grown hB6 _))
        clear hB6 n0 n1 n2 n3 n4
        have q5 : (⟨#[108, 101, 116, 32]⟩ : ByteArray).size = 4 := rfl
        obtain ⟨y, ey, qy, ry⟩ := adds ⟨#[108, 101, 116, 32]⟩ z (by omega)
        have hy : y.size ≤ 100 := by omega
        clear ey qy
        go_wp2
        go_ret
        exact ⟨y, p1 + 1 + 1, rfl, hy, by omega, by omega, HR7.out, HG7.out⟩
      · go_simp
        have hB := (Below.refl Z.heap.size Z).alloc (Nat.le_refl _) (.cells #[.int .i64 0, .int .i64 0, .int .i64 0, .int .i64 0, .string ⟨#[]⟩] 131)
        have hzb : b < Z.heap.size := HRd.out.1.lt
        have hzw : w.heap.size ≤ Z.heap.size := HGd.out.size
        have hzk : kb < Z.heap.size := HKd.out.lt
        have hzg : g < Z.heap.size := by
          obtain ⟨x0, hx0⟩ : ∃ y, k.held[0]? = some y := ⟨_, List.getElem?_eq_getElem (by omega)⟩
          obtain ⟨g', c', e', hlt, _⟩ := note_at HSd.out hx0
          injection e' with e1 _ _
          injection e1 with e1
          injection e1 with e1 _ _
          subst e1
          exact hlt
        have HRd := Lib.hid (rd_later HRd.out (hB.mono (by omega)))
        have HGd := Lib.hid (grown_trans HGd.out (dr.below_grown hB _))
        have HKd := Lib.hid (HKd.out.below hB HKd.out.lt)
        have HSd := Lib.hid (HSd.out.later hB)
        have HXd := Lib.hid (Blk.new Z 131 #[.int .i64 0, .int .i64 0, .int .i64 0, .int .i64 0, .string ⟨#[]⟩])
        have hKd := And.intro HKd.out HSd.out
        refine hK.out _ _ hKd (fun hHeld => ?_)
        clear hK K hHeld hB
        generalize Z.alloc (.cells #[.int .i64 0, .int .i64 0, .int .i64 0, .int .i64 0, .string ⟨#[]⟩] 131) = Z2 at HRd HGd HKd HSd HXd hKd ⊢
        generalize Z.heap.size = ob at HXd hzb hzw hzk hzg ⊢
        refine wpAnyH_ready (rs := [6]) (by kernel_rfl) (by simp) ?_
        refine AllReadyH.cons rfl (fun K hK => ?_) AllReadyH.nil
        go_simp
        refine (picked _ _ _ _ _ _ _ HRd.out (by omega) (by omega) (by omega)).mono ?_
        rintro e u1 ⟨q, rfl, q0, q1, hR4, hO4⟩
        obtain ⟨i, rfl⟩ := Int.eq_ofNat_of_zero_le q0
        have hi : i < k.held.length := by omega
        obtain ⟨xe, he⟩ : ∃ xe, k.held[i]? = some xe := ⟨_, List.getElem?_eq_getElem hi⟩
        have hS4 := seesR_grown HSd.out (only_grown hO4) HFt.out
        have HS4 := Lib.hid hS4
        have HR4 := Lib.hid hR4
        have HG4 := Lib.hid (grown_trans HGd.out (only_grown hO4))
        have HK4 := Lib.hid (blk_only HKd.out hO4 HKb.out)
        have HX4 := Lib.hid (blk_only HXd.out hO4 (by omega))
        clear hR4 hO4 hS4 HRd HGd HKd HSd hKd
        refine hK.out _ _ ⟨HK4.out, HS4.out⟩ (fun hHeld => ?_)
        clear hK K hHeld
        have hKd : Blk u1 kb 29 #[.int .i64 k.id, .int .i64 k.time, .int .i64 k.next, .slice (some ⟨g, 0, none⟩) k.held.length cp, b1, c1] ∧ SeesN u1 (.slice (some ⟨g, 0, none⟩) k.held.length cp) k.held := ⟨HK4.out, HS4.out⟩
        refine rs.want_take (i := 7) 45 (v := ?_) rfl rfl (by kernel_rfl) (by kernel_rfl) (by kernel_rfl) (fun _ _ _ _ h => h) rfl ?_ (by assumption) ?_
        rotate_left 1
        · (intro w' hSw; obtain ⟨k0, k1, k2, k3, k4, k5⟩ := cells6 hSw.1; obtain ⟨c0, c1, c2, c3, c4⟩ := sees_note hSw.2 he; go_simp; try with_reducible rfl)
        simp only [List.setIfInBounds_toArray, List.set_cons_zero, List.set_cons_succ]
        refine rs.want_take (i := 8) 46 (v := ?_) rfl rfl (by kernel_rfl) (by kernel_rfl) (by kernel_rfl) (fun _ _ _ _ h => h) rfl ?_ (by assumption) ?_
        rotate_left 1
        · (intro w' hSw; obtain ⟨k0, k1, k2, k3, k4, k5⟩ := cells6 hSw.1; obtain ⟨c0, c1, c2, c3, c4⟩ := sees_note hSw.2 he; go_simp; try with_reducible rfl)
        simp only [List.setIfInBounds_toArray, List.set_cons_zero, List.set_cons_succ]
        obtain ⟨n0, n1, n2, n3, n4, _, _, _⟩ := cells5 HX4.out
        obtain ⟨m0, m1, m2, m3, m4⟩ := frozen5 HX4.out
        refine wpAnyH_ready (rs := [10]) (by kernel_rfl) (by simp) ?_
        refine AllReadyH.cons rfl (fun K hK => ?_) AllReadyH.nil
        go_simp
        have hG5 := put5g u1 ob (.int .i64 xe.f) (.int .i64 xe.n) (.int .i64 xe.t) (.int .i64 xe.u) (.string xe.s)
        have HX5 := Lib.hid (put5b HX4.out (.int .i64 xe.f) (.int .i64 xe.n) (.int .i64 xe.t) (.int .i64 xe.u) (.string xe.s))
        refine hK.out _ _ ⟨blk_grown HK4.out hG5 (by omega), seesR_grown HS4.out hG5 (by intro e; have e2 : g = ob := (by injection e with e); omega)⟩ (fun hHeld => ?_)
        clear hK K hHeld n0 n1 n2 n3 n4 m0 m1 m2 m3 m4 hKd
        refine wpAnyH_done (by kernel_rfl) ?_ _
        have hzl := HX4.out.lt
        have HR5 := Lib.hid (rd_later HR4.out (grown_below hG5 (by omega) (by omega)))
        have HG5 := Lib.hid (grown_later HG4.out (grown_below hG5 hzw (by omega)))
        clear hG5 HK4 HS4 HR4 HG4 HX4
        generalize ((((u1.setCell ⟨ob, 0, none⟩ (.int .i64 xe.f)).setCell ⟨ob, 1, none⟩ (.int .i64 xe.n)).setCell ⟨ob, 2, none⟩ (.int .i64 xe.t)).setCell ⟨ob, 3, none⟩ (.int .i64 xe.u)).setCell ⟨ob, 4, none⟩ (.string xe.s) = W5 at HR5 HG5 HX5 ⊢
        obtain ⟨n0, n1, n2, n3, n4, _, _, _⟩ := cells5 HX5.out
        obtain ⟨⟨x1, x2⟩, ⟨x3, x4⟩, ⟨x5, x6⟩, ⟨x7, x8⟩, _⟩ := okN_parts (HNk.out.held xe (List.mem_of_getElem? he))
        go_wp2_with fail
        refine (three_any xe.f xe.n xe.u (by omega) (by omega) (by omega) (by omega) (by omega) (by omega) _).mono ?_
        rintro e w6 ⟨z, rfl, hz6, hB6⟩
        have HR7 := Lib.hid (rd_later HR5.out (hB6.mono (by have := HR5.out.1.lt; omega)))
        have HG7 := Lib.hid (grown_trans HG5.out (dr.below_grown hB6 _))
        clear hB6 n0 n1 n2 n3 n4
        have q5 : (⟨#[108, 101, 116, 32]⟩ : ByteArray).size = 4 := rfl
        obtain ⟨y, ey, qy, ry⟩ := adds ⟨#[108, 101, 116, 32]⟩ z (by omega)
        have hy : y.size ≤ 100 := by omega
        clear ey qy
        go_wp2
        go_ret
        exact ⟨y, p1 + 1 + 1, rfl, hy, by omega, by omega, HR7.out, HG7.out⟩
  · obtain ⟨A1, cp, ea, hsl⟩ := HS.out.inbox
    have hoff := HOf.out.2.2
    subst ea
    have hS2 : SeesN w2 (.slice A1 k.inbox.length cp) k.inbox := seesR_grown HS.out.inbox HG2.out hoff
    have HS2 := Lib.hid hS2
    have HFt := Lib.hid hoff
    have HL := Lib.hid HNk.out.il
    clear hsl hoff hS2
    by_cases hz : k.inbox.length = 0
    · have hz0 : ((k.inbox.length : Nat) : Int) = 0 := by omega
      obtain ⟨k0, k1, k2, k3, k4, k5⟩ := cells6 HK2.out
      go_upto_region 19 with (fail)
      have h0 := (Below.refl w2.heap.size w2).drew
      refine wp_region_held_drew (S := (fun w' : World => Blk w' kb 29 #[.int .i64 k.id, .int .i64 k.time, .int .i64 k.next, a1, b1, .slice A1 k.inbox.length cp])) (by kernel_rfl) (HK2.out.below h0 HK2.out.lt) (fun hHeld => ?_)
      clear hHeld
      have HRd := Lib.hid (rd_later HR2.out (h0.mono (by have := HR2.out.1.lt; omega)))
      have HGd := Lib.hid (grown_trans HG2.out (dr.below_grown h0 _))
      have HKd := Lib.hid (HK2.out.below h0 HK2.out.lt)
      have HNd := Lib.hid (HN2.out.below h0 HN2.out.lt)
      clear h0
      generalize w2.drew = Z at HRd HGd HKd HNd ⊢
      have hKd := HKd.out
      refine rs.want_take (i := 0) 82 (v := ?_) rfl rfl (by kernel_rfl) (by kernel_rfl) (by kernel_rfl) (fun _ _ _ _ h => h) rfl ?_ (by assumption) ?_
      rotate_left 1
      · (intro w' hSw; obtain ⟨k0, k1, k2, k3, k4, k5⟩ := cells6 hSw; go_simp; try with_reducible rfl)
      simp only [List.setIfInBounds_toArray, List.set_cons_zero, List.set_cons_succ]
      refine rs.want_take (i := 1) 83 (v := ?_) rfl rfl (by kernel_rfl) (by kernel_rfl) (by kernel_rfl) (fun _ _ _ _ h => h) rfl ?_ (by assumption) ?_
      rotate_left 1
      · (intro w' hSw; obtain ⟨k0, k1, k2, k3, k4, k5⟩ := cells6 hSw; go_simp; try with_reducible rfl)
      simp only [List.setIfInBounds_toArray, List.set_cons_zero, List.set_cons_succ]
      refine rs.want_take (i := 2) 84 (v := ?_) rfl rfl (by kernel_rfl) (by kernel_rfl) (by kernel_rfl) (fun _ _ _ _ h => h) rfl ?_ (by assumption) ?_
      rotate_left 1
      · (intro w' hSw; obtain ⟨k0, k1, k2, k3, k4, k5⟩ := cells6 hSw; go_simp; try with_reducible rfl)
      simp only [List.setIfInBounds_toArray, List.set_cons_zero, List.set_cons_succ]
      refine wpAnyH_ready (rs := [3]) (by kernel_rfl) (by simp) ?_
      refine AllReadyH.cons rfl (fun K hK => ?_) AllReadyH.nil
      go_simp
      refine (picked _ _ _ _ _ _ _ HRd.out (by omega) (by omega) (by omega)).mono ?_
      rintro e u1 ⟨q, rfl, q0, q1, hR4, hO4⟩
      have HR4 := Lib.hid hR4
      have HG4 := Lib.hid (grown_trans HGd.out (only_grown hO4))
      have HK4 := Lib.hid (blk_only HKd.out hO4 HKb.out)
      have HN4 := Lib.hid (blk_only HNd.out hO4 HNb.out)
      clear hR4 hO4 HRd HGd HKd HNd hKd
      refine hK.out _ _ HK4.out (fun hHeld => ?_)
      clear hK K hHeld
      have hKd := HK4.out
      have hwr : IntKind.i64.wrap (k.time + q) = k.time + q := by rw [IntKind.wrap_i64]; omega
      refine rs.want_take (i := 4) 86 (v := ?_) rfl rfl (by kernel_rfl) (by kernel_rfl) (by kernel_rfl) (fun _ _ _ _ h => h) rfl ?_ (by assumption) ?_
      rotate_left 1
      · (intro w' hSw; obtain ⟨k0, k1, k2, k3, k4, k5⟩ := cells6 hSw; go_simp; try with_reducible rfl)
      simp only [List.setIfInBounds_toArray, List.set_cons_zero, List.set_cons_succ]
      refine rs.want_take (i := 5) 87 (v := ?_) rfl rfl (by kernel_rfl) (by kernel_rfl) (by kernel_rfl) (fun _ _ _ _ h => h) rfl ?_ (by assumption) ?_
      rotate_left 1
      · (intro w' hSw; obtain ⟨k0, k1, k2, k3, k4, k5⟩ := cells6 hSw; go_simp; try with_reducible rfl)
      simp only [List.setIfInBounds_toArray, List.set_cons_zero, List.set_cons_succ]
      obtain ⟨n0, n1, n2, n3, n4, n5, n6, n7⟩ := cells5 HN4.out
      refine wpAnyH_ready (rs := [6]) (by kernel_rfl) (by simp) ?_
      refine AllReadyH.cons rfl (fun K hK => ?_) AllReadyH.nil
      go_simp
      have HR5 := Lib.hid (rd_set HR4.out (a := ⟨nb, 3, none⟩) HBn.out (.int .i64 (k.time + q)))
      have HG5 := Lib.hid (grown_set HG4.out (a := ⟨nb, 3, none⟩) HWn.out (.int .i64 (k.time + q)))
      have HK5 := Lib.hid (HK4.out.far (p := ⟨nb, 3, none⟩) HKN.out (.int .i64 (k.time + q)))
      have HN5 : Hid (Blk (u1.setCell ⟨nb, 3, none⟩ (.int .i64 (k.time + q))) nb 131 #[.int .i64 f, .int .i64 n, .int .i64 t, .int .i64 (k.time + q), .string x]) := by refine Lib.hid ?_; simpa using HN4.out.put 3 (.int .i64 (k.time + q))
      refine hK.out _ _ HK5.out (fun hHeld => ?_)
      clear hK K hHeld n0 n1 n2 n3 n4 n5 n6 n7 hKd HR4 HG4 HK4 HN4
      refine wpAnyH_done (by kernel_rfl) ?_ _
      generalize u1.setCell ⟨nb, 3, none⟩ (.int .i64 (k.time + q)) = W5 at HR5 HG5 HK5 HN5 ⊢
      obtain ⟨n0, n1, n2, n3, n4, n5, n6, n7⟩ := cells5 HN5.out
      go_wp2_with fail
      refine (swrite_any f n t (k.time + q) x _ (by unfold maxLen; omega)).mono ?_
      rintro e w6 ⟨rfl, hB6⟩
      have hx2 := nw_size f n t (k.time + q) x
      have hR7 := rd_later HR5.out (hB6.mono (by have := HR5.out.1.lt; omega))
      have hG7 := grown_trans HG5.out (dr.below_grown hB6 _)
      have HR7 := Lib.hid hR7
      have HG7 := Lib.hid hG7
      clear hB6 hR7 hG7
      generalize nw f n t (k.time + q) x = z at hx2 ⊢
      have q5 : (⟨#[116, 97, 107, 101, 32]⟩ : ByteArray).size = 5 := rfl
      obtain ⟨y, ey, qy, ry⟩ := adds ⟨#[116, 97, 107, 101, 32]⟩ z (by omega)
      have hy : y.size ≤ 100 := by omega
      clear ey qy
      go_wp2
      go_ret
      exact ⟨y, p1 + 1 + 1, rfl, hy, by omega, by omega, HR7.out, HG7.out⟩
    · have hzp : (0 : Int) < ((k.inbox.length : Nat) : Int) := by omega
      have hlen := HL.out
      obtain ⟨x0, hx0⟩ : ∃ y, k.inbox[0]? = some y := ⟨_, List.getElem?_eq_getElem (by omega)⟩
      obtain ⟨g, c, ec, _⟩ := note_at HS2.out hx0
      injection ec with ec _ _
      subst ec
      clear hx0
      obtain ⟨k0, k1, k2, k3, k4, k5⟩ := cells6 HK2.out
      go_upto_region 15 with (fail)
      clear k0 k1 k2 k3 k4 k5
      have h0 := (Below.refl w2.heap.size w2).drew
      refine wp_region_held_drew (S := (fun w' : World => Blk w' kb 29 #[.int .i64 k.id, .int .i64 k.time, .int .i64 k.next, a1, b1, .slice (some ⟨g, 0, none⟩) k.inbox.length cp] ∧ SeesN w' (.slice (some ⟨g, 0, none⟩) k.inbox.length cp) k.inbox)) (by kernel_rfl) ⟨HK2.out.below h0 HK2.out.lt, HS2.out.later h0⟩ (fun hHeld => ?_)
      clear hHeld
      have HRd := Lib.hid (rd_later HR2.out (h0.mono (by have := HR2.out.1.lt; omega)))
      have HGd := Lib.hid (grown_trans HG2.out (dr.below_grown h0 _))
      have HKd := Lib.hid (HK2.out.below h0 HK2.out.lt)
      have HSd := Lib.hid (HS2.out.later h0)
      clear h0
      generalize w2.drew = Z at HRd HGd HKd HSd ⊢
      have hKd : Blk Z kb 29 #[.int .i64 k.id, .int .i64 k.time, .int .i64 k.next, a1, b1, .slice (some ⟨g, 0, none⟩) k.inbox.length cp] ∧ SeesN Z (.slice (some ⟨g, 0, none⟩) k.inbox.length cp) k.inbox := ⟨HKd.out, HSd.out⟩
      refine rs.want_take (i := 0) 61 (v := ?_) rfl rfl (by kernel_rfl) (by kernel_rfl) (by kernel_rfl) (fun _ _ _ _ h => h) rfl ?_ (by assumption) ?_
      rotate_left 1
      · (intro w' hSw; obtain ⟨k0, k1, k2, k3, k4, k5⟩ := cells6 hSw.1; go_simp; try with_reducible rfl)
      simp only [List.setIfInBounds_toArray, List.set_cons_zero, List.set_cons_succ]
      refine rs.want_take (i := 1) 62 (v := ?_) rfl rfl (by kernel_rfl) (by kernel_rfl) (by kernel_rfl) (fun _ _ _ _ h => h) rfl ?_ (by assumption) ?_
      rotate_left 1
      · (intro w' hSw; obtain ⟨k0, k1, k2, k3, k4, k5⟩ := cells6 hSw.1; go_simp; try with_reducible rfl)
      simp only [List.setIfInBounds_toArray, List.set_cons_zero, List.set_cons_succ]
      refine rs.want_take (i := 2) 63 (v := ?_) rfl rfl (by kernel_rfl) (by kernel_rfl) (by kernel_rfl) (fun _ _ _ _ h => h) rfl ?_ (by assumption) ?_
      rotate_left 1
      · (intro w' hSw; obtain ⟨k0, k1, k2, k3, k4, k5⟩ := cells6 hSw.1; go_simp; try with_reducible rfl)
      simp only [List.setIfInBounds_toArray, List.set_cons_zero, List.set_cons_succ]
      refine rs.want_take (i := 3) 64 (v := ?_) rfl rfl (by kernel_rfl) (by kernel_rfl) (by kernel_rfl) (fun _ _ _ _ h => h) rfl ?_ (by assumption) ?_
      rotate_left 1
      · (intro w' hSw; obtain ⟨k0, k1, k2, k3, k4, k5⟩ := cells6 hSw.1; go_simp; try with_reducible rfl)
      simp only [List.setIfInBounds_toArray, List.set_cons_zero, List.set_cons_succ]
      refine rs.want_take (i := 4) 65 (v := ?_) rfl rfl (by kernel_rfl) (by kernel_rfl) (by kernel_rfl) (fun _ _ _ _ h => h) rfl ?_ (by assumption) ?_
      rotate_left 1
      · (intro w' hSw; obtain ⟨k0, k1, k2, k3, k4, k5⟩ := cells6 hSw.1; go_simp; try with_reducible rfl)
      simp only [List.setIfInBounds_toArray, List.set_cons_zero, List.set_cons_succ]
      refine rs.want_take (i := 5) 66 (v := ?_) rfl rfl (by kernel_rfl) (by kernel_rfl) (by kernel_rfl) (fun _ _ _ _ h => h) rfl ?_ (by assumption) ?_
      rotate_left 1
      · (intro w' hSw; obtain ⟨k0, k1, k2, k3, k4, k5⟩ := cells6 hSw.1; go_simp; try with_reducible rfl)
      simp only [List.setIfInBounds_toArray, List.set_cons_zero, List.set_cons_succ]
      refine wpAnyH_ready (rs := [6, 9]) (by kernel_rfl) (by simp) ?_
      refine AllReadyH.cons rfl (fun K hK => ?_) (AllReadyH.cons rfl (fun K hK => ?_) AllReadyH.nil)
      · go_simp
        refine (picked _ _ _ _ _ _ _ HRd.out (by omega) (by omega) (by omega)).mono ?_
        rintro e u1 ⟨q, rfl, q0, q1, hR4, hO4⟩
        obtain ⟨i, rfl⟩ := Int.eq_ofNat_of_zero_le q0
        have hi : i < k.inbox.length := by omega
        obtain ⟨xe, he⟩ : ∃ xe, k.inbox[i]? = some xe := ⟨_, List.getElem?_eq_getElem hi⟩
        have hS4 := seesR_grown HSd.out (only_grown hO4) HFt.out
        have HS4 := Lib.hid hS4
        have HR4 := Lib.hid hR4
        have HG4 := Lib.hid (grown_trans HGd.out (only_grown hO4))
        have HK4 := Lib.hid (blk_only HKd.out hO4 HKb.out)
        clear hR4 hO4 hS4 HRd HGd HKd HSd hKd
        refine hK.out _ _ ⟨HK4.out, HS4.out⟩ (fun hHeld => ?_)
        clear hK K hHeld
        have hKd : Blk u1 kb 29 #[.int .i64 k.id, .int .i64 k.time, .int .i64 k.next, a1, b1, .slice (some ⟨g, 0, none⟩) k.inbox.length cp] ∧ SeesN u1 (.slice (some ⟨g, 0, none⟩) k.inbox.length cp) k.inbox := ⟨HK4.out, HS4.out⟩
        refine rs.want_take (i := 7) 68 (v := ?_) rfl rfl (by kernel_rfl) (by kernel_rfl) (by kernel_rfl) (fun _ _ _ _ h => h) rfl ?_ (by assumption) ?_
        rotate_left 1
        · (intro w' hSw; obtain ⟨k0, k1, k2, k3, k4, k5⟩ := cells6 hSw.1; obtain ⟨c0, c1, c2, c3, c4⟩ := sees_note hSw.2 he; go_simp; try with_reducible rfl)
        simp only [List.setIfInBounds_toArray, List.set_cons_zero, List.set_cons_succ]
        refine rs.want_take (i := 8) 69 (v := ?_) rfl rfl (by kernel_rfl) (by kernel_rfl) (by kernel_rfl) (fun _ _ _ _ h => h) rfl ?_ (by assumption) ?_
        rotate_left 1
        · (intro w' hSw; obtain ⟨k0, k1, k2, k3, k4, k5⟩ := cells6 hSw.1; obtain ⟨c0, c1, c2, c3, c4⟩ := sees_note hSw.2 he; go_simp; try with_reducible rfl)
        simp only [List.setIfInBounds_toArray, List.set_cons_zero, List.set_cons_succ]
        refine wpAnyH_ready (rs := [9]) (by kernel_rfl) (by simp) ?_
        refine AllReadyH.cons rfl (fun K hK => ?_) AllReadyH.nil
        go_simp
        have hB := (Below.refl u1.heap.size u1).alloc (Nat.le_refl _) (.cells #[.int .i64 0, .int .i64 0, .int .i64 0, .int .i64 0, .string ⟨#[]⟩] 131)
        have HS5 := Lib.hid (HS4.out.later hB)
        have HK5 := Lib.hid (HK4.out.below hB HK4.out.lt)
        refine hK.out _ _ ⟨HK5.out, HS5.out⟩ (fun hHeld => ?_)
        clear hK K hHeld
        have hKd2 := And.intro HK5.out HS5.out
        refine wpAnyH_ready (rs := [10]) (by kernel_rfl) (by simp) ?_
        refine AllReadyH.cons rfl (fun K hK => ?_) AllReadyH.nil
        go_simp
        have hB5 := (Below.refl u1.heap.size u1).alloc (Nat.le_refl _) (.cells #[.int .i64 xe.f, .int .i64 xe.n, .int .i64 xe.t, .int .i64 xe.u, .string xe.s] 131)
        refine hK.out _ _ ⟨HK4.out.below hB5 HK4.out.lt, HS4.out.later hB5⟩ (fun hHeld => ?_)
        clear hK K hHeld HK5 HS5 hKd hKd2 hB
        refine wpAnyH_done (by kernel_rfl) ?_ _
        have HR5 := Lib.hid (rd_later HR4.out (hB5.mono (by have := HR4.out.1.lt; omega)))
        have HG5 := Lib.hid (grown_trans HG4.out (dr.below_grown hB5 _))
        have HX5 := Lib.hid (Blk.new u1 131 #[.int .i64 xe.f, .int .i64 xe.n, .int .i64 xe.t, .int .i64 xe.u, .string xe.s])
        clear hB5 HK4 HS4 HR4 HG4
        generalize u1.alloc (.cells #[.int .i64 xe.f, .int .i64 xe.n, .int .i64 xe.t, .int .i64 xe.u, .string xe.s] 131) = W5 at HR5 HG5 HX5 ⊢
        generalize u1.heap.size = ob at HX5 ⊢
        obtain ⟨n0, n1, n2, n3, n4, _, _, _⟩ := cells5 HX5.out
        obtain ⟨⟨x1, x2⟩, ⟨x3, x4⟩, ⟨x5, x6⟩, ⟨x7, x8⟩, _⟩ := okN_parts (HNk.out.inbox xe (List.mem_of_getElem? he))
        go_wp2_with fail
        refine (three_any xe.f xe.n xe.u (by omega) (by omega) (by omega) (by omega) (by omega) (by omega) _).mono ?_
        rintro e w6 ⟨z, rfl, hz6, hB6⟩
        have HR7 := Lib.hid (rd_later HR5.out (hB6.mono (by have := HR5.out.1.lt; omega)))
        have HG7 := Lib.hid (grown_trans HG5.out (dr.below_grown hB6 _))
        clear hB6 n0 n1 n2 n3 n4
        have q5 : (⟨#[101, 97, 116, 32]⟩ : ByteArray).size = 4 := rfl
        obtain ⟨y, ey, qy, ry⟩ := adds ⟨#[101, 97, 116, 32]⟩ z (by omega)
        have hy : y.size ≤ 100 := by omega
        clear ey qy
        go_wp2
        go_ret
        exact ⟨y, p1 + 1 + 1, rfl, hy, by omega, by omega, HR7.out, HG7.out⟩
      · go_simp
        have hB := (Below.refl Z.heap.size Z).alloc (Nat.le_refl _) (.cells #[.int .i64 0, .int .i64 0, .int .i64 0, .int .i64 0, .string ⟨#[]⟩] 131)
        have hzb : b < Z.heap.size := HRd.out.1.lt
        have hzw : w.heap.size ≤ Z.heap.size := HGd.out.size
        have hzk : kb < Z.heap.size := HKd.out.lt
        have hzg : g < Z.heap.size := by
          obtain ⟨x0, hx0⟩ : ∃ y, k.inbox[0]? = some y := ⟨_, List.getElem?_eq_getElem (by omega)⟩
          obtain ⟨g', c', e', hlt, _⟩ := note_at HSd.out hx0
          injection e' with e1 _ _
          injection e1 with e1
          injection e1 with e1 _ _
          subst e1
          exact hlt
        have HRd := Lib.hid (rd_later HRd.out (hB.mono (by omega)))
        have HGd := Lib.hid (grown_trans HGd.out (dr.below_grown hB _))
        have HKd := Lib.hid (HKd.out.below hB HKd.out.lt)
        have HSd := Lib.hid (HSd.out.later hB)
        have HXd := Lib.hid (Blk.new Z 131 #[.int .i64 0, .int .i64 0, .int .i64 0, .int .i64 0, .string ⟨#[]⟩])
        have hKd := And.intro HKd.out HSd.out
        refine hK.out _ _ hKd (fun hHeld => ?_)
        clear hK K hHeld hB
        generalize Z.alloc (.cells #[.int .i64 0, .int .i64 0, .int .i64 0, .int .i64 0, .string ⟨#[]⟩] 131) = Z2 at HRd HGd HKd HSd HXd hKd ⊢
        generalize Z.heap.size = ob at HXd hzb hzw hzk hzg ⊢
        refine wpAnyH_ready (rs := [6]) (by kernel_rfl) (by simp) ?_
        refine AllReadyH.cons rfl (fun K hK => ?_) AllReadyH.nil
        go_simp
        refine (picked _ _ _ _ _ _ _ HRd.out (by omega) (by omega) (by omega)).mono ?_
        rintro e u1 ⟨q, rfl, q0, q1, hR4, hO4⟩
        obtain ⟨i, rfl⟩ := Int.eq_ofNat_of_zero_le q0
        have hi : i < k.inbox.length := by omega
        obtain ⟨xe, he⟩ : ∃ xe, k.inbox[i]? = some xe := ⟨_, List.getElem?_eq_getElem hi⟩
        have hS4 := seesR_grown HSd.out (only_grown hO4) HFt.out
        have HS4 := Lib.hid hS4
        have HR4 := Lib.hid hR4
        have HG4 := Lib.hid (grown_trans HGd.out (only_grown hO4))
        have HK4 := Lib.hid (blk_only HKd.out hO4 HKb.out)
        have HX4 := Lib.hid (blk_only HXd.out hO4 (by omega))
        clear hR4 hO4 hS4 HRd HGd HKd HSd hKd
        refine hK.out _ _ ⟨HK4.out, HS4.out⟩ (fun hHeld => ?_)
        clear hK K hHeld
        have hKd : Blk u1 kb 29 #[.int .i64 k.id, .int .i64 k.time, .int .i64 k.next, a1, b1, .slice (some ⟨g, 0, none⟩) k.inbox.length cp] ∧ SeesN u1 (.slice (some ⟨g, 0, none⟩) k.inbox.length cp) k.inbox := ⟨HK4.out, HS4.out⟩
        refine rs.want_take (i := 7) 68 (v := ?_) rfl rfl (by kernel_rfl) (by kernel_rfl) (by kernel_rfl) (fun _ _ _ _ h => h) rfl ?_ (by assumption) ?_
        rotate_left 1
        · (intro w' hSw; obtain ⟨k0, k1, k2, k3, k4, k5⟩ := cells6 hSw.1; obtain ⟨c0, c1, c2, c3, c4⟩ := sees_note hSw.2 he; go_simp; try with_reducible rfl)
        simp only [List.setIfInBounds_toArray, List.set_cons_zero, List.set_cons_succ]
        refine rs.want_take (i := 8) 69 (v := ?_) rfl rfl (by kernel_rfl) (by kernel_rfl) (by kernel_rfl) (fun _ _ _ _ h => h) rfl ?_ (by assumption) ?_
        rotate_left 1
        · (intro w' hSw; obtain ⟨k0, k1, k2, k3, k4, k5⟩ := cells6 hSw.1; obtain ⟨c0, c1, c2, c3, c4⟩ := sees_note hSw.2 he; go_simp; try with_reducible rfl)
        simp only [List.setIfInBounds_toArray, List.set_cons_zero, List.set_cons_succ]
        obtain ⟨n0, n1, n2, n3, n4, _, _, _⟩ := cells5 HX4.out
        obtain ⟨m0, m1, m2, m3, m4⟩ := frozen5 HX4.out
        refine wpAnyH_ready (rs := [10]) (by kernel_rfl) (by simp) ?_
        refine AllReadyH.cons rfl (fun K hK => ?_) AllReadyH.nil
        go_simp
        have hG5 := put5g u1 ob (.int .i64 xe.f) (.int .i64 xe.n) (.int .i64 xe.t) (.int .i64 xe.u) (.string xe.s)
        have HX5 := Lib.hid (put5b HX4.out (.int .i64 xe.f) (.int .i64 xe.n) (.int .i64 xe.t) (.int .i64 xe.u) (.string xe.s))
        refine hK.out _ _ ⟨blk_grown HK4.out hG5 (by omega), seesR_grown HS4.out hG5 (by intro e; have e2 : g = ob := (by injection e with e); omega)⟩ (fun hHeld => ?_)
        clear hK K hHeld n0 n1 n2 n3 n4 m0 m1 m2 m3 m4 hKd
        refine wpAnyH_done (by kernel_rfl) ?_ _
        have hzl := HX4.out.lt
        have HR5 := Lib.hid (rd_later HR4.out (grown_below hG5 (by omega) (by omega)))
        have HG5 := Lib.hid (grown_later HG4.out (grown_below hG5 hzw (by omega)))
        clear hG5 HK4 HS4 HR4 HG4 HX4
        generalize ((((u1.setCell ⟨ob, 0, none⟩ (.int .i64 xe.f)).setCell ⟨ob, 1, none⟩ (.int .i64 xe.n)).setCell ⟨ob, 2, none⟩ (.int .i64 xe.t)).setCell ⟨ob, 3, none⟩ (.int .i64 xe.u)).setCell ⟨ob, 4, none⟩ (.string xe.s) = W5 at HR5 HG5 HX5 ⊢
        obtain ⟨n0, n1, n2, n3, n4, _, _, _⟩ := cells5 HX5.out
        obtain ⟨⟨x1, x2⟩, ⟨x3, x4⟩, ⟨x5, x6⟩, ⟨x7, x8⟩, _⟩ := okN_parts (HNk.out.inbox xe (List.mem_of_getElem? he))
        go_wp2_with fail
        refine (three_any xe.f xe.n xe.u (by omega) (by omega) (by omega) (by omega) (by omega) (by omega) _).mono ?_
        rintro e w6 ⟨z, rfl, hz6, hB6⟩
        have HR7 := Lib.hid (rd_later HR5.out (hB6.mono (by have := HR5.out.1.lt; omega)))
        have HG7 := Lib.hid (grown_trans HG5.out (dr.below_grown hB6 _))
        clear hB6 n0 n1 n2 n3 n4
        have q5 : (⟨#[101, 97, 116, 32]⟩ : ByteArray).size = 4 := rfl
        obtain ⟨y, ey, qy, ry⟩ := adds ⟨#[101, 97, 116, 32]⟩ z (by omega)
        have hy : y.size ≤ 100 := by omega
        clear ey qy
        go_wp2
        go_ret
        exact ⟨y, p1 + 1 + 1, rfl, hy, by omega, by omega, HR7.out, HG7.out⟩
end Go.Proofs.YtjmmojjjopjdpaaGreatDoor.kp

