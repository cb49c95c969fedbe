/-
  Contract of spec.l72Frame: whatever the code, a frame with data of at most 25 bytes; nothing old is turned but the reader.
-/
import Derived.Test.YtgihbilpimempaaDoorDrawNote
import Derived.Test.YtgihbilpimempaaDoorMakeSpec
import Derived.Test.YtgihbilpimempaaDoorFrCells
import Derived.Deep.RegionHeld3
import Derived.Outline
import Derived.Deep.Cut
namespace Go.Proofs.YtgihbilpimempaaDoor.dr
open Go.ChangeShapes Go.WideShapes Go.ChangeAt Go.RowKit
open Go.Proofs.YtgihbilpimempaaDoor.wd Go.Proofs.YtgihbilpimempaaDoor.pk Go.Proofs.YtgihbilpimempaaDoor.cp Go.Proofs.YtgihbilpimempaaDoor.ow Go.Proofs.YtgihbilpimempaaDoor.fr Go.Proofs.YtgihbilpimempaaDoor.nx
open Go.Proofs.YtgihbilpimempaaDoor.ok (note)
open Go.Proofs.YtgihbilpimempaaDoor.cs (smake_any)

abbrev zF : Array Value := #[.int .i64 0, .int .i64 0, .int .i64 0, .int .i64 0, .int .i64 0, .int .i64 0, .int .i64 0, .int .i64 0, .int .i64 0, .string ⟨#[]⟩]

theorem rd_ten {W : World} {b : Nat} {A : Option Addr} {len cap : Nat} {q : Int} (h : Rd W b A len cap q) {R : Nat} (hR : b < R) (a0 a1 a2 a3 a4 a5 a6 a7 a8 a9 : Value) : Rd ((((((((((W.setCell ⟨R, 0, none⟩ a0).setCell ⟨R, 1, none⟩ a1).setCell ⟨R, 2, none⟩ a2).setCell ⟨R, 3, none⟩ a3).setCell ⟨R, 4, none⟩ a4).setCell ⟨R, 5, none⟩ a5).setCell ⟨R, 6, none⟩ a6).setCell ⟨R, 7, none⟩ a7).setCell ⟨R, 8, none⟩ a8).setCell ⟨R, 9, none⟩ a9) b A len cap q := (rd_set (rd_set (rd_set (rd_set (rd_set (rd_set (rd_set (rd_set (rd_set (rd_set h (a := ⟨R, 0, none⟩) hR a0) (a := ⟨R, 1, none⟩) hR a1) (a := ⟨R, 2, none⟩) hR a2) (a := ⟨R, 3, none⟩) hR a3) (a := ⟨R, 4, none⟩) hR a4) (a := ⟨R, 5, none⟩) hR a5) (a := ⟨R, 6, none⟩) hR a6) (a := ⟨R, 7, none⟩) hR a7) (a := ⟨R, 8, none⟩) hR a8) (a := ⟨R, 9, none⟩) hR a9)
theorem grown_ten {w W : World} {b : Nat} (h : w.grownBy W (some b)) {R : Nat} (hR : w.heap.size ≤ R) (a0 a1 a2 a3 a4 a5 a6 a7 a8 a9 : Value) : w.grownBy ((((((((((W.setCell ⟨R, 0, none⟩ a0).setCell ⟨R, 1, none⟩ a1).setCell ⟨R, 2, none⟩ a2).setCell ⟨R, 3, none⟩ a3).setCell ⟨R, 4, none⟩ a4).setCell ⟨R, 5, none⟩ a5).setCell ⟨R, 6, none⟩ a6).setCell ⟨R, 7, none⟩ a7).setCell ⟨R, 8, none⟩ a8).setCell ⟨R, 9, none⟩ a9) (some b) := (grown_set (grown_set (grown_set (grown_set (grown_set (grown_set (grown_set (grown_set (grown_set (grown_set h (a := ⟨R, 0, none⟩) hR a0) (a := ⟨R, 1, none⟩) hR a1) (a := ⟨R, 2, none⟩) hR a2) (a := ⟨R, 3, none⟩) hR a3) (a := ⟨R, 4, none⟩) hR a4) (a := ⟨R, 5, none⟩) hR a5) (a := ⟨R, 6, none⟩) hR a6) (a := ⟨R, 7, none⟩) hR a7) (a := ⟨R, 8, none⟩) hR a8) (a := ⟨R, 9, none⟩) hR a9)
theorem blk_ten {W : World} {R : Nat} {T : TypeId} {x0 x1 x2 x3 x4 x5 x6 x7 x8 x9 : Value} (h : Blk W R T #[x0, x1, x2, x3, x4, x5, x6, x7, x8, x9]) (a0 a1 a2 a3 a4 a5 a6 a7 a8 a9 : Value) : Blk ((((((((((W.setCell ⟨R, 0, none⟩ a0).setCell ⟨R, 1, none⟩ a1).setCell ⟨R, 2, none⟩ a2).setCell ⟨R, 3, none⟩ a3).setCell ⟨R, 4, none⟩ a4).setCell ⟨R, 5, none⟩ a5).setCell ⟨R, 6, none⟩ a6).setCell ⟨R, 7, none⟩ a7).setCell ⟨R, 8, none⟩ a8).setCell ⟨R, 9, none⟩ a9) R T #[a0, a1, a2, a3, a4, a5, a6, a7, a8, a9] := by simpa using ((((((((((h.put 0 a0).put 1 a1).put 2 a2).put 3 a3).put 4 a4).put 5 a5).put 6 a6).put 7 a7).put 8 a8).put 9 a9)
theorem drew_grown {W V : World} {r : Option Nat} (h : W.drew.grownBy V r) : W.grownBy V r := ⟨h.os, h.tape, h.output, h.size, h.block⟩

def FramePost (w : World) (b : Nat) (A : Option Addr) (len cap : Nat) (p : Int) (e : Ending) (w' : World) : Prop :=
  ∃ (F : Fr) (p' : Int), e = .returned (frv F) ∧ F.x.size ≤ 25 ∧ p ≤ p' ∧ p' ≤ p + 100 ∧ Rd w' b A len cap p' ∧ w.grownBy w' (some b)

set_option maxRecDepth 100000 in
set_option maxHeartbeats 1500000 in
theorem frame72 (w : World) (b : Nat) (A : Option Addr) (len cap : Nat) (p : Int) (h : Rd w b A len cap p) (hp : p ≤ 700000) :
    Calls Tryd.prog 19 #[.pointer (some ⟨b, 0, none⟩)] w (FramePost w b A len cap p) := by
  have hb := h.1.lt
  have hZ0 := Blk.new w 24 zF
  have hR0 := rd_later h ((Below.refl (b + 1) w).alloc (by omega) (.cells zF 24))
  have hG0 := below_grown ((Below.refl _ w).alloc (Nat.le_refl _) (.cells zF 24)) (some b)
  have hZb : w.heap.size ≠ b := by omega
  clear h
  go_enter Tryd.func19, Tryd.ntmps19
  go_wp2_with fail
  refine (note72 _ _ _ _ _ _ hR0 (by omega)).mono ?_
  rintro e w1 ⟨nf, nn, nt, nu, ns, q1, rfl, hns, hq0, hq1, hR1, hGn⟩
  have hZ1 := blk_grown hZ0 hGn hZb
  have hG1 := grown_trans hG0 hGn
  have hw1 := hZ1.lt
  have hb1 := hR1.1.lt
  have hN1 := Blk.new w1 53 #[.int .i64 nf, .int .i64 nn, .int .i64 nt, .int .i64 nu, .string ns]
  have hZ2 := hZ1.alloc (.cells #[.int .i64 nf, .int .i64 nn, .int .i64 nt, .int .i64 nu, .string ns] 53)
  have hR2 := rd_later hR1 ((Below.refl (b + 1) w1).alloc (by omega) (.cells #[.int .i64 nf, .int .i64 nn, .int .i64 nt, .int .i64 nu, .string ns] 53))
  have hG2 := grown_trans hG1 (below_grown ((Below.refl _ w1).alloc (Nat.le_refl _) (.cells #[.int .i64 nf, .int .i64 nn, .int .i64 nt, .int .i64 nu, .string ns] 53)) (some b))
  have hNb : w1.heap.size ≠ b := by omega
  clear hZ0 hR0 hG0 hGn hZ1 hR1 hG1
  unfold note
  go_wp2_with fail
  refine (picked _ _ _ _ _ _ _ hR2 (by omega) (by omega) (by omega)).mono ?_
  rintro e W ⟨at', rfl, a0, a1, hR3, hO3⟩
  have hZ3 := blk_only hZ2 hO3 hZb
  have hN3 := blk_only hN1 hO3 hNb
  have hG3 := grown_trans hG2 (only_grown hO3)
  clear hZ2 hN1 hR2 hG2 hO3
  have hNN := Lib.hid (fun V => snext_any at' nt V)
  generalize nxt at' nt = N at hNN
  obtain ⟨n0, n1, n2, n3, n4, hnl⟩ := ok.five hN3
  have hwl := hZ3.lt
  have HR3 := Lib.hid hR3
  have HPick := Lib.hid (fun V (hV : Rd V b A len cap (q1 + 1)) => picked V b A len cap (q1 + 1) 3 hV (by omega) (by omega) (by omega))
  clear hR3
  go_upto_region 3 with (fail)
  go_cut [5] from 10 (fun p wx => ∃ (g : Nat) (kk : Int), p = .pointer (some ⟨g, 0, none⟩) ∧ 0 ≤ kk ∧ kk < 3 ∧ W.heap.size ≤ g ∧ Hid (Blk wx g 24 #[.int .i64 (1 + kk), .int .i64 at', .int .i64 N, .int .i64 nf, .int .i64 nn, .int .i64 nt, .int .i64 nu, .int .i64 0, .int .i64 0, .string ⟨#[]⟩]) ∧ Hid (Rd wx b A len cap (q1 + 1 + 1)) ∧ Hid (W.grownBy wx (some b)))
  case first =>
    have hNW : ¬ w1.heap.size = W.heap.size := by omega
    have hNW' : ¬ W.heap.size = w1.heap.size := by omega
    have hZW : ¬ w.heap.size = W.heap.size := by omega
    have hZW' : ¬ W.heap.size = w.heap.size := by omega
    have HR3d : Hid (Rd W.drew b A len cap (q1 + 1)) := HR3.out
    have hWb : W.heap.size ≠ b := by have := HR3.out.1.lt; omega
    have HR3a : Hid (Rd (W.alloc (.cells zF 24)).drew b A len cap (q1 + 1)) := rd_later HR3.out (((Below.refl (b + 1) W).alloc (by have := HR3.out.1.lt; omega) (.cells zF 24)).drew)
    have HY : Hid (Blk (W.alloc (.cells zF 24)).drew W.heap.size 24 zF) := Blk.new W _ _
    have hN3a := hN3.alloc (.cells zF 24)
    have d0 : W.drew.cell? ⟨w1.heap.size, 0, none⟩ = some (.int .i64 nf) := n0
    have d1 : W.drew.cell? ⟨w1.heap.size, 1, none⟩ = some (.int .i64 nn) := n1
    have d2 : W.drew.cell? ⟨w1.heap.size, 2, none⟩ = some (.int .i64 nt) := n2
    have d3 : W.drew.cell? ⟨w1.heap.size, 3, none⟩ = some (.int .i64 nu) := n3
    have m0 : (W.alloc (.cells zF 24)).drew.cell? ⟨w1.heap.size, 0, none⟩ = some (.int .i64 nf) := hN3a.cell 0
    have m1 : (W.alloc (.cells zF 24)).drew.cell? ⟨w1.heap.size, 1, none⟩ = some (.int .i64 nn) := hN3a.cell 1
    have m2 : (W.alloc (.cells zF 24)).drew.cell? ⟨w1.heap.size, 2, none⟩ = some (.int .i64 nt) := hN3a.cell 2
    have m3 : (W.alloc (.cells zF 24)).drew.cell? ⟨w1.heap.size, 3, none⟩ = some (.int .i64 nu) := hN3a.cell 3
    go_region_held3 (fun w' => w'.cell? ⟨w1.heap.size, 0, none⟩ = some (.int .i64 nf) ∧ w'.cell? ⟨w1.heap.size, 1, none⟩ = some (.int .i64 nn) ∧ w'.cell? ⟨w1.heap.size, 2, none⟩ = some (.int .i64 nt) ∧ w'.cell? ⟨w1.heap.size, 3, none⟩ = some (.int .i64 nu)) (first | with_reducible exact ⟨d0, d1, d2, d3⟩ | with_reducible exact ⟨s0, s1, s2, s3⟩ | with_reducible exact ⟨m0, m1, m2, m3⟩ | go_keep) ((first | (go_at_call 25; refine (hNN.out _).mono ?_; rintro e w2 ⟨rfl, rfl⟩) | (go_at_call 35; refine (HPick.out _ (by first | with_reducible exact HR3d.out | with_reducible exact HR3a.out)).mono ?_; rintro e w2 ⟨kk, rfl, kk0, kk1, hR4, hO4⟩; have hwk : IntKind.i64.wrap (1 + kk) = 1 + kk := (by rw [IntKind.wrap_i64]; omega); have s0 : w2.cell? ⟨w1.heap.size, 0, none⟩ = some (.int .i64 nf) := (World.cell?_of_block (hO4.2.1 w1.heap.size hNb)).trans (by first | with_reducible exact d0 | with_reducible exact m0); have s1 : w2.cell? ⟨w1.heap.size, 1, none⟩ = some (.int .i64 nn) := (World.cell?_of_block (hO4.2.1 w1.heap.size hNb)).trans (by first | with_reducible exact d1 | with_reducible exact m1); have s2 : w2.cell? ⟨w1.heap.size, 2, none⟩ = some (.int .i64 nt) := (World.cell?_of_block (hO4.2.1 w1.heap.size hNb)).trans (by first | with_reducible exact d2 | with_reducible exact m2); have s3 : w2.cell? ⟨w1.heap.size, 3, none⟩ = some (.int .i64 nu) := (World.cell?_of_block (hO4.2.1 w1.heap.size hNb)).trans (by first | with_reducible exact d3 | with_reducible exact m3); first | (have hY := (by with_reducible exact blk_only HY.out hO4 hWb : Blk w2 W.heap.size 24 zF); obtain ⟨y0, y1, y2, y3, y4, y5, y6, y7, y8, y9, _⟩ := ten hY; obtain ⟨v0, v1, v2, v3, v4, v5, v6, v7, v8, v9⟩ := ten_frozen hY) | skip)))
    all_goals
      have hg2 : W.heap.size ≤ w2.heap.size := by
        first
          | exact Nat.le_of_eq hO4.2.2.symm
          | (rw [hO4.2.2]; show W.heap.size ≤ (W.alloc _).heap.size; simp)
      have hbW : b < W.heap.size := HR3.out.1.lt
      go_wp2_with fail
      go_meet
    · exact ⟨w2.heap.size, kk, rfl, kk0, kk1, hg2, Blk.new w2 _ _, rd_later hR4 ((Below.refl (b + 1) w2).alloc (by omega) _), grown_trans (drew_grown (only_grown hO4)) (below_grown ((Below.refl _ _).alloc (Nat.le_refl _) _) _)⟩
    · exact ⟨w2.heap.size, kk, rfl, kk0, kk1, hg2, Blk.new w2 _ _, rd_later hR4 ((Below.refl (b + 1) w2).alloc (by omega) _), grown_trans (drew_grown (only_grown hO4)) (below_grown ((Below.refl _ _).alloc (Nat.le_refl _) _) _)⟩
    · exact ⟨W.heap.size, kk, rfl, kk0, kk1, Nat.le_refl _, blk_ten (blk_only HY.out hO4 hWb) _ _ _ _ _ _ _ _ _ _, rd_ten hR4 hbW _ _ _ _ _ _ _ _ _ _, grown_ten (grown_trans (below_grown ((Below.refl _ _).alloc (Nat.le_refl _) _) _) (drew_grown (only_grown hO4))) (Nat.le_refl _) _ _ _ _ _ _ _ _ _ _⟩
  case rest =>
    obtain ⟨g, kk, rfl, kk0, kk1, hgW, HF, HR4, HG4⟩ := hcut
    have HR3' : Hid (b < W.heap.size) := HR3.out.1.lt
    clear n0 n1 n2 n3 n4 hNN HPick HR3
    -- REST
    have hbg : b < g := by have := HR3'.out; omega
    have hNg : ¬ w1.heap.size = g := by omega
    have hNg' : ¬ g = w1.heap.size := by omega
    have hZg : ¬ w.heap.size = g := by omega
    have hZg' : ¬ g = w.heap.size := by omega
    have hgb : g ≠ b := by omega
    obtain ⟨K, hK⟩ : ∃ K, K = 1 + kk := ⟨_, rfl⟩
    rw [← hK] at HF
    have HG5 := Lib.hid (grown_trans hG3 HG4.out)
    have HZ5 := Lib.hid (blk_grown hZ3 HG4.out hZb)
    have HN5 := Lib.hid (blk_grown hN3 HG4.out hNb)
    clear hK kk0 kk1 hZ3 hN3 hG3 HG4
    obtain ⟨c0, c1, c2, c3, c4, c5, c6, c7, c8, c9, hgl⟩ := ten HF.out
    obtain ⟨f0, f1, f2, f3, f4, f5, f6, f7, f8, f9⟩ := ten_frozen HF.out
    obtain ⟨n0, n1, n2, n3, n4, _⟩ := ok.five HN5.out
    go_upto_if 29 with (fail)
    go_cut [5] from 10 (fun p wx => ∃ (F : Fr) (q : Int), p = .pointer (some ⟨g, 0, none⟩) ∧ F.x.size ≤ 25 ∧ q1 ≤ q ∧ q ≤ q1 + 10 ∧ Hid (Blk wx g 24 (fcs F)) ∧ Hid (Rd wx b A len cap q) ∧ Hid (w.grownBy wx (some b)) ∧ Hid (Blk wx w.heap.size 24 zF))
    case first =>
      by_cases hk : K = 1
      · have hq : (K == 1) = true := beq_iff_eq.2 hk
        clear hk
        have hns' : (ns.size : Int) ≤ 25 := by omega
        go_wp2_with fail
        have hR5 := rd_set HR4.out (a := ⟨g, 7, none⟩) hbg (.int .i64 ns.size)
        refine (picked _ _ _ _ _ _ _ hR5 (by omega) (by omega) (by omega)).mono ?_
        rintro e w6 ⟨mm, rfl, mm0, mm1, hR6, hO6⟩
        have hF6 : Blk w6 g 24 #[.int .i64 K, .int .i64 at', .int .i64 N, .int .i64 nf, .int .i64 nn, .int .i64 nt, .int .i64 nu, .int .i64 ns.size, .int .i64 0, .string ⟨#[]⟩] := blk_only (by simpa using HF.out.put 7 (.int .i64 ns.size)) hO6 hgb
        have hG6 := grown_trans (grown_set HG5.out (a := ⟨g, 7, none⟩) (by show w.heap.size ≤ g; omega) (.int .i64 ns.size)) (only_grown hO6)
        have hZ6 := blk_only (HZ5.out.far (p := ⟨g, 7, none⟩) hZg (.int .i64 ns.size)) hO6 hZb
        have hN6 := blk_only (HN5.out.far (p := ⟨g, 7, none⟩) hNg (.int .i64 ns.size)) hO6 hNb
        clear c0 c1 c2 c3 c4 c5 c6 c7 c8 c9 f0 f1 f2 f3 f4 f5 f6 f7 f8 f9 n0 n1 n2 n3 n4 hR5 hO6 HF HR4 HG5 HZ5 HN5 hgl
        obtain ⟨c0, c1, c2, c3, c4, c5, c6, c7, c8, c9, hgl⟩ := ten hF6
        obtain ⟨f0, f1, f2, f3, f4, f5, f6, f7, f8, f9⟩ := ten_frozen hF6
        obtain ⟨n0, n1, n2, n3, n4, _⟩ := ok.five hN6
        have hF7 : Blk (w6.setCell ⟨g, 8, none⟩ (.int .i64 mm)) g 24 #[.int .i64 K, .int .i64 at', .int .i64 N, .int .i64 nf, .int .i64 nn, .int .i64 nt, .int .i64 nu, .int .i64 ns.size, .int .i64 mm, .string ⟨#[]⟩] := by simpa using hF6.put 8 (.int .i64 mm)
        have HF7 := Lib.hid hF7
        have HR7 := Lib.hid (rd_set hR6 (a := ⟨g, 8, none⟩) hbg (.int .i64 mm))
        have HG7 := Lib.hid (grown_set hG6 (a := ⟨g, 8, none⟩) (by show w.heap.size ≤ g; omega) (.int .i64 mm))
        have HZ7 := Lib.hid (hZ6.far (p := ⟨g, 8, none⟩) hZg (.int .i64 mm))
        have HM := Lib.hid (fun V => smake_any ns (by omega) mm V)
        have hmk : (mk ns mm).size ≤ 25 := by
          unfold mk
          split
          · exact Nat.zero_le _
          · rw [Q.str_size]; omega
        unfold StrPost at HM
        generalize mk ns mm = xs at HM hmk
        clear hF6 hG6 hZ6 hN6 hR6 hF7
        go_wp2_with fail
        clear c0 c1 c2 c3 c4 c5 c6 c7 c8 c9 f0 f1 f2 f3 f4 f5 f6 f7 f8 f9 n0 n1 n2 n3 n4
        generalize w6.setCell ⟨g, 8, none⟩ (.int .i64 mm) = w7 at HF7 HR7 HG7 HZ7 ⊢
        refine (HM.out _).mono ?_
        rintro e w8 ⟨rfl, hB8⟩
        have hF8 := HF7.out.below hB8 HF7.out.lt
        have HF9 : Hid (Blk (w8.setCell ⟨g, 9, none⟩ (.string xs)) g 24 (fcs ⟨K, at', N, nf, nn, nt, nu, ns.size, mm, xs⟩)) := by
          show Blk _ _ _ _
          simpa using hF8.put 9 (.string xs)
        have HR9 := Lib.hid (rd_set (rd_later HR7.out (hB8.mono HR7.out.1.lt)) (a := ⟨g, 9, none⟩) hbg (.string xs))
        have HG9 := Lib.hid (grown_set (grown_trans HG7.out (below_grown hB8 _)) (a := ⟨g, 9, none⟩) (by show w.heap.size ≤ g; omega) (.string xs))
        have HZ9 := Lib.hid ((HZ7.out.below hB8 HZ7.out.lt).far (p := ⟨g, 9, none⟩) hZg (.string xs))
        have c9 := hF8.cell 9
        simp only [List.getElem?_toArray, List.getElem?_cons_succ, List.getElem?_cons_zero] at c9
        have f9 := hF8.frozen 9
        clear hF8 hB8 HF7 HR7 HG7 HZ7 HM
        go_wp2
        go_meet
        exact ⟨_, q1 + 1 + 1 + 1, rfl, hmk, by omega, by omega, HF9.out, HR9.out, HG9.out, HZ9.out⟩
      · have hq : (K == 1) = false := beq_eq_false_iff_ne.2 hk
        clear hk
        have HF9 : Hid (Blk ((wc.setCell ⟨g, 1, none⟩ (.int .i64 N)).setCell ⟨g, 2, none⟩ (.int .i64 at')) g 24 (fcs ⟨K, N, at', nf, nn, nt, nu, 0, 0, ⟨#[]⟩⟩)) := by
          show Blk _ _ _ _
          simpa using (HF.out.put 1 (.int .i64 N)).put 2 (.int .i64 at')
        have HR9 := Lib.hid (rd_set (rd_set HR4.out (a := ⟨g, 1, none⟩) hbg (.int .i64 N)) (a := ⟨g, 2, none⟩) hbg (.int .i64 at'))
        have HG9 := Lib.hid (grown_set (grown_set HG5.out (a := ⟨g, 1, none⟩) (by show w.heap.size ≤ g; omega) (.int .i64 N)) (a := ⟨g, 2, none⟩) (by show w.heap.size ≤ g; omega) (.int .i64 at'))
        have HZ9 := Lib.hid ((HZ5.out.far (p := ⟨g, 1, none⟩) hZg (.int .i64 N)).far (p := ⟨g, 2, none⟩) hZg (.int .i64 at'))
        clear HF HR4 HG5 HZ5 HN5
        go_wp2
        go_meet
        exact ⟨_, q1 + 1 + 1, rfl, by show (0 : Nat) ≤ 25; omega, by omega, by omega, HF9.out, HR9.out, HG9.out, HZ9.out⟩
    case rest =>
      obtain ⟨F, q, rfl, hx, hqa, hqb, HF', HR', HG', HZ'⟩ := hcut
      clear c0 c1 c2 c3 c4 c5 c6 c7 c8 c9 f0 f1 f2 f3 f4 f5 f6 f7 f8 f9 n0 n1 n2 n3 n4 HF HR4 HG5 HZ5 HN5 hgl
      obtain ⟨k, s, d, f, n, t, u, z, m, x⟩ := F
      simp only at hx
      go_wp2_with fail
      refine (picked _ _ _ _ _ _ _ HR'.out (by omega) (by omega) (by omega)).mono ?_
      rintro e w7 ⟨v, rfl, v0, v1, hR7, hO7⟩
      have hF7 : Blk w7 g 24 #[.int .i64 k, .int .i64 s, .int .i64 d, .int .i64 f, .int .i64 n, .int .i64 t, .int .i64 u, .int .i64 z, .int .i64 m, .string x] := blk_only HF'.out hO7 hgb
      have hZ7 := blk_only HZ'.out hO7 hZb
      have hG7 := grown_trans HG'.out (only_grown hO7)
      have hz7 := hF7.lt
      have hwz : w.heap.size ≤ g := by omega
      have hwg : w.heap.size < w7.heap.size := hZ7.lt
      have hbw : b < w.heap.size := hb
      clear HF' HR' HG' HZ' hO7
      by_cases e0 : v = 0
      · subst e0
        have hI := Blk.new w7 3 #[.int .i64 (0), .int .i64 (4)]
        go_wp2_with fail
        refine (picked _ _ _ _ _ _ _ (rd_later hR7 ((Below.refl _ _).alloc hR7.1.lt _)) (by omega) (by omega) (by omega)).mono ?_
        rintro e W7 ⟨j, rfl, j0, j1, hR, hO⟩
        have hI2 : Blk W7 w7.heap.size 3 #[.int .i64 (0), .int .i64 (4)] := blk_only hI hO (by omega)
        have HF := Lib.hid (blk_only (hF7.alloc (.cells #[.int .i64 (0), .int .i64 (4)] 3)) hO hgb)
        have HZ := Lib.hid (blk_only (hZ7.alloc (.cells #[.int .i64 (0), .int .i64 (4)] 3)) hO hZb)
        have HR := Lib.hid hR
        have HG := Lib.hid (grown_trans (grown_trans hG7 (below_grown ((Below.refl _ _).alloc (Nat.le_refl _) (.cells #[.int .i64 (0), .int .i64 (4)] 3)) _)) (only_grown hO))
        obtain ⟨y, hy⟩ : ∃ y : Int, W7.cell? ⟨w7.heap.size, j.toNat, none⟩ = some (.int .i64 y) := by
          rw [hI2.cell]
          have : j = 0 ∨ j = 1 := by omega
          rcases this with rfl | rfl <;> exact ⟨_, rfl⟩
        have hjn : (j.toNat : Int) = j := by omega
        obtain ⟨qq, hqq⟩ : ∃ qq, qq = q + 1 + 1 := ⟨_, rfl⟩
        rw [← hqq] at HR
        have hqq0 : p ≤ qq := by omega
        have hqq1 : qq ≤ p + 100 := by omega
        clear hI hI2 hR hO hR7 hG7 hZ7 hF7 hqq
        obtain ⟨z0, z1, z2, z3, z4, z5, z6, z7, z8, z9, _⟩ := ten HZ.out
        obtain ⟨g0, g1, g2, g3, g4, g5, g6, g7, g8, g9⟩ := ten_frozen HZ.out
        obtain ⟨c0, c1, c2, c3, c4, c5, c6, c7, c8, c9, _⟩ := ten HF.out
        obtain ⟨f0, f1, f2, f3, f4, f5, f6, f7, f8, f9⟩ := ten_frozen HF.out
        clear HZ HF
        go_wp2
        refine bodyPost_ret (v := frv ⟨y, s, d, f, n, t, u, z, m, x⟩) (by simp [results, Tryd.results19, go_sem, frv, *]) rfl ⟨⟨y, s, d, f, n, t, u, z, m, x⟩, qq, rfl, hx, by omega, by omega, ?_, ?_⟩
        · exact rd_ten (rd_set HR.out (a := ⟨g, 0, none⟩) hbg _) hbw _ _ _ _ _ _ _ _ _ _
        · exact grown_ten (grown_set HG.out (a := ⟨g, 0, none⟩) hwz _) (Nat.le_refl _) _ _ _ _ _ _ _ _ _ _
      by_cases e1 : v = 1
      · subst e1
        have hI := Blk.new w7 3 #[.int .i64 (0), .int .i64 (25), .int .i64 (5)]
        go_wp2_with fail
        refine (picked _ _ _ _ _ _ _ (rd_later hR7 ((Below.refl _ _).alloc hR7.1.lt _)) (by omega) (by omega) (by omega)).mono ?_
        rintro e W7 ⟨j, rfl, j0, j1, hR, hO⟩
        have hI2 : Blk W7 w7.heap.size 3 #[.int .i64 (0), .int .i64 (25), .int .i64 (5)] := blk_only hI hO (by omega)
        have HF := Lib.hid (blk_only (hF7.alloc (.cells #[.int .i64 (0), .int .i64 (25), .int .i64 (5)] 3)) hO hgb)
        have HZ := Lib.hid (blk_only (hZ7.alloc (.cells #[.int .i64 (0), .int .i64 (25), .int .i64 (5)] 3)) hO hZb)
        have HR := Lib.hid hR
        have HG := Lib.hid (grown_trans (grown_trans hG7 (below_grown ((Below.refl _ _).alloc (Nat.le_refl _) (.cells #[.int .i64 (0), .int .i64 (25), .int .i64 (5)] 3)) _)) (only_grown hO))
        obtain ⟨y, hy⟩ : ∃ y : Int, W7.cell? ⟨w7.heap.size, j.toNat, none⟩ = some (.int .i64 y) := by
          rw [hI2.cell]
          have : j = 0 ∨ j = 1 ∨ j = 2 := by omega
          rcases this with rfl | rfl | rfl <;> exact ⟨_, rfl⟩
        have hjn : (j.toNat : Int) = j := by omega
        obtain ⟨qq, hqq⟩ : ∃ qq, qq = q + 1 + 1 := ⟨_, rfl⟩
        rw [← hqq] at HR
        have hqq0 : p ≤ qq := by omega
        have hqq1 : qq ≤ p + 100 := by omega
        clear hI hI2 hR hO hR7 hG7 hZ7 hF7 hqq
        obtain ⟨z0, z1, z2, z3, z4, z5, z6, z7, z8, z9, _⟩ := ten HZ.out
        obtain ⟨g0, g1, g2, g3, g4, g5, g6, g7, g8, g9⟩ := ten_frozen HZ.out
        obtain ⟨c0, c1, c2, c3, c4, c5, c6, c7, c8, c9, _⟩ := ten HF.out
        obtain ⟨f0, f1, f2, f3, f4, f5, f6, f7, f8, f9⟩ := ten_frozen HF.out
        clear HZ HF
        go_wp2
        refine bodyPost_ret (v := frv ⟨k, s, d, f, n, t, u, y, m, x⟩) (by simp [results, Tryd.results19, go_sem, frv, *]) rfl ⟨⟨k, s, d, f, n, t, u, y, m, x⟩, qq, rfl, hx, by omega, by omega, ?_, ?_⟩
        · exact rd_ten (rd_set HR.out (a := ⟨g, 7, none⟩) hbg _) hbw _ _ _ _ _ _ _ _ _ _
        · exact grown_ten (grown_set HG.out (a := ⟨g, 7, none⟩) hwz _) (Nat.le_refl _) _ _ _ _ _ _ _ _ _ _
      by_cases e2 : v = 2
      · subst e2
        have hI := Blk.new w7 3 #[.int .i64 (-1), .int .i64 (999), .int .i64 (1000)]
        go_wp2_with fail
        refine (picked _ _ _ _ _ _ _ (rd_later hR7 ((Below.refl _ _).alloc hR7.1.lt _)) (by omega) (by omega) (by omega)).mono ?_
        rintro e W7 ⟨j, rfl, j0, j1, hR, hO⟩
        have hI2 : Blk W7 w7.heap.size 3 #[.int .i64 (-1), .int .i64 (999), .int .i64 (1000)] := blk_only hI hO (by omega)
        have HF := Lib.hid (blk_only (hF7.alloc (.cells #[.int .i64 (-1), .int .i64 (999), .int .i64 (1000)] 3)) hO hgb)
        have HZ := Lib.hid (blk_only (hZ7.alloc (.cells #[.int .i64 (-1), .int .i64 (999), .int .i64 (1000)] 3)) hO hZb)
        have HR := Lib.hid hR
        have HG := Lib.hid (grown_trans (grown_trans hG7 (below_grown ((Below.refl _ _).alloc (Nat.le_refl _) (.cells #[.int .i64 (-1), .int .i64 (999), .int .i64 (1000)] 3)) _)) (only_grown hO))
        obtain ⟨y, hy⟩ : ∃ y : Int, W7.cell? ⟨w7.heap.size, j.toNat, none⟩ = some (.int .i64 y) := by
          rw [hI2.cell]
          have : j = 0 ∨ j = 1 ∨ j = 2 := by omega
          rcases this with rfl | rfl | rfl <;> exact ⟨_, rfl⟩
        have hjn : (j.toNat : Int) = j := by omega
        obtain ⟨qq, hqq⟩ : ∃ qq, qq = q + 1 + 1 := ⟨_, rfl⟩
        rw [← hqq] at HR
        have hqq0 : p ≤ qq := by omega
        have hqq1 : qq ≤ p + 100 := by omega
        clear hI hI2 hR hO hR7 hG7 hZ7 hF7 hqq
        obtain ⟨z0, z1, z2, z3, z4, z5, z6, z7, z8, z9, _⟩ := ten HZ.out
        obtain ⟨g0, g1, g2, g3, g4, g5, g6, g7, g8, g9⟩ := ten_frozen HZ.out
        obtain ⟨c0, c1, c2, c3, c4, c5, c6, c7, c8, c9, _⟩ := ten HF.out
        obtain ⟨f0, f1, f2, f3, f4, f5, f6, f7, f8, f9⟩ := ten_frozen HF.out
        clear HZ HF
        go_wp2
        refine bodyPost_ret (v := frv ⟨k, s, d, f, n, t, u, z, y, x⟩) (by simp [results, Tryd.results19, go_sem, frv, *]) rfl ⟨⟨k, s, d, f, n, t, u, z, y, x⟩, qq, rfl, hx, by omega, by omega, ?_, ?_⟩
        · exact rd_ten (rd_set HR.out (a := ⟨g, 8, none⟩) hbg _) hbw _ _ _ _ _ _ _ _ _ _
        · exact grown_ten (grown_set HG.out (a := ⟨g, 8, none⟩) hwz _) (Nat.le_refl _) _ _ _ _ _ _ _ _ _ _
      by_cases e3 : v = 3
      · subst e3
        go_wp2_with fail
        refine (text_few _ _ _ _ _ _ hR7 (by omega) _ 3 (by omega) (by omega) ?_).mono ?_
        · intro i hi
          have : i = 0 ∨ i = 1 ∨ i = 2 := by omega
          rcases this with rfl | rfl | rfl
          · exact ⟨_, rfl, by decide⟩
          · exact ⟨_, rfl, by decide⟩
          · exact ⟨_, rfl, by decide⟩
        rintro e W7 ⟨y, rfl, hys, hR, hO⟩
        have HF := Lib.hid (blk_only (hF7.alloc _) hO hgb)
        have HZ := Lib.hid (blk_only (hZ7.alloc _) hO hZb)
        have HR := Lib.hid hR
        have HG := Lib.hid (grown_trans (grown_trans hG7 (below_grown ((Below.refl _ _).alloc (Nat.le_refl _) _) _)) (only_grown hO))
        obtain ⟨qq, hqq⟩ : ∃ qq, qq = q + 1 + 1 := ⟨_, rfl⟩
        rw [← hqq] at HR
        have hqq0 : p ≤ qq := by omega
        have hqq1 : qq ≤ p + 100 := by omega
        clear hR hO hR7 hG7 hZ7 hF7 hqq hx
        obtain ⟨z0, z1, z2, z3, z4, z5, z6, z7, z8, z9, _⟩ := ten HZ.out
        obtain ⟨g0, g1, g2, g3, g4, g5, g6, g7, g8, g9⟩ := ten_frozen HZ.out
        obtain ⟨c0, c1, c2, c3, c4, c5, c6, c7, c8, c9, _⟩ := ten HF.out
        obtain ⟨f0, f1, f2, f3, f4, f5, f6, f7, f8, f9⟩ := ten_frozen HF.out
        clear HZ HF
        go_wp2
        refine bodyPost_ret (v := frv ⟨k, s, d, f, n, t, u, z, m, y⟩) (by simp [results, Tryd.results19, go_sem, frv, *]) rfl ⟨⟨k, s, d, f, n, t, u, z, m, y⟩, qq, rfl, hys, by omega, by omega, ?_, ?_⟩
        · exact rd_ten (rd_set HR.out (a := ⟨g, 9, none⟩) hbg _) hbw _ _ _ _ _ _ _ _ _ _
        · exact grown_ten (grown_set HG.out (a := ⟨g, 9, none⟩) hwz _) (Nat.le_refl _) _ _ _ _ _ _ _ _ _ _
      by_cases e4 : v = 4
      · subst e4
        go_wp2_with fail
        refine (picked _ _ _ _ _ _ _ hR7 (by omega) (by omega) (by omega)).mono ?_
        rintro e W7 ⟨y, rfl, y0, y1, hR, hO⟩
        have HF := Lib.hid (blk_only hF7 hO hgb)
        have HZ := Lib.hid (blk_only hZ7 hO hZb)
        have HR := Lib.hid hR
        have HG := Lib.hid (grown_trans hG7 (only_grown hO))
        obtain ⟨qq, hqq⟩ : ∃ qq, qq = q + 1 + 1 := ⟨_, rfl⟩
        rw [← hqq] at HR
        have hqq0 : p ≤ qq := by omega
        have hqq1 : qq ≤ p + 100 := by omega
        clear hR hO hR7 hG7 hZ7 hF7 hqq
        obtain ⟨z0, z1, z2, z3, z4, z5, z6, z7, z8, z9, _⟩ := ten HZ.out
        obtain ⟨g0, g1, g2, g3, g4, g5, g6, g7, g8, g9⟩ := ten_frozen HZ.out
        obtain ⟨c0, c1, c2, c3, c4, c5, c6, c7, c8, c9, _⟩ := ten HF.out
        obtain ⟨f0, f1, f2, f3, f4, f5, f6, f7, f8, f9⟩ := ten_frozen HF.out
        clear HZ HF
        go_wp2
        refine bodyPost_ret (v := frv ⟨k, y, d, f, n, t, u, z, m, x⟩) (by simp [results, Tryd.results19, go_sem, frv, *]) rfl ⟨⟨k, y, d, f, n, t, u, z, m, x⟩, qq, rfl, hx, by omega, by omega, ?_, ?_⟩
        · exact rd_ten (rd_set HR.out (a := ⟨g, 1, none⟩) hbg _) hbw _ _ _ _ _ _ _ _ _ _
        · exact grown_ten (grown_set HG.out (a := ⟨g, 1, none⟩) hwz _) (Nat.le_refl _) _ _ _ _ _ _ _ _ _ _
      have HF := Lib.hid hF7
      have HZ := Lib.hid hZ7
      have HR := Lib.hid hR7
      have HG := Lib.hid hG7
      obtain ⟨qq, hqq⟩ : ∃ qq, qq = q + 1 := ⟨_, rfl⟩
      rw [← hqq] at HR
      have hqq0 : p ≤ qq := by omega
      have hqq1 : qq ≤ p + 100 := by omega
      have k0 : (v == 0) = false := by simpa using e0
      have k1 : (v == 1) = false := by simpa using e1
      have k2 : (v == 2) = false := by simpa using e2
      have k3 : (v == 3) = false := by simpa using e3
      have k4 : (v == 4) = false := by simpa using e4
      clear hR7 hG7 hZ7 hF7 hqq e0 e1 e2 e3 e4
      obtain ⟨z0, z1, z2, z3, z4, z5, z6, z7, z8, z9, _⟩ := ten HZ.out
      obtain ⟨g0, g1, g2, g3, g4, g5, g6, g7, g8, g9⟩ := ten_frozen HZ.out
      obtain ⟨c0, c1, c2, c3, c4, c5, c6, c7, c8, c9, _⟩ := ten HF.out
      obtain ⟨f0, f1, f2, f3, f4, f5, f6, f7, f8, f9⟩ := ten_frozen HF.out
      clear HZ HF
      go_wp2
      refine bodyPost_ret (v := frv ⟨k, s, d, f, n, t, u, z, m, x⟩) (by simp [results, Tryd.results19, go_sem, frv, *]) rfl ⟨⟨k, s, d, f, n, t, u, z, m, x⟩, qq, rfl, hx, by omega, by omega, ?_, ?_⟩
      · exact rd_ten HR.out hbw _ _ _ _ _ _ _ _ _ _
      · exact grown_ten HG.out (Nat.le_refl _) _ _ _ _ _ _ _ _ _ _
end Go.Proofs.YtgihbilpimempaaDoor.dr
