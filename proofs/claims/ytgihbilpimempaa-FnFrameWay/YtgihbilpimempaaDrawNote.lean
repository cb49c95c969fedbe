/-
  Contract of spec.l72Note: whatever the code, a message with a text of at most 25 bytes; nothing old is turned but the reader.
-/
import Derived.Test.YtgihbilpimempaaDrawT
import Derived.Test.YtgihbilpimempaaSOk
import Derived.Test.YtgihbilpimempaaFive
namespace Go.Proofs.Ytgihbilpimempaa.dr
open Go.ChangeShapes Go.WideShapes Go.ChangeAt Go.RowKit
open Go.Proofs.Ytgihbilpimempaa.wd Go.Proofs.Ytgihbilpimempaa.pk Go.Proofs.Ytgihbilpimempaa.cp Go.Proofs.Ytgihbilpimempaa.ow Go.Proofs.Ytgihbilpimempaa.ok

theorem rd_set {W : World} {b : Nat} {A : Option Addr} {len cap : Nat} {q : Int} (h : Rd W b A len cap q) {a : Addr} (ha : b < a.block) (v : Value) : Rd (W.setCell a v) b A len cap q :=
  rd_later h ((Below.refl _ _).setCell (p := a) (by omega) v)
theorem grown_set {w W : World} {b : Nat} (h : w.grownBy W (some b)) {a : Addr} (ha : w.heap.size ≤ a.block) (v : Value) : w.grownBy (W.setCell a v) (some b) := by
  have hb : Below w.heap.size W (W.setCell a v) := (Below.refl _ _).setCell (p := a) ha v
  exact ⟨hb.os.trans h.os, hb.tape.trans h.tape, hb.output.trans h.output, Nat.le_trans h.size hb.size, fun k hk hn => (hb.block k hk).trans (h.block k hk hn)⟩
theorem blk_only {W W' : World} {b g : Nat} {T : TypeId} {cs : Array Value} (h : Blk W g T cs) (hO : Only b W W') (hg : g ≠ b) : Blk W' g T cs := (hO.2.1 g hg).trans h
theorem blk_grown {W W' : World} {b g : Nat} {T : TypeId} {cs : Array Value} (h : Blk W g T cs) (hG : W.grownBy W' (some b)) (hg : g ≠ b) : Blk W' g T cs :=
  (hG.block g h.lt (fun e => hg (by injection e))).trans h

def NotePost (w : World) (b : Nat) (A : Option Addr) (len cap : Nat) (p : Int) (e : Ending) (w' : World) : Prop :=
  ∃ (f n t u : Int) (s : ByteArray) (p' : Int), e = .returned (note f n t u s) ∧ s.size ≤ 25 ∧ p ≤ p' ∧ p' ≤ p + 50 ∧ Rd w' b A len cap p' ∧ w.grownBy w' (some b)

set_option maxRecDepth 100000 in
set_option maxHeartbeats 8000000 in
theorem note72 (w : World) (b : Nat) (A : Option Addr) (len cap : Nat) (p : Int) (h : Rd w b A len cap p) (hp : p ≤ 800000) :
    Calls Try.prog 40 #[.pointer (some ⟨b, 0, none⟩)] w (NotePost w b A len cap p) := by
  have hb := h.1.lt
  have hZ0 := Blk.new w 55 #[.int .i64 0, .int .i64 0, .int .i64 0, .int .i64 0, .string ⟨#[]⟩]
  have hR0 := rd_later h ((Below.refl (b + 1) w).alloc (by omega) (.cells #[.int .i64 0, .int .i64 0, .int .i64 0, .int .i64 0, .string ⟨#[]⟩] 55))
  have hG0 := below_grown ((Below.refl _ w).alloc (Nat.le_refl _) (.cells #[.int .i64 0, .int .i64 0, .int .i64 0, .int .i64 0, .string ⟨#[]⟩] 55)) (some b)
  have hZb : w.heap.size ≠ b := by omega
  clear h
  go_enter Try.func40, Try.ntmps40
  go_wp2_with fail
  refine (picked _ _ _ _ _ _ _ hR0 (by omega) (by omega) (by omega)).mono ?_
  rintro e w1 ⟨f, rfl, f0, f1, hR1, hO1⟩
  have hZ1 := blk_only hZ0 hO1 hZb
  have hG1 := grown_trans hG0 (only_grown hO1)
  clear hZ0 hR0 hG0 hO1
  go_wp2_with fail
  refine (picked _ _ _ _ _ _ _ hR1 (by omega) (by omega) (by omega)).mono ?_
  rintro e w2 ⟨n, rfl, n0, n1, hR2, hO2⟩
  have hZ2 := blk_only hZ1 hO2 hZb
  have hG2 := grown_trans hG1 (only_grown hO2)
  clear hZ1 hR1 hG1 hO2
  go_wp2_with fail
  refine (picked _ _ _ _ _ _ _ hR2 (by omega) (by omega) (by omega)).mono ?_
  rintro e w3 ⟨t, rfl, t0, t1, hR3, hO3⟩
  have hZ3 := blk_only hZ2 hO3 hZb
  have hG3 := grown_trans hG2 (only_grown hO3)
  clear hZ2 hR2 hG2 hO3
  go_wp2_with fail
  refine (picked _ _ _ _ _ _ _ hR3 (by omega) (by omega) (by omega)).mono ?_
  rintro e w4 ⟨u, rfl, u0, u1, hR4, hO4⟩
  have hZ4 := blk_only hZ3 hO4 hZb
  have hG4 := grown_trans hG3 (only_grown hO4)
  clear hZ3 hR3 hG3 hO4
  go_wp2_with fail
  refine (text_few _ _ _ _ _ _ hR4 (by omega) _ 5 (by omega) (by omega) ?_).mono ?_
  · intro i hi
    rcases five hi with rfl | rfl | rfl | rfl | rfl
    · exact ⟨_, rfl, by decide⟩
    · exact ⟨_, rfl, by decide⟩
    · exact ⟨_, rfl, by decide⟩
    · exact ⟨_, rfl, by decide⟩
    · exact ⟨_, rfl, by decide⟩
  rintro e w5 ⟨s, rfl, hsz, hR5, hO5⟩
  have hZ5 := blk_only (hZ4.alloc _) hO5 hZb
  have hG5 := grown_trans (grown_trans hG4 (below_grown ((Below.refl _ _).alloc (Nat.le_refl _) _) _)) (only_grown hO5)
  clear hZ4 hR4 hG4 hO5
  have hb5 := hR5.1.lt
  have hw5 := hZ5.lt
  have hne5 : ¬ w.heap.size = w5.heap.size := by omega
  have hne6 : ¬ w5.heap.size = w.heap.size := by omega
  have hZ6 := hZ5.alloc (.cells #[.int .i64 f, .int .i64 (1 + n), .int .i64 t, .int .i64 (1 + u), .string s] 55)
  have hN6 := Blk.new w5 55 #[.int .i64 f, .int .i64 (1 + n), .int .i64 t, .int .i64 (1 + u), .string s]
  have hR6 := rd_later hR5 ((Below.refl (b + 1) w5).alloc (by omega) (.cells #[.int .i64 f, .int .i64 (1 + n), .int .i64 t, .int .i64 (1 + u), .string s] 55))
  have hG6 := grown_trans hG5 (below_grown ((Below.refl _ w5).alloc (Nat.le_refl _) (.cells #[.int .i64 f, .int .i64 (1 + n), .int .i64 t, .int .i64 (1 + u), .string s] 55)) (some b))
  have hNb : w5.heap.size ≠ b := by omega
  clear hZ5 hR5 hG5
  go_wp2_with fail
  refine (picked _ _ _ _ _ _ _ hR6 (by omega) (by omega) (by omega)).mono ?_
  rintro e w7 ⟨v, rfl, v0, v1, hR7, hO7⟩
  have hZ7 := blk_only hZ6 hO7 hZb
  have hN7 := blk_only hN6 hO7 hNb
  have hG7 := grown_trans hG6 (only_grown hO7)
  clear hZ6 hN6 hR6 hG6 hO7
  by_cases e0 : v = 0
  · subst e0
    have hI := Blk.new w7 3 #[.int .i64 (-1), .int .i64 (4)]
    have hz7 := hR7.1.lt
    go_wp2_with fail
    refine (picked _ _ _ _ _ _ _ (rd_later hR7 ((Below.refl _ _).alloc (by omega) _)) (by omega) (by omega) (by omega)).mono ?_
    rintro e W ⟨j, rfl, j0, j1, hR, hO⟩
    have hI2 : Blk W w7.heap.size 3 #[.int .i64 (-1), .int .i64 (4)] := (hO.2.1 _ (by omega)).trans hI
    have HZ := Lib.hid (blk_only (hZ7.alloc (.cells #[.int .i64 (-1), .int .i64 (4)] 3)) hO hZb)
    have HN := Lib.hid (blk_only (hN7.alloc (.cells #[.int .i64 (-1), .int .i64 (4)] 3)) hO hNb)
    have HR := Lib.hid hR
    have HG := Lib.hid (grown_trans (grown_trans hG7 (below_grown ((Below.refl _ _).alloc (Nat.le_refl _) (.cells #[.int .i64 (-1), .int .i64 (4)] 3)) _)) (only_grown hO))
    obtain ⟨q, hq⟩ : ∃ q, q = p + 1 + 1 + 1 + 1 + 1 + 1 + 1 := ⟨_, rfl⟩
    rw [← hq] at HR
    have hq0 : p ≤ q := by omega
    have hq1 : q ≤ p + 50 := by omega
    have yN := HN.out.frozen 0
    obtain ⟨y, hy⟩ : ∃ y : Int, W.cell? ⟨w7.heap.size, j.toNat, none⟩ = some (.int .i64 y) := by
      rw [hI2.cell]
      have : j = 0 ∨ j = 1 := by omega
      rcases this with rfl | rfl
      · exact ⟨_, rfl⟩
      · exact ⟨_, rfl⟩
    have hjn : (j.toNat : Int) = j := by omega
    clear hq hI hI2 hR hO hR7 hG7 hZ7 hN7
    obtain ⟨z0, z1, z2, z3, z4, _⟩ := ok.five HZ.out
    obtain ⟨n0, n1, n2, n3, n4, _⟩ := ok.five HN.out
    have y0 := HZ.out.frozen 0
    have y1 := HZ.out.frozen 1
    have y2 := HZ.out.frozen 2
    have y3 := HZ.out.frozen 3
    have y4 := HZ.out.frozen 4
    clear HZ
    clear HN
    go_wp2
    refine bodyPost_ret (v := note (y) (1 + n) (t) (1 + u) (s)) (by simp [results, Try.results40, go_sem, note, *]) rfl ⟨_, _, _, _, _, q, rfl, hsz, hq0, hq1, ?_, ?_⟩
    · exact rd_set (rd_set (rd_set (rd_set (rd_set (rd_set (HR.out) (by first | (simp; done) | (simp; omega)) _) (by first | (simp; done) | (simp; omega)) _) (by first | (simp; done) | (simp; omega)) _) (by first | (simp; done) | (simp; omega)) _) (by first | (simp; done) | (simp; omega)) _) (by first | (simp; done) | (simp; omega)) _
    · exact grown_set (grown_set (grown_set (grown_set (grown_set (grown_set (HG.out) (by first | (simp; done) | (simp; omega)) _) (by first | (simp; done) | (simp; omega)) _) (by first | (simp; done) | (simp; omega)) _) (by first | (simp; done) | (simp; omega)) _) (by first | (simp; done) | (simp; omega)) _) (by first | (simp; done) | (simp; omega)) _
  by_cases e1 : v = 1
  · subst e1
    have hI := Blk.new w7 3 #[.int .i64 (0), .int .i64 (99), .int .i64 (100)]
    have hz7 := hR7.1.lt
    go_wp2_with fail
    refine (picked _ _ _ _ _ _ _ (rd_later hR7 ((Below.refl _ _).alloc (by omega) _)) (by omega) (by omega) (by omega)).mono ?_
    rintro e W ⟨j, rfl, j0, j1, hR, hO⟩
    have hI2 : Blk W w7.heap.size 3 #[.int .i64 (0), .int .i64 (99), .int .i64 (100)] := (hO.2.1 _ (by omega)).trans hI
    have HZ := Lib.hid (blk_only (hZ7.alloc (.cells #[.int .i64 (0), .int .i64 (99), .int .i64 (100)] 3)) hO hZb)
    have HN := Lib.hid (blk_only (hN7.alloc (.cells #[.int .i64 (0), .int .i64 (99), .int .i64 (100)] 3)) hO hNb)
    have HR := Lib.hid hR
    have HG := Lib.hid (grown_trans (grown_trans hG7 (below_grown ((Below.refl _ _).alloc (Nat.le_refl _) (.cells #[.int .i64 (0), .int .i64 (99), .int .i64 (100)] 3)) _)) (only_grown hO))
    obtain ⟨q, hq⟩ : ∃ q, q = p + 1 + 1 + 1 + 1 + 1 + 1 + 1 := ⟨_, rfl⟩
    rw [← hq] at HR
    have hq0 : p ≤ q := by omega
    have hq1 : q ≤ p + 50 := by omega
    have yN := HN.out.frozen 1
    obtain ⟨y, hy⟩ : ∃ y : Int, W.cell? ⟨w7.heap.size, j.toNat, none⟩ = some (.int .i64 y) := by
      rw [hI2.cell]
      have : j = 0 ∨ j = 1 ∨ j = 2 := by omega
      rcases this with rfl | rfl | rfl
      · exact ⟨_, rfl⟩
      · exact ⟨_, rfl⟩
      · exact ⟨_, rfl⟩
    have hjn : (j.toNat : Int) = j := by omega
    clear hq hI hI2 hR hO hR7 hG7 hZ7 hN7
    obtain ⟨z0, z1, z2, z3, z4, _⟩ := ok.five HZ.out
    obtain ⟨n0, n1, n2, n3, n4, _⟩ := ok.five HN.out
    have y0 := HZ.out.frozen 0
    have y1 := HZ.out.frozen 1
    have y2 := HZ.out.frozen 2
    have y3 := HZ.out.frozen 3
    have y4 := HZ.out.frozen 4
    clear HZ
    clear HN
    go_wp2
    refine bodyPost_ret (v := note (f) (y) (t) (1 + u) (s)) (by simp [results, Try.results40, go_sem, note, *]) rfl ⟨_, _, _, _, _, q, rfl, hsz, hq0, hq1, ?_, ?_⟩
    · exact rd_set (rd_set (rd_set (rd_set (rd_set (rd_set (HR.out) (by first | (simp; done) | (simp; omega)) _) (by first | (simp; done) | (simp; omega)) _) (by first | (simp; done) | (simp; omega)) _) (by first | (simp; done) | (simp; omega)) _) (by first | (simp; done) | (simp; omega)) _) (by first | (simp; done) | (simp; omega)) _
    · exact grown_set (grown_set (grown_set (grown_set (grown_set (grown_set (HG.out) (by first | (simp; done) | (simp; omega)) _) (by first | (simp; done) | (simp; omega)) _) (by first | (simp; done) | (simp; omega)) _) (by first | (simp; done) | (simp; omega)) _) (by first | (simp; done) | (simp; omega)) _) (by first | (simp; done) | (simp; omega)) _
  by_cases e2 : v = 2
  · subst e2
    have hI := Blk.new w7 3 #[.int .i64 (0), .int .i64 (999), .int .i64 (1000)]
    have hz7 := hR7.1.lt
    go_wp2_with fail
    refine (picked _ _ _ _ _ _ _ (rd_later hR7 ((Below.refl _ _).alloc (by omega) _)) (by omega) (by omega) (by omega)).mono ?_
    rintro e W ⟨j, rfl, j0, j1, hR, hO⟩
    have hI2 : Blk W w7.heap.size 3 #[.int .i64 (0), .int .i64 (999), .int .i64 (1000)] := (hO.2.1 _ (by omega)).trans hI
    have HZ := Lib.hid (blk_only (hZ7.alloc (.cells #[.int .i64 (0), .int .i64 (999), .int .i64 (1000)] 3)) hO hZb)
    have HN := Lib.hid (blk_only (hN7.alloc (.cells #[.int .i64 (0), .int .i64 (999), .int .i64 (1000)] 3)) hO hNb)
    have HR := Lib.hid hR
    have HG := Lib.hid (grown_trans (grown_trans hG7 (below_grown ((Below.refl _ _).alloc (Nat.le_refl _) (.cells #[.int .i64 (0), .int .i64 (999), .int .i64 (1000)] 3)) _)) (only_grown hO))
    obtain ⟨q, hq⟩ : ∃ q, q = p + 1 + 1 + 1 + 1 + 1 + 1 + 1 := ⟨_, rfl⟩
    rw [← hq] at HR
    have hq0 : p ≤ q := by omega
    have hq1 : q ≤ p + 50 := by omega
    have yN := HN.out.frozen 3
    obtain ⟨y, hy⟩ : ∃ y : Int, W.cell? ⟨w7.heap.size, j.toNat, none⟩ = some (.int .i64 y) := by
      rw [hI2.cell]
      have : j = 0 ∨ j = 1 ∨ j = 2 := by omega
      rcases this with rfl | rfl | rfl
      · exact ⟨_, rfl⟩
      · exact ⟨_, rfl⟩
      · exact ⟨_, rfl⟩
    have hjn : (j.toNat : Int) = j := by omega
    clear hq hI hI2 hR hO hR7 hG7 hZ7 hN7
    obtain ⟨z0, z1, z2, z3, z4, _⟩ := ok.five HZ.out
    obtain ⟨n0, n1, n2, n3, n4, _⟩ := ok.five HN.out
    have y0 := HZ.out.frozen 0
    have y1 := HZ.out.frozen 1
    have y2 := HZ.out.frozen 2
    have y3 := HZ.out.frozen 3
    have y4 := HZ.out.frozen 4
    clear HZ
    clear HN
    go_wp2
    refine bodyPost_ret (v := note (f) (1 + n) (t) (y) (s)) (by simp [results, Try.results40, go_sem, note, *]) rfl ⟨_, _, _, _, _, q, rfl, hsz, hq0, hq1, ?_, ?_⟩
    · exact rd_set (rd_set (rd_set (rd_set (rd_set (rd_set (HR.out) (by first | (simp; done) | (simp; omega)) _) (by first | (simp; done) | (simp; omega)) _) (by first | (simp; done) | (simp; omega)) _) (by first | (simp; done) | (simp; omega)) _) (by first | (simp; done) | (simp; omega)) _) (by first | (simp; done) | (simp; omega)) _
    · exact grown_set (grown_set (grown_set (grown_set (grown_set (grown_set (HG.out) (by first | (simp; done) | (simp; omega)) _) (by first | (simp; done) | (simp; omega)) _) (by first | (simp; done) | (simp; omega)) _) (by first | (simp; done) | (simp; omega)) _) (by first | (simp; done) | (simp; omega)) _) (by first | (simp; done) | (simp; omega)) _
  by_cases e3 : v = 3
  · subst e3
    go_wp2_with fail
    refine (text72 _ _ _ _ _ _ hR7 (by omega)).mono ?_
    rintro e W ⟨s', q, rfl, hsz', hq0', hq1', hR, hG⟩
    have HZ := Lib.hid (blk_grown hZ7 hG hZb)
    have HN := Lib.hid (blk_grown hN7 hG hNb)
    have HR := Lib.hid hR
    have HG := Lib.hid (grown_trans hG7 hG)
    have hq0 : p ≤ q := by omega
    have hq1 : q ≤ p + 50 := by omega
    have yN := HN.out.frozen 4
    clear hR hG hR7 hG7 hZ7 hN7 hsz
    have hsz := hsz'
    obtain ⟨z0, z1, z2, z3, z4, _⟩ := ok.five HZ.out
    obtain ⟨n0, n1, n2, n3, n4, _⟩ := ok.five HN.out
    have y0 := HZ.out.frozen 0
    have y1 := HZ.out.frozen 1
    have y2 := HZ.out.frozen 2
    have y3 := HZ.out.frozen 3
    have y4 := HZ.out.frozen 4
    clear HZ
    clear HN
    go_wp2
    refine bodyPost_ret (v := note f (1 + n) t (1 + u) s') (by simp [results, Try.results40, go_sem, note, *]) rfl ⟨_, _, _, _, _, q, rfl, hsz, hq0, hq1, ?_, ?_⟩
    · exact rd_set (rd_set (rd_set (rd_set (rd_set (rd_set (HR.out) (by first | (simp; done) | (simp; omega)) _) (by first | (simp; done) | (simp; omega)) _) (by first | (simp; done) | (simp; omega)) _) (by first | (simp; done) | (simp; omega)) _) (by first | (simp; done) | (simp; omega)) _) (by first | (simp; done) | (simp; omega)) _
    · exact grown_set (grown_set (grown_set (grown_set (grown_set (grown_set (HG.out) (by first | (simp; done) | (simp; omega)) _) (by first | (simp; done) | (simp; omega)) _) (by first | (simp; done) | (simp; omega)) _) (by first | (simp; done) | (simp; omega)) _) (by first | (simp; done) | (simp; omega)) _) (by first | (simp; done) | (simp; omega)) _
  by_cases e4 : v = 4
  · subst e4
    have hI := Blk.new w7 3 #[.int .i64 (-1), .int .i64 (4)]
    have hz7 := hR7.1.lt
    go_wp2_with fail
    refine (picked _ _ _ _ _ _ _ (rd_later hR7 ((Below.refl _ _).alloc (by omega) _)) (by omega) (by omega) (by omega)).mono ?_
    rintro e W ⟨j, rfl, j0, j1, hR, hO⟩
    have hI2 : Blk W w7.heap.size 3 #[.int .i64 (-1), .int .i64 (4)] := (hO.2.1 _ (by omega)).trans hI
    have HZ := Lib.hid (blk_only (hZ7.alloc (.cells #[.int .i64 (-1), .int .i64 (4)] 3)) hO hZb)
    have HN := Lib.hid (blk_only (hN7.alloc (.cells #[.int .i64 (-1), .int .i64 (4)] 3)) hO hNb)
    have HR := Lib.hid hR
    have HG := Lib.hid (grown_trans (grown_trans hG7 (below_grown ((Below.refl _ _).alloc (Nat.le_refl _) (.cells #[.int .i64 (-1), .int .i64 (4)] 3)) _)) (only_grown hO))
    obtain ⟨q, hq⟩ : ∃ q, q = p + 1 + 1 + 1 + 1 + 1 + 1 + 1 := ⟨_, rfl⟩
    rw [← hq] at HR
    have hq0 : p ≤ q := by omega
    have hq1 : q ≤ p + 50 := by omega
    have yN := HN.out.frozen 2
    obtain ⟨y, hy⟩ : ∃ y : Int, W.cell? ⟨w7.heap.size, j.toNat, none⟩ = some (.int .i64 y) := by
      rw [hI2.cell]
      have : j = 0 ∨ j = 1 := by omega
      rcases this with rfl | rfl
      · exact ⟨_, rfl⟩
      · exact ⟨_, rfl⟩
    have hjn : (j.toNat : Int) = j := by omega
    clear hq hI hI2 hR hO hR7 hG7 hZ7 hN7
    obtain ⟨z0, z1, z2, z3, z4, _⟩ := ok.five HZ.out
    obtain ⟨n0, n1, n2, n3, n4, _⟩ := ok.five HN.out
    have y0 := HZ.out.frozen 0
    have y1 := HZ.out.frozen 1
    have y2 := HZ.out.frozen 2
    have y3 := HZ.out.frozen 3
    have y4 := HZ.out.frozen 4
    clear HZ
    clear HN
    go_wp2
    refine bodyPost_ret (v := note (f) (1 + n) (y) (1 + u) (s)) (by simp [results, Try.results40, go_sem, note, *]) rfl ⟨_, _, _, _, _, q, rfl, hsz, hq0, hq1, ?_, ?_⟩
    · exact rd_set (rd_set (rd_set (rd_set (rd_set (rd_set (HR.out) (by first | (simp; done) | (simp; omega)) _) (by first | (simp; done) | (simp; omega)) _) (by first | (simp; done) | (simp; omega)) _) (by first | (simp; done) | (simp; omega)) _) (by first | (simp; done) | (simp; omega)) _) (by first | (simp; done) | (simp; omega)) _
    · exact grown_set (grown_set (grown_set (grown_set (grown_set (grown_set (HG.out) (by first | (simp; done) | (simp; omega)) _) (by first | (simp; done) | (simp; omega)) _) (by first | (simp; done) | (simp; omega)) _) (by first | (simp; done) | (simp; omega)) _) (by first | (simp; done) | (simp; omega)) _) (by first | (simp; done) | (simp; omega)) _
  have HZ := Lib.hid hZ7
  have HN := Lib.hid hN7
  have HR := Lib.hid hR7
  have HG := Lib.hid hG7
  obtain ⟨q, hq⟩ : ∃ q, q = p + 1 + 1 + 1 + 1 + 1 + 1 := ⟨_, rfl⟩
  rw [← hq] at HR
  have hq0 : p ≤ q := by omega
  have hq1 : q ≤ p + 50 := by omega
  have k0 : (v == 0) = false := by simpa using e0
  have k1 : (v == 1) = false := by simpa using e1
  have k2 : (v == 2) = false := by simpa using e2
  have k3 : (v == 3) = false := by simpa using e3
  have k4 : (v == 4) = false := by simpa using e4
  clear hq hR7 hG7 hZ7 hN7 e0 e1 e2 e3 e4
  obtain ⟨z0, z1, z2, z3, z4, _⟩ := ok.five HZ.out
  obtain ⟨n0, n1, n2, n3, n4, _⟩ := ok.five HN.out
  have y0 := HZ.out.frozen 0
  have y1 := HZ.out.frozen 1
  have y2 := HZ.out.frozen 2
  have y3 := HZ.out.frozen 3
  have y4 := HZ.out.frozen 4
  clear HZ
  clear HN
  go_wp2
  refine bodyPost_ret (v := note f (1 + n) t (1 + u) s) (by simp [results, Try.results40, go_sem, note, *]) rfl ⟨_, _, _, _, _, q, rfl, hsz, hq0, hq1, ?_, ?_⟩
  · exact rd_set (rd_set (rd_set (rd_set (rd_set (HR.out) (by first | (simp; done) | (simp; omega)) _) (by first | (simp; done) | (simp; omega)) _) (by first | (simp; done) | (simp; omega)) _) (by first | (simp; done) | (simp; omega)) _) (by first | (simp; done) | (simp; omega)) _
  · exact grown_set (grown_set (grown_set (grown_set (grown_set (HG.out) (by first | (simp; done) | (simp; omega)) _) (by first | (simp; done) | (simp; omega)) _) (by first | (simp; done) | (simp; omega)) _) (by first | (simp; done) | (simp; omega)) _) (by first | (simp; done) | (simp; omega)) _
end Go.Proofs.Ytgihbilpimempaa.dr
