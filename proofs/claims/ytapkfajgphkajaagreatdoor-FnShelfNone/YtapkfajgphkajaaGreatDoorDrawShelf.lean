/-
  Contract of spec.l72Shelf: whatever the code, a shelf whose log has at most 6000 bytes; nothing old is turned but the reader.
-/
import Derived.Test.YtapkfajgphkajaaGreatDoorDrawRec
import Derived.Test.YtapkfajgphkajaaGreatDoorSShAdd
import Derived.Test.YtapkfajgphkajaaGreatDoorShForce
namespace Go.Proofs.YtapkfajgphkajaaGreatDoor.dr
open Go.ChangeShapes Go.WideShapes Go.ChangeAt Go.RowKit
open Go.Proofs.YtapkfajgphkajaaGreatDoor.wd Go.Proofs.YtapkfajgphkajaaGreatDoor.pk Go.Proofs.YtapkfajgphkajaaGreatDoor.cp Go.Proofs.YtapkfajgphkajaaGreatDoor.ow Go.Proofs.YtapkfajgphkajaaGreatDoor.ok Go.Proofs.YtapkfajgphkajaaGreatDoor.dc Go.Proofs.YtapkfajgphkajaaGreatDoor.sh

/-- while a shelf is drawn: the result's block, the shelf so far, the reader -/
structure Sh (w : World) (b : Nat) (A : Option Addr) (len cap : Nat) (W : World) (s : ByteArray) (f q : Int) : Prop where
  res : Blk W w.heap.size 24 #[.string ⟨#[]⟩, .int .i64 0]
  loc : Blk W (w.heap.size + 1) 24 #[.string s, .int .i64 f]
  rd : Rd W b A len cap q
  gr : w.grownBy W (some b)
  hb : b < w.heap.size
section
variable {w W W' : World} {b : Nat} {A : Option Addr} {len cap : Nat} {s : ByteArray} {f q : Int}
theorem Sh.new (h : Rd w b A len cap q) : Sh w b A len cap ((w.alloc (.cells #[.string ⟨#[]⟩, .int .i64 0] 24)).alloc (.cells #[.string ⟨#[]⟩, .int .i64 0] 24)) ⟨#[]⟩ 0 q := by
  have hb := h.1.lt
  have k1 := Blk.new (w.alloc (.cells #[.string ⟨#[]⟩, .int .i64 0] 24)) 24 #[.string ⟨#[]⟩, .int .i64 0]
  simp only [World.size_alloc] at k1
  have hB : ∀ B, B ≤ w.heap.size → Below B w ((w.alloc (.cells #[.string ⟨#[]⟩, .int .i64 0] 24)).alloc (.cells #[.string ⟨#[]⟩, .int .i64 0] 24)) := fun B hB => ((Below.refl B w).alloc hB _).alloc (by simp; omega) _
  exact ⟨(Blk.new w _ _).alloc _, k1, rd_later h (hB _ (by omega)), below_grown (hB _ (Nat.le_refl _)) _, hb⟩
theorem Sh.later (h : Sh w b A len cap W s f q) (hB : Below W.heap.size W W') : Sh w b A len cap W' s f q := by
  have := h.rd.1.lt
  exact ⟨h.res.below hB h.res.lt, h.loc.below hB h.loc.lt, rd_later h.rd (hB.mono (by omega)), grown_trans h.gr (below_grown hB _), h.hb⟩
theorem Sh.grown (h : Sh w b A len cap W s f q) (hG : W.grownBy W' (some b)) {q' : Int} (hR : Rd W' b A len cap q') : Sh w b A len cap W' s f q' := by
  have := h.hb
  exact ⟨blk_grown h.res hG (by omega), blk_grown h.loc hG (by omega), hR, grown_trans h.gr hG, h.hb⟩
theorem Sh.rdd (h : Sh w b A len cap W s f q) : Rd W.drew b A len cap q := h.rd
theorem Sh.drewN (h : Sh w b A len cap W s f q) (n : Nat) : Sh w b A len cap (W.drewN n) s f q := ⟨h.res, h.loc, h.rd, ⟨h.gr.os, h.gr.tape, h.gr.output, h.gr.size, h.gr.block⟩, h.hb⟩
theorem Sh.cells (h : Sh w b A len cap W s f q) : W.cell? ⟨w.heap.size + 1, 0, none⟩ = some (.string s) ∧ W.cell? ⟨w.heap.size + 1, 1, none⟩ = some (.int .i64 f) ∧ W.frozen? ⟨w.heap.size + 1, 0, none⟩ = false ∧ W.frozen? ⟨w.heap.size + 1, 1, none⟩ = false := ⟨h.loc.cell 0, h.loc.cell 1, h.loc.frozen 0, h.loc.frozen 1⟩
theorem Sh.rcells (h : Sh w b A len cap W s f q) : W.cell? ⟨w.heap.size, 0, none⟩ = some (.string ⟨#[]⟩) ∧ W.cell? ⟨w.heap.size, 1, none⟩ = some (.int .i64 0) ∧ W.frozen? ⟨w.heap.size, 0, none⟩ = false ∧ W.frozen? ⟨w.heap.size, 1, none⟩ = false := ⟨h.res.cell 0, h.res.cell 1, h.res.frozen 0, h.res.frozen 1⟩
theorem Sh.put0 (h : Sh w b A len cap W s f q) (a : ByteArray) : Sh w b A len cap (W.setCell ⟨w.heap.size + 1, 0, none⟩ (.string a)) a f q :=
  ⟨h.res.far (p := ⟨w.heap.size + 1, 0, none⟩) (by simp) _, h.loc.put 0 _, rd_set h.rd (by have := h.hb; simp; omega) _, grown_set h.gr (by simp) _, h.hb⟩
theorem Sh.put1 (h : Sh w b A len cap W s f q) (g : Int) : Sh w b A len cap (W.setCell ⟨w.heap.size + 1, 1, none⟩ (.int .i64 g)) s g q :=
  ⟨h.res.far (p := ⟨w.heap.size + 1, 1, none⟩) (by simp) _, h.loc.put 1 _, rd_set h.rd (by have := h.hb; simp; omega) _, grown_set h.gr (by simp) _, h.hb⟩
end
def ShelfPost (w : World) (b : Nat) (A : Option Addr) (len cap : Nat) (p : Int) (e : Ending) (w' : World) : Prop :=
  ∃ (s : ByteArray) (f p' : Int), e = .returned (shv s f) ∧ s.size ≤ 6000 ∧ p ≤ p' ∧ p' ≤ p + 1000 ∧ Rd w' b A len cap p' ∧ w.grownBy w' (some b)
theorem addS_size (s : ByteArray) (f : Int) (x : ByteArray) : (addS s f x).size ≤ 2400 := by
  unfold addS
  by_cases h : okSh s f = true
  · rw [if_pos h]
    by_cases h2 : fits s x = true
    · rw [if_pos h2, size_app]; exact (fits_iff.1 h2).2.2
    · rw [if_neg h2]; exact ok_small h
  · rw [if_neg h]; simp [ByteArray.size]
theorem forceS_size (s : ByteArray) (f : Int) : (forceS s f).size ≤ 2400 := by
  unfold forceS
  by_cases h : okSh s f = true
  · rw [if_pos h]; exact ok_small h
  · rw [if_neg h]; simp [ByteArray.size]
theorem arr3 (a b c : Int) {j : Int} (h0 : 0 ≤ j) (h1 : j < 3) : ∃ y : Int, (#[.int .i64 a, .int .i64 b, .int .i64 c] : Array Value)[j.toNat]? = some (.int .i64 y) := by
  have : j = 0 ∨ j = 1 ∨ j = 2 := by omega
  rcases this with rfl | rfl | rfl
  · exact ⟨a, rfl⟩
  · exact ⟨b, rfl⟩
  · exact ⟨c, rfl⟩
theorem undrew {W W' : World} {r : Option Nat} (h : W.drew.grownBy W' r) : W.grownBy W' r := ⟨h.os, h.tape, h.output, h.size, h.block⟩

def ManyIPost (w : World) (e : Ending) (w' : World) : Prop := ∃ s : ByteArray, e = .returned (.string s) ∧ 58 ≤ s.size ∧ s.size ≤ 60 ∧ w = w'
theorem manyI (s : ByteArray) (hs : s.size = 1) (n : Int) (h0 : 58 ≤ n) (h1 : n ≤ 60) (w : World) : Calls Tryz.prog 33 #[.string s, .int .i64 n] w (ManyIPost w) := by
  obtain ⟨m, rfl⟩ := Int.eq_ofNat_of_zero_le (show (0 : Int) ≤ n by omega)
  refine (many_any s hs m (by omega) w).mono ?_
  rintro e w' ⟨x, rfl, hx, rfl⟩
  exact ⟨x, rfl, by omega, by omega, rfl⟩

/-- behind the draw: the shelf is handed back -/
theorem sh_ret {w W : World} {b : Nat} {A : Option Addr} {len cap : Nat} {s : ByteArray} {f q : Int} (h : Sh w b A len cap W s f q) :
    ((W.setCell ⟨w.heap.size, 0, none⟩ (.string s)).setCell ⟨w.heap.size, 1, none⟩ (.int .i64 f)).cell? ⟨w.heap.size, 0, none⟩ = some (.string s) ∧
    ((W.setCell ⟨w.heap.size, 0, none⟩ (.string s)).setCell ⟨w.heap.size, 1, none⟩ (.int .i64 f)).cell? ⟨w.heap.size, 1, none⟩ = some (.int .i64 f) ∧
    Rd ((W.setCell ⟨w.heap.size, 0, none⟩ (.string s)).setCell ⟨w.heap.size, 1, none⟩ (.int .i64 f)) b A len cap q ∧ w.grownBy ((W.setCell ⟨w.heap.size, 0, none⟩ (.string s)).setCell ⟨w.heap.size, 1, none⟩ (.int .i64 f)) (some b) := by
  have hb := h.hb
  have hB := (h.res.put 0 (.string s)).put 1 (.int .i64 f)
  exact ⟨hB.cell 0, hB.cell 1, rd_set (rd_set h.rd (by simpa using hb) _) (by simpa using hb) _, grown_set (grown_set h.gr (by simp) _) (by simp) _⟩

set_option maxRecDepth 100000 in
set_option maxHeartbeats 8000000 in
theorem shelf72 (w : World) (b : Nat) (A : Option Addr) (len cap : Nat) (p : Int) (h : Rd w b A len cap p) (hp : p ≤ 600000) :
    Calls Tryz.prog 22 #[.pointer (some ⟨b, 0, none⟩)] w (ShelfPost w b A len cap p) := by
  have hS0 := Sh.new h
  clear h
  go_enter Tryz.func22, Tryz.ntmps22
  go_wp2_with fail
  generalize (w.alloc (.cells #[.string ⟨#[]⟩, .int .i64 0] 24)).alloc (.cells #[.string ⟨#[]⟩, .int .i64 0] 24) = V at hS0 ⊢
  refine (picked _ _ _ _ _ _ _ hS0.rd (by omega) (by omega) (by omega)).mono ?_
  rintro e w1 ⟨v, rfl, v0, v1, hR1, hO1⟩
  have HS := Lib.hid (hS0.grown (only_grown hO1) hR1)
  obtain ⟨v, rfl⟩ := Int.eq_ofNat_of_zero_le v0
  clear hS0 hR1 hO1
  go_wp2
  go_loopw [4] (fun i wr => ∃ (r : Nat) (s : ByteArray) (f q : Int), i = .int .i64 r ∧ r ≤ 8 ∧ s.size ≤ 2400 ∧ p ≤ q ∧ q + 61 * r ≤ p + 600 ∧ Hid (Sh w b A len cap wr s f q)) (fun i _ => (intOf i).toNat)
  case atStart => exact ⟨v, ⟨#[]⟩, 0, p + 1, rfl, by omega, by decide, by omega, by omega, HS.out⟩
  case round =>
    obtain ⟨r, s, f, q, rfl, hr, hs, hq0, hq1, HS1⟩ := hrel
    clear HS
    by_cases hr0 : 0 < r
    · obtain ⟨c0, c1, f0, f1⟩ := HS1.out.cells
      go_wp2_with fail
      go_region_with ((first | (go_at_call 23; refine (rec72 _ b A len cap q HS1.out.rdd (by omega)).mono ?_; rintro e W1 ⟨x, q', rfl, hx, hq2, hq3, hR1, hG1⟩; have HS2 := Lib.hid (HS1.out.grown (by first | exact hG1 | exact undrew hG1) hR1); obtain ⟨d0, d1, d2, d3⟩ := HS2.out.cells) | (go_at_call 9; refine (sadd_any s f x _ (by omega)).mono ?_; rintro e W2 ⟨rfl, hB2⟩; have HS3 := Lib.hid (HS2.out.later (by first | exact hB2 | exact ⟨hB2.os, hB2.tape, hB2.output, hB2.size, hB2.block⟩)); obtain ⟨g0, g1, g2, g3⟩ := HS3.out.cells)))
      all_goals
        have HS4 := Lib.hid ((HS3.out.put0 (addS s f x)).put1 (addF s f))
        have hs4 := addS_size s f x
        generalize addS s f x = s4 at HS4 hs4
        generalize addF s f = f4 at HS4
        generalize (W2.setCell ⟨w.heap.size + 1, 0, none⟩ (.string s4)).setCell ⟨w.heap.size + 1, 1, none⟩ (.int .i64 f4) = V4 at HS4
        clear c0 c1 f0 f1 d0 d1 d2 d3 g0 g1 g2 g3 hB2 hG1 hR1 HS1 HS2 HS3
        go_wp2_with fail
        refine (picked _ _ _ _ _ _ _ HS4.out.rd (by omega) (by omega) (by omega)).mono ?_
        rintro e W5 ⟨z, rfl, z0, z1, hR5, hO5⟩
        have HS5 := Lib.hid (HS4.out.grown (only_grown hO5) hR5)
        clear hR5 hO5
        by_cases ez : z = 0
        · subst ez
          obtain ⟨c0, c1, f0, f1⟩ := HS5.out.cells
          go_wp2_with fail
          refine (sforce_of (fun _ => True) (fun _ _ _ _ => trivial) s4 f4 (fun V _ => sok_any s4 f4 V (by omega)) _ trivial).mono ?_
          rintro e W6 ⟨rfl, hB6⟩
          have HS6 := Lib.hid (HS5.out.later hB6)
          obtain ⟨d0, d1, d2, d3⟩ := HS6.out.cells
          have HS7 := Lib.hid ((HS6.out.put0 (forceS s4 f4)).put1 (forceF s4 f4))
          have hs7 := forceS_size s4 f4
          generalize forceS s4 f4 = s7 at HS7 hs7
          generalize forceF s4 f4 = f7 at HS7
          clear hB6 c0 c1 f0 f1
          go_wp2
          go_roundw
          case rel => exact ⟨r - 1, s7, f7, q' + 1, by go_num, by omega, hs7, by omega, by omega, HS7.out⟩
          case measure => simp [intOf]; omega
        · have kz : (z == 0) = false := by simpa using ez
          go_wp2
          go_roundw
          case rel => exact ⟨r - 1, s4, f4, q' + 1, by go_num, by omega, hs4, by omega, by omega, HS5.out⟩
          case measure => simp [intOf]; omega
    · obtain rfl : r = 0 := by omega
      go_wp2_with fail
      refine (picked _ _ _ _ _ _ _ HS1.out.rd (by omega) (by omega) (by omega)).mono ?_
      rintro e W2 ⟨z, rfl, z0, z1, hR2, hO2⟩
      have HS2 := Lib.hid (HS1.out.grown (only_grown hO2) hR2)
      obtain ⟨c0, c1, f0, f1⟩ := HS2.out.cells
      obtain ⟨r0, r1, rf0, rf1⟩ := HS2.out.rcells
      clear hR2 hO2 HS1
      by_cases e0 : z = 0
      · subst e0
        go_wp2_with fail
        refine (bend72 _ _ _ _ _ _ HS2.out.rd (by omega) s (by omega)).mono ?_
        rintro e W3 ⟨y, q3, rfl, hy, hq2, hq3, hR3, hG3⟩
        have HS3 := Lib.hid (HS2.out.grown hG3 hR3)
        obtain ⟨d0, d1, d2, d3⟩ := HS3.out.cells
        have HS4 := Lib.hid (HS3.out.put0 y)
        obtain ⟨r0, r1, rf0, rf1⟩ := HS3.out.rcells
        clear hR3 hG3 c0 c1 f0 f1
        go_wp2
        obtain ⟨x0, x1, xr, xg⟩ := sh_ret HS4.out
        exact bodyPost_ret (v := shv y f) (by simp [results, Tryz.results22, go_sem, x0, x1]) rfl ⟨y, f, q3, rfl, by omega, by omega, by omega, xr, xg⟩
      by_cases e1 : z = 1
      · subst e1
        have b0 : IntKind.i64.wrap ((s.size : Int) + 1) = (s.size : Int) + 1 := by rw [IntKind.wrap_i64]; omega
        go_wp2_with fail
        have HP1 := Lib.hid (picked W2.drew b A len cap (q + 1) ((s.size : Int) + 1) HS2.out.rdd (by omega) (by omega) (by omega))
        go_region_with ((first | (go_at_call 32; refine HP1.out.mono ?_; clear HP1; rintro e W3 ⟨j, rfl, j0, j1, hR3, hO3⟩; have HS3 := Lib.hid (HS2.out.grown (undrew (only_grown hO3)) hR3); obtain ⟨d0, d1, d2, d3⟩ := HS3.out.cells; clear hR3 hO3) | (go_at_call 32; refine (picked _ b A len cap (q + 1 + 1) 3 (by first | exact HS3.out.rd | exact rd_later HS3.out.rd ((Below.refl _ _).alloc (by have := HS3.out.rd.1.lt; omega) _)) (by omega) (by omega) (by omega)).mono ?_; rintro e W4 ⟨j2, rfl, j3, j4, hR4, hO4⟩; have HS4 := Lib.hid ((show Sh w b A len cap _ s f (q + 1 + 1) by first | exact HS3.out | exact HS3.out.later ((Below.refl _ _).alloc (Nat.le_refl _) _)).grown (only_grown hO4) hR4); obtain ⟨g0, g1, g2, g3⟩ := HS4.out.cells; have hl4 := HS4.out.loc.lt; obtain ⟨y, hy⟩ := arr3 (-1) ((s.size : Int) + 1) j j3 j4; first | (have hc4 := ((blk_only (Blk.new W3 3 #[.int .i64 (-1), .int .i64 ((s.size : Int) + 1), .int .i64 j]) hO4 (by have := HS3.out.rd.1.lt; omega)).cell j2.toNat).trans hy) | (have hc4 := ((Blk.new W4 3 #[.int .i64 (-1), .int .i64 ((s.size : Int) + 1), .int .i64 j]).cell j2.toNat).trans hy))))
        all_goals first
          | (have HS5 := Lib.hid ((HS4.out.put1 y).later ((Below.refl _ _).alloc (Nat.le_refl _) (.cells #[.int .i64 (-1), .int .i64 ((s.size : Int) + 1), .int .i64 j] 3))); obtain ⟨e0, e1, e2, e3⟩ := HS5.out.cells; obtain ⟨r0, r1, rf0, rf1⟩ := HS5.out.rcells; clear hR4 hO4 HS4 HS3 HS2 c0 c1 f0 f1 d0 d1 d2 d3 g0 g1 g2 g3 hy hc4; generalize (W4.setCell ⟨w.heap.size + 1, 1, none⟩ (.int .i64 y)).alloc (.cells #[.int .i64 (-1), .int .i64 ((s.size : Int) + 1), .int .i64 j] 3) = W5 at HS5 e0 e1 e2 e3 r0 r1 rf0 rf1 ⊢; go_wp2; obtain ⟨x0, x1, xr, xg⟩ := sh_ret HS5.out; exact bodyPost_ret (v := shv s y) (by simp [results, Tryz.results22, go_sem, x0, x1]) rfl ⟨s, y, q + 1 + 1 + 1, rfl, by omega, by omega, by omega, xr, xg⟩)
          | (have HS5 := Lib.hid (HS4.out.put1 y); obtain ⟨e0, e1, e2, e3⟩ := HS5.out.cells; obtain ⟨r0, r1, rf0, rf1⟩ := HS5.out.rcells; clear hR4 hO4 HS4 HS3 HS2 c0 c1 f0 f1 d0 d1 d2 d3 g0 g1 g2 g3 hy hc4; generalize W4.setCell ⟨w.heap.size + 1, 1, none⟩ (.int .i64 y) = W5 at HS5 e0 e1 e2 e3 r0 r1 rf0 rf1 ⊢; go_wp2; obtain ⟨x0, x1, xr, xg⟩ := sh_ret HS5.out; exact bodyPost_ret (v := shv s y) (by simp [results, Tryz.results22, go_sem, x0, x1]) rfl ⟨s, y, q + 1 + 1 + 1, rfl, by omega, by omega, by omega, xr, xg⟩)
      by_cases e2 : z = 2
      · subst e2
        clear c0 c1 f0 f1 r0 r1 rf0 rf1
        go_wp2
        go_loopw [5] (fun i wr => ∃ (k : Nat) (s' : ByteArray) (q' : Int), i = .int .i64 k ∧ k ≤ 40 ∧ s'.size ≤ 2400 + 64 * k ∧ p ≤ q' ∧ q' ≤ p + 700 + 2 * k ∧ Hid (Sh w b A len cap wr s' f q')) (fun i _ => 41 - (intOf i).toNat)
        case atStart => exact ⟨0, s, q + 1, rfl, by omega, by omega, by omega, by omega, HS2.out⟩
        case round =>
          obtain ⟨k, s', q', rfl, hk, hs', hq2, hq3, HS3⟩ := hrel
          clear HS2
          go_wp2_with fail
          refine (picked _ _ _ _ _ _ _ HS3.out.rd (by omega) (by omega) (by omega)).mono ?_
          rintro e W4 ⟨x, rfl, x0, x1, hR4, hO4⟩
          have HS4 := Lib.hid (HS3.out.grown (only_grown hO4) hR4)
          obtain ⟨c0, c1, f0, f1⟩ := HS4.out.cells
          clear hR4 hO4 HS3
          by_cases hlt : (k : Int) < 38 + x
          · go_wp2_with fail
            go_region_with ((first | (go_at_call 32; refine (picked _ b A len cap (q' + 1) 3 HS4.out.rdd (by omega) (by omega) (by omega)).mono ?_; rintro e W5 ⟨j, rfl, j0, j1, hR5, hO5⟩; have HS5 := Lib.hid (HS4.out.grown (undrew (only_grown hO5)) hR5); obtain ⟨d0, d1, d2, d3⟩ := HS5.out.cells; have bj : IntKind.i64.wrap (58 + j) = 58 + j := (by rw [IntKind.wrap_i64]; omega); clear hR5 hO5) | (go_at_call 33; refine (manyI ⟨#[102]⟩ rfl (58 + j) (by omega) (by omega) _).mono ?_; rintro e W6 ⟨y, rfl, hy0, hy1, rfl⟩) | (go_at_call 25; refine (srec_any y (by omega) _).mono ?_; rintro e W7 ⟨rfl, hB7⟩; have HS7 := Lib.hid (HS5.out.later hB7); obtain ⟨g0, g1, g2, g3⟩ := HS7.out.cells; have hst := stS_size (x := y) ⟨by omega, by omega⟩; obtain ⟨z, ez, qz, rz⟩ := adds s' (stS y) (by omega))))
            all_goals
              have HS8 := Lib.hid (HS7.out.put0 (s' ++ stS y))
              have hz8 : (s' ++ stS y).size ≤ 2400 + 64 * (k + 1) := by rw [size_app]; omega
              generalize s' ++ stS y = z8 at HS8 hz8
              clear c0 c1 f0 f1 d0 d1 d2 d3 g0 g1 g2 g3 hB7 HS4 HS5 HS7
              go_wp2
              go_roundw
              case rel => exact ⟨k + 1, z8, q' + 1 + 1, by go_num, by omega, hz8, by omega, by omega, HS8.out⟩
              case measure => simp [intOf]; omega
          · obtain ⟨r0, r1, rf0, rf1⟩ := HS4.out.rcells
            have hlt' : ¬ ((k : Int) < 38 + x) := hlt
            go_wp2
            obtain ⟨x0, x1, xr, xg⟩ := sh_ret HS4.out
            exact bodyPost_ret (v := shv s' f) (by simp [results, Tryz.results22, go_sem, x0, x1]) rfl ⟨s', f, q' + 1, rfl, by omega, by omega, by omega, xr, xg⟩
      have k0 : (z == 0) = false := by simpa using e0
      have k1 : (z == 1) = false := by simpa using e1
      have k2 : (z == 2) = false := by simpa using e2
      go_wp2
      obtain ⟨x0, x1, xr, xg⟩ := sh_ret HS2.out
      exact bodyPost_ret (v := shv s f) (by simp [results, Tryz.results22, go_sem, x0, x1]) rfl ⟨s, f, q + 1, rfl, by omega, by omega, by omega, xr, xg⟩
end Go.Proofs.YtapkfajgphkajaaGreatDoor.dr
