/-
  Contract of spec.l72Rec: whatever the code, a text of at most 100 bytes; nothing old is turned but the reader.
-/
import Derived.Test.YtapkfajgphkajaaGreatDoorDrawBend
import Derived.Test.YtapkfajgphkajaaGreatDoorSRec
namespace Go.Proofs.YtapkfajgphkajaaGreatDoor.dr
open Go.ChangeShapes Go.WideShapes Go.ChangeAt Go.RowKit
open Go.Proofs.YtapkfajgphkajaaGreatDoor.wd Go.Proofs.YtapkfajgphkajaaGreatDoor.pk Go.Proofs.YtapkfajgphkajaaGreatDoor.cp Go.Proofs.YtapkfajgphkajaaGreatDoor.ow Go.Proofs.YtapkfajgphkajaaGreatDoor.ok Go.Proofs.YtapkfajgphkajaaGreatDoor.dc

def OfMPost (M : Nat) (w : World) (b : Nat) (A : Option Addr) (len cap : Nat) (p : Int) (e : Ending) (w' : World) : Prop :=
  ∃ s : ByteArray, e = .returned (.string s) ∧ s.size ≤ M ∧ Rd w' b A len cap (p + 1) ∧ Only b w w'

theorem ofM_any (M : Nat) (w : World) (b : Nat) (A : Option Addr) (len cap : Nat) (p : Int) (h : Rd w b A len cap p) (hp : p ≤ 1000000) (g n : Nat) (cs : Array Value) (hg : Blk w g 9 cs) (hgb : g ≠ b) (hn : 1 ≤ n) (hn' : n ≤ 100)
    (hc : ∀ i, i < n → ∃ s : ByteArray, cs[i]? = some (.string s) ∧ s.size ≤ M) :
    Calls Tryz.prog 38 #[.pointer (some ⟨b, 0, none⟩), .slice (some ⟨g, 0, none⟩) n n] w (OfMPost M w b A len cap p) := by
  have HC := Lib.hid hc
  clear hc
  go_enter Tryz.func38, Tryz.ntmps38
  go_wp2_with fail
  refine (picked _ _ _ _ _ _ _ h hp (by omega) (by omega)).mono ?_
  rintro e w1 ⟨v, rfl, v0, v1, hR, hO⟩
  obtain ⟨i, rfl⟩ := Int.eq_ofNat_of_zero_le v0
  obtain ⟨s, hs, hz⟩ := HC.out i (by omega)
  have hg1 : Blk w1 g 9 cs := (hO.2.1 g hgb).trans hg
  have c := (hg1.cell i).trans hs
  have hi : i < n := by omega
  have HR := Lib.hid hR
  have HO := Lib.hid hO
  clear hR hO hs hg1 hg h
  go_wp2
  go_ret
  exact ⟨s, rfl, hz, HR.out, HO.out⟩
theorem fewM (M : Nat) (w : World) (b : Nat) (A : Option Addr) (len cap : Nat) (p : Int) (h : Rd w b A len cap p) (hp : p ≤ 1000000) (cs : Array Value) (n : Nat) (hn : 1 ≤ n) (hn' : n ≤ 100)
    (hc : ∀ i, i < n → ∃ s : ByteArray, cs[i]? = some (.string s) ∧ s.size ≤ M) :
    Calls Tryz.prog 38 #[.pointer (some ⟨b, 0, none⟩), .slice (some ⟨w.heap.size, 0, none⟩) n n] (w.alloc (.cells cs 9)) (OfMPost M (w.alloc (.cells cs 9)) b A len cap p) := by
  have hb := h.1.lt
  exact ofM_any M _ b A len cap p (rd_later h ((Below.refl _ _).alloc (by omega) _)) hp w.heap.size n cs (Blk.new w _ _) (by omega) hn hn' hc

def SmallPost (m : Nat) (w : World) (e : Ending) (w' : World) : Prop := ∃ s : ByteArray, e = .returned (.string s) ∧ s.size ≤ m ∧ Below w.heap.size w w'

theorem decS (n : Int) (h0 : 0 ≤ n) (h1 : n ≤ 9999) (w : World) : Calls Tryz.prog 36 #[.int .i64 n] w (SmallPost 4 w) := by
  refine (dec_any n h0 h1 w).mono ?_
  rintro e w' ⟨rfl, hB⟩
  refine ⟨_, rfl, ?_, hB⟩
  obtain ⟨m, rfl⟩ := Int.eq_ofNat_of_zero_le h0
  rw [str_size]
  exact sh.dl_len4' (by omega)

theorem three_any (a b c : Int) (a0 : 0 ≤ a) (a1 : a ≤ 9999) (b0 : 0 ≤ b) (b1 : b ≤ 9999) (c0 : 0 ≤ c) (c1 : c ≤ 9999) (w : World) :
    Calls Tryz.prog 37 #[.int .i64 a, .int .i64 b, .int .i64 c] w (SmallPost 20 w) := by
  have q1 : (⟨#[32]⟩ : ByteArray).size = 1 := rfl
  go_enter Tryz.func37, Tryz.ntmps37
  go_wp2_with fail
  refine (decS a a0 a1 _).mono ?_
  rintro e w1 ⟨x, rfl, hx, hB1⟩
  obtain ⟨y1, ey1, qy1, ry1⟩ := adds x ⟨#[32]⟩ (by omega)
  clear ey1
  go_wp2_with fail
  refine (decS b b0 b1 _).mono ?_
  rintro e w2 ⟨x2, rfl, hx2, hB2⟩
  obtain ⟨y2, ey2, qy2, ry2⟩ := adds y1 x2 (by omega)
  obtain ⟨y3, ey3, qy3, ry3⟩ := adds y2 ⟨#[32]⟩ (by omega)
  have hB3 := hB1.trans (hB2.mono hB1.size)
  clear ey2 ey3 hB1 hB2
  go_wp2_with fail
  refine (decS c c0 c1 _).mono ?_
  rintro e w3 ⟨x3, rfl, hx3, hB4⟩
  obtain ⟨y4, ey4, qy4, ry4⟩ := adds y3 x3 (by omega)
  have HB := Lib.hid (hB3.trans (hB4.mono hB3.size))
  clear ey4 hB3 hB4
  have hy : y4.size ≤ 20 := by omega
  clear qy1 qy2 qy3 qy4
  go_wp2
  go_ret
  exact ⟨y4, rfl, hy, HB.out⟩

def RecPost (w : World) (b : Nat) (A : Option Addr) (len cap : Nat) (p : Int) (e : Ending) (w' : World) : Prop :=
  ∃ (s : ByteArray) (p' : Int), e = .returned (.string s) ∧ s.size ≤ 100 ∧ p ≤ p' ∧ p' ≤ p + 60 ∧ Rd w' b A len cap p' ∧ w.grownBy w' (some b)
theorem fourteen {i : Nat} (h : i < 14) : i = 0 ∨ i = 1 ∨ i = 2 ∨ i = 3 ∨ i = 4 ∨ i = 5 ∨ i = 6 ∨ i = 7 ∨ i = 8 ∨ i = 9 ∨ i = 10 ∨ i = 11 ∨ i = 12 ∨ i = 13 := by omega
theorem nw_size (f n t u : Int) (s : ByteArray) : (nw f n t u s).size ≤ 40 := by
  cases h : okN f n t u s with
  | false => rw [nw_f h, str_size]; simp
  | true =>
    rw [nw_t h]
    obtain ⟨⟨_, _⟩, ⟨_, _⟩, ⟨_, _⟩, ⟨_, _⟩, ⟨_, _⟩, _⟩ := okN_parts h
    have a1 := dl_len (n := f) (by omega)
    have a2 := dl_len (n := n) (by omega)
    have a3 := dl_len (n := t) (by omega)
    have a4 := dl_len (n := u) (by omega)
    have a5 := Lib.size_eq s
    unfold dc.wr
    rw [str_size]
    unfold wl
    simp only [List.length_append, List.length_cons]
    omega

set_option maxRecDepth 100000 in
set_option maxHeartbeats 4000000 in
theorem rec72 (w : World) (b : Nat) (A : Option Addr) (len cap : Nat) (p : Int) (h : Rd w b A len cap p) (hp : p ≤ 700000) :
    Calls Tryz.prog 23 #[.pointer (some ⟨b, 0, none⟩)] w (RecPost w b A len cap p) := by
  have hb := h.1.lt
  go_enter Tryz.func23, Tryz.ntmps23
  go_wp2_with fail
  refine (picked _ _ _ _ _ _ _ h (by omega) (by omega) (by omega)).mono ?_
  rintro e w1 ⟨v, rfl, v0, v1, hR, hO⟩
  have hg1 := only_grown hO
  have hb1 := hR.1.lt
  clear hO h
  by_cases e0 : v = 0
  · subst e0
    go_wp2_with fail
    refine (picked _ _ _ _ _ _ _ hR (by omega) (by omega) (by omega)).mono ?_
    rintro e w2 ⟨n, rfl, n0, n1, hR2, hO2⟩
    have hg2 := grown_trans hg1 (only_grown hO2)
    have hb2 := hR2.1.lt
    clear hO2 hR hg1
    go_wp2_with fail
    refine (decS n n0 (by omega) _).mono ?_
    rintro e w3 ⟨x, rfl, hx, hB⟩
    have HR := Lib.hid (rd_later hR2 (hB.mono (by omega)))
    have HG := Lib.hid (grown_trans hg2 (below_grown hB _))
    clear hR2 hg2 hB
    have q5 : (⟨#[116, 105, 109, 101, 32]⟩ : ByteArray).size = 5 := rfl
    obtain ⟨y, ey, qy, ry⟩ := adds ⟨#[116, 105, 109, 101, 32]⟩ x (by omega)
    have hy : y.size ≤ 100 := by omega
    clear ey qy
    go_wp2
    go_ret
    exact ⟨y, p + 1 + 1, rfl, hy, by omega, by omega, HR.out, HG.out⟩
  have k0 : (v == 0) = false := by simpa using e0
  by_cases e1 : v = 1
  · subst e1
    go_wp2_with fail
    refine (picked _ _ _ _ _ _ _ hR (by omega) (by omega) (by omega)).mono ?_
    rintro e w2 ⟨n, rfl, n0, n1, hR2, hO2⟩
    have hg2 := grown_trans hg1 (only_grown hO2)
    clear hO2 hR hg1
    go_wp2_with fail
    refine (picked _ _ _ _ _ _ _ hR2 (by omega) (by omega) (by omega)).mono ?_
    rintro e w3 ⟨m, rfl, m0, m1, hR3, hO3⟩
    have hg3 := grown_trans hg2 (only_grown hO3)
    clear hO3 hR2 hg2
    go_wp2_with fail
    refine (picked _ _ _ _ _ _ _ hR3 (by omega) (by omega) (by omega)).mono ?_
    rintro e w4 ⟨u, rfl, u0, u1, hR4, hO4⟩
    have hg4 := grown_trans hg3 (only_grown hO4)
    have hb4 := hR4.1.lt
    clear hO4 hR3 hg3
    go_wp2_with fail
    refine (three_any n (1 + m) (1 + u) n0 (by omega) (by omega) (by omega) (by omega) (by omega) _).mono ?_
    rintro e w5 ⟨x, rfl, hx, hB⟩
    have HR := Lib.hid (rd_later hR4 (hB.mono (by omega)))
    have HG := Lib.hid (grown_trans hg4 (below_grown hB _))
    clear hR4 hg4 hB
    have q5 : (⟨#[108,101,116,32]⟩ : ByteArray).size = 4 := rfl
    obtain ⟨y, ey, qy, ry⟩ := adds ⟨#[108,101,116,32]⟩ x (by omega)
    have hy : y.size ≤ 100 := by omega
    clear ey qy
    go_wp2
    go_ret
    exact ⟨y, p + 1 + 1 + 1 + 1, rfl, hy, by omega, by omega, HR.out, HG.out⟩
  have k1 : (v == 1) = false := by simpa using e1
  by_cases e2 : v = 2
  · subst e2
    go_wp2_with fail
    refine (picked _ _ _ _ _ _ _ hR (by omega) (by omega) (by omega)).mono ?_
    rintro e w2 ⟨n, rfl, n0, n1, hR2, hO2⟩
    have hg2 := grown_trans hg1 (only_grown hO2)
    clear hO2 hR hg1
    go_wp2_with fail
    refine (picked _ _ _ _ _ _ _ hR2 (by omega) (by omega) (by omega)).mono ?_
    rintro e w3 ⟨m, rfl, m0, m1, hR3, hO3⟩
    have hg3 := grown_trans hg2 (only_grown hO3)
    clear hO3 hR2 hg2
    go_wp2_with fail
    refine (picked _ _ _ _ _ _ _ hR3 (by omega) (by omega) (by omega)).mono ?_
    rintro e w4 ⟨u, rfl, u0, u1, hR4, hO4⟩
    have hg4 := grown_trans hg3 (only_grown hO4)
    have hb4 := hR4.1.lt
    clear hO4 hR3 hg3
    go_wp2_with fail
    refine (three_any n (1 + m) (1 + u) n0 (by omega) (by omega) (by omega) (by omega) (by omega) _).mono ?_
    rintro e w5 ⟨x, rfl, hx, hB⟩
    have HR := Lib.hid (rd_later hR4 (hB.mono (by omega)))
    have HG := Lib.hid (grown_trans hg4 (below_grown hB _))
    clear hR4 hg4 hB
    have q5 : (⟨#[101,97,116,32]⟩ : ByteArray).size = 4 := rfl
    obtain ⟨y, ey, qy, ry⟩ := adds ⟨#[101,97,116,32]⟩ x (by omega)
    have hy : y.size ≤ 100 := by omega
    clear ey qy
    go_wp2
    go_ret
    exact ⟨y, p + 1 + 1 + 1 + 1, rfl, hy, by omega, by omega, HR.out, HG.out⟩
  have k2 : (v == 2) = false := by simpa using e2
  by_cases e3 : v = 3
  · subst e3
    go_wp2_with fail
    refine (many_any ⟨#[122]⟩ rfl 60 (by omega) _).mono ?_
    rintro e w2 ⟨s1, rfl, hs1, rfl⟩
    have HS1 := Lib.hid hs1
    clear hs1
    go_wp2_with fail
    refine (many_any ⟨#[122]⟩ rfl 61 (by omega) _).mono ?_
    rintro e w2 ⟨s2, rfl, hs2, rfl⟩
    have HS2 := Lib.hid hs2
    clear hs2
    go_wp2_with fail
    refine (fewM 61 _ _ _ _ _ _ hR (by omega) _ 14 (by omega) (by omega) ?_).mono ?_
    · intro i hi
      rcases fourteen hi with rfl | rfl | rfl | rfl | rfl | rfl | rfl | rfl | rfl | rfl | rfl | rfl | rfl | rfl
      all_goals first | exact ⟨_, rfl, by decide⟩ | exact ⟨_, rfl, by rw [HS1.out]; decide⟩ | exact ⟨_, rfl, by rw [HS2.out]; decide⟩
    rintro e w3 ⟨s, rfl, hs, hR3, hO3⟩
    have HR := Lib.hid hR3
    have HG := Lib.hid (grown_trans (grown_trans hg1 (below_grown ((Below.refl _ _).alloc (Nat.le_refl _) _) _)) (only_grown hO3))
    clear hR3 hO3 hR hg1
    have hy : s.size ≤ 100 := by omega
    go_wp2
    go_ret
    exact ⟨s, p + 1 + 1, rfl, hy, by omega, by omega, HR.out, HG.out⟩
  have k3 : (v == 3) = false := by simpa using e3
  go_wp2_with fail
  refine (fewM 6 _ _ _ _ _ _ hR (by omega) _ 5 (by omega) (by omega) ?_).mono ?_
  · intro i hi
    rcases five' hi with rfl | rfl | rfl | rfl | rfl
    all_goals exact ⟨_, rfl, by decide⟩
  rintro e w3 ⟨s, rfl, hs, hR3, hO3⟩
  have hg3 := grown_trans (grown_trans hg1 (below_grown ((Below.refl _ _).alloc (Nat.le_refl _) _) _)) (only_grown hO3)
  clear hO3 hR hg1
  go_wp2_with fail
  refine (note72 _ _ _ _ _ _ hR3 (by omega)).mono ?_
  rintro e w4 ⟨f, n, t, u, x, p', rfl, hx, hp0, hp1, hR4, hG4⟩
  have hg4 := grown_trans hg3 hG4
  have hb4 := hR4.1.lt
  have hxm : x.size ≤ maxLen := by unfold maxLen; omega
  have hnz := nw_size f n t u x
  clear hR3 hG4 hg3
  go_wp2_with fail
  refine (swrite_any f n t u x _ hxm).mono ?_
  rintro e w5 ⟨rfl, hB⟩
  have HR := Lib.hid (rd_later hR4 (hB.mono (by omega)))
  have HG := Lib.hid (grown_trans hg4 (below_grown hB _))
  clear hR4 hg4 hB
  generalize nw f n t u x = z at hnz ⊢
  obtain ⟨y, ey, qy, ry⟩ := adds s z (by omega)
  have hy : y.size ≤ 100 := by omega
  clear ey qy
  go_wp2
  go_ret
  exact ⟨y, p', rfl, hy, by omega, by omega, HR.out, HG.out⟩
end Go.Proofs.YtapkfajgphkajaaGreatDoor.dr
