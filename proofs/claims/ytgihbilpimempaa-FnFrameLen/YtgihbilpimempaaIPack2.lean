/-
  Contracts of (*impl.frameBytes).addFrame and of impl.FramePack.
-/
import Derived.Test.YtgihbilpimempaaIPack
namespace Go.Proofs.Ytgihbilpimempaa.fr
open Go.ChangeShapes Go.WideShapes Go.ChangeAt Go.RowKit
open Go.Proofs.Ytgihbilpimempaa.nb Go.Proofs.Ytgihbilpimempaa.wd Go.Proofs.Ytgihbilpimempaa.cp Go.Proofs.Ytgihbilpimempaa.ow

def FramePost' (g : Nat) (w : World) (l : List UInt8) (e : Ending) (w' : World) : Prop := e = .returned (.tuple #[]) ∧ ∃ B, FB B g w' l ∧ But w.heap.size g w w' ∧ w.heap.size ≤ B

set_option maxRecDepth 100000 in
set_option maxHeartbeats 1000000 in
theorem addFrame_any (g : Nat) (w : World) (k s d f n t u z m : Int) (x : ByteArray) (hb : Blk w g 48 #[.slice none 0 0]) (hok : okF ⟨k, s, d, f, n, t, u, z, m, x⟩ = true) :
    Calls Try.prog 37 #[.pointer (some ⟨g, 0, none⟩), frv ⟨k, s, d, f, n, t, u, z, m, x⟩] w (FramePost' g w (body ⟨k, s, d, f, n, t, u, z, m, x⟩)) := by
  obtain ⟨⟨k0, k1⟩, ⟨s0, s1⟩, ⟨d0, d1⟩, ⟨f0, f1⟩, ⟨n0, n1⟩, ⟨t0, t1⟩, ⟨u0, u1⟩, _⟩ := okF_parts hok
  simp only at k0 k1 s0 s1 d0 d1 f0 f1 n0 n1 t0 t1 u0 u1
  have HOk := Lib.hid hok
  clear hok
  have hg := hb.lt
  have hR := Blk.new w 27 #[.int .i64 k, .int .i64 s, .int .i64 d, .int .i64 f, .int .i64 n, .int .i64 t, .int .i64 u, .int .i64 z, .int .i64 m, .string x]
  have hB0 : Below w.heap.size w (w.alloc (.cells #[.int .i64 k, .int .i64 s, .int .i64 d, .int .i64 f, .int .i64 n, .int .i64 t, .int .i64 u, .int .i64 z, .int .i64 m, .string x] 27)) := (Below.refl _ _).alloc (Nat.le_refl _) _
  unfold frv
  simp only
  go_enter Try.func37, Try.ntmps37
  go_wp2_with fail
  generalize w.alloc (.cells #[.int .i64 k, .int .i64 s, .int .i64 d, .int .i64 f, .int .i64 n, .int .i64 t, .int .i64 u, .int .i64 z, .int .i64 m, .string x] 27) = W0 at hR hB0 ⊢
  have hRg : w.heap.size ≠ g := by omega
  refine (numbers_any _ _).mono ?_
  rintro e W1 ⟨P, rfl, hPe, hP, hB1⟩
  have hR1 := hR.below hB1 hR.lt
  have hg1 := (hb.below (hB0.trans (hB1.mono hB0.size)) hg)
  have hBW := hB0.trans (hB1.mono hB0.size)
  have hPl := hP.lt
  have hRl := hR.lt
  have hPg : P ≠ g := by have := hB0.size; omega
  have hz1 := hB1.size
  have hz2 := hBW.size
  obtain ⟨c0, c1, c2, c3, c4, c5, c6, c7, c8, c9, _⟩ := ten hR1
  have HC := Lib.hid (addBytes_any W1.heap.size g W1 [] P w.heap.size 0 6 [k, s, d, f, n, t] (FB.nil hg1 (by omega) (Nat.le_refl _)) rfl
    (fun j hj => by rw [Nat.zero_add]; exact (hP.cell j).trans (ptr6_at hj _)) (.inl ⟨hPl, hPg⟩) (by omega) hRg
    (fun j y hy => by
      rw [Nat.zero_add]
      match j, hy with
      | 0, hy => injection hy with hy; subst hy; exact ⟨c0, by omega, by omega⟩
      | 1, hy => injection hy with hy; subst hy; exact ⟨c1, by omega, by omega⟩
      | 2, hy => injection hy with hy; subst hy; exact ⟨c2, by omega, by omega⟩
      | 3, hy => injection hy with hy; subst hy; exact ⟨c3, by omega, by omega⟩
      | 4, hy => injection hy with hy; subst hy; exact ⟨c4, by omega, by omega⟩
      | 5, hy => injection hy with hy; subst hy; exact ⟨c5, by omega, by omega⟩) (by simp))
  have HR1 := Lib.hid hR1
  have HBW := Lib.hid hBW
  clear hPe hR hB0 hB1 hR1 hg1 hBW hP hb c0 c1 c2 c3 c4 c5 c6 c7 c8 c9
  generalize hBd : W1.heap.size = B at HC hPl hz1 hz2
  have hRB : w.heap.size < B := by omega
  have hBd' := Lib.hid hBd
  clear hBd hz1
  go_wp2_with fail
  refine HC.out.mono ?_
  rintro e W2 ⟨rfl, hF2, hT2⟩
  have HF2 : Hid (FB B g W2 [b8 k, b8 s, b8 d, b8 f, b8 n, b8 t]) := hF2
  have HR2 := Lib.hid (hT2.blk HR1.out hRB hRg)
  have HT2 := Lib.hid hT2
  have c6 := HR2.out.cell 6
  simp only [List.getElem?_toArray, List.getElem?_cons_succ, List.getElem?_cons_zero] at c6
  clear hF2 hT2 HC HR1
  go_wp2_with fail
  refine (addPair_any B g _ _ u HF2.out (by omega) (by omega) (by simp)).mono ?_
  rintro e W3 ⟨rfl, hF3, hT3⟩
  have HF3 : Hid (FB B g W3 (head ⟨k, s, d, f, n, t, u, z, m, x⟩)) := hF3
  have HR3 := Lib.hid (hT3.blk HR2.out hRB hRg)
  have HT3 := Lib.hid (HT2.out.trans hT3)
  clear hF3 hT3 HF2 HR2 HT2 c6
  have c0 := HR3.out.cell 0
  simp only [List.getElem?_toArray, List.getElem?_cons_zero] at c0
  by_cases hk : k = 1
  · have hk' : (k == 1) = true := beq_iff_eq.2 hk
    obtain ⟨_, ⟨z0, z1⟩, ⟨m0, m1⟩, hx4⟩ := okF_piece HOk.out hk
    simp only at z0 z1 m0 m1 hx4
    have HX4 := Lib.hid hx4
    have HB7 := Lib.hid (show head ⟨k, s, d, f, n, t, u, z, m, x⟩ ++ [b8 z] ++ two m ++ x.data.toList = body ⟨k, s, d, f, n, t, u, z, m, x⟩ by unfold body; rw [tail_piece (F := ⟨k, s, d, f, n, t, u, z, m, x⟩) hk]; simp only [List.append_assoc])
    clear hk hx4
    have hlh := head_len ⟨k, s, d, f, n, t, u, z, m, x⟩
    generalize head ⟨k, s, d, f, n, t, u, z, m, x⟩ = L at HF3 hlh HB7
    have hB4 : Below W3.heap.size W3 (W3.alloc (.cells #[.pointer (some ⟨w.heap.size, 7, none⟩)] 73)) := (Below.refl _ _).alloc (Nat.le_refl _) _
    have hzB : B ≤ W3.heap.size := by obtain ⟨_, _, _, _, _, _, h⟩ := HF3.out; exact h
    have hP4 := Blk.new W3 73 #[.pointer (some ⟨w.heap.size, 7, none⟩)]
    have hF4 := HF3.out.later hB4
    have hR4 := HR3.out.alloc (.cells #[.pointer (some ⟨w.heap.size, 7, none⟩)] 73)
    have hT4 := Lib.hid (HT3.out.trans (But.of hB4 hzB))
    have HC4 := Lib.hid (fun V (e : V = W3.alloc (.cells #[.pointer (some ⟨w.heap.size, 7, none⟩)] 73)) => show Calls Try.prog 50 #[.pointer (some ⟨g, 0, none⟩), .slice (some ⟨W3.heap.size, 0, none⟩) 1 1] V (AddPost B g V (L ++ [b8 z])) from by
      subst e
      exact addBytes_any B g _ L W3.heap.size w.heap.size 7 1 [z] hF4 rfl (fun j hj => by rw [show j = 0 by omega]; exact hP4.cell 0) (.inr rfl) hRB hRg (fun j y hy => by
        match j, hy with
        | 0, hy => injection hy with hy; subst hy; exact ⟨hR4.cell 7, by omega, by omega⟩) (by omega))
    have HR4 := Lib.hid hR4
    clear hB4 hP4 hF4 hR4 HF3 HR3 HT3
    go_wp2_with fail
    have HC5 := Lib.hid (HC4.out _ rfl)
    clear HC4
    generalize W3.alloc (.cells #[.pointer (some ⟨w.heap.size, 7, none⟩)] 73) = W4 at HC5 HR4 hT4 ⊢
    refine HC5.out.mono ?_
    rintro e W5 ⟨rfl, hF5, hT5⟩
    have HF5 := Lib.hid hF5
    have HR5 := Lib.hid (hT5.blk HR4.out hRB hRg)
    have HT5 := Lib.hid (hT4.out.trans hT5)
    clear hF5 hT5 hT4 HR4 HC5
    have c8 := HR5.out.cell 8
    simp only [List.getElem?_toArray, List.getElem?_cons_succ, List.getElem?_cons_zero] at c8
    go_wp2_with fail
    refine (addPair_any B g _ _ m HF5.out (by omega) (by omega) (by simp; omega)).mono ?_
    rintro e W6 ⟨rfl, hF6, hT6⟩
    have HF6 := Lib.hid hF6
    have HR6 := Lib.hid (hT6.blk HR5.out hRB hRg)
    have HT6 := Lib.hid (HT5.out.trans hT6)
    clear hF6 hT6 HF5 HR5 HT5 c8
    have c9 := HR6.out.cell 9
    simp only [List.getElem?_toArray, List.getElem?_cons_succ, List.getElem?_cons_zero] at c9
    go_wp2_with fail
    refine (addText_any B g _ _ x HF6.out (by rw [HX4.out]; omega) (by simp [two_len]; omega)).mono ?_
    rintro e W7 ⟨rfl, hF7, hT7⟩
    rw [HB7.out] at hF7
    have HF7 := Lib.hid hF7
    have HT7 := Lib.hid (HT6.out.trans hT7)
    clear hF7 hT7 HF6 HR6 HT6 c9
    go_wp2
    go_end0
    exact ⟨rfl, B, HF7.out, (But.of (z := g) HBW.out (Nat.le_refl _)).trans (HT7.out.less (by omega)), by omega⟩
  · have hk' : (k == 1) = false := beq_eq_false_iff_ne.2 hk
    have HB7 := Lib.hid (show head ⟨k, s, d, f, n, t, u, z, m, x⟩ = body ⟨k, s, d, f, n, t, u, z, m, x⟩ by unfold body; rw [tail_ans (F := ⟨k, s, d, f, n, t, u, z, m, x⟩) hk, List.append_nil])
    rw [HB7.out] at HF3
    clear hk
    go_wp2
    go_end0
    exact ⟨rfl, B, HF3.out, (But.of (z := g) HBW.out (Nat.le_refl _)).trans (HT3.out.less (by omega)), by omega⟩

theorem base_less {w : World} {B B' : Nat} {t : TypeId} {sz n : Nat} {v : Value} {xs : List Value} (h : w.ownsRow B t sz v n xs) (hb : B' ≤ B) : w.ownsRow B' t sz v n xs := by
  refine ⟨h.1, ?_⟩
  rcases h.2 with h | ⟨g, cap, cur, h1, h2, h3⟩
  · exact .inl h
  · exact .inr ⟨g, cap, cur, h1, by omega, h3⟩

set_option maxRecDepth 100000 in
set_option maxHeartbeats 4000000 in
theorem ipack_any (F : Fr) (w : World) (hx : F.x.size ≤ maxLen) : Calls Try.prog 17 #[frv F] w (PackPost w (pk F)) := by
  have HK := Lib.hid (fun V => ifok_any F V hx)
  obtain ⟨k, s, d, f, n, t, u, z, m, x⟩ := F
  simp only at hx
  have hR := Blk.new w 27 #[.int .i64 k, .int .i64 s, .int .i64 d, .int .i64 f, .int .i64 n, .int .i64 t, .int .i64 u, .int .i64 z, .int .i64 m, .string x]
  have hB0 : Below w.heap.size w (w.alloc (.cells #[.int .i64 k, .int .i64 s, .int .i64 d, .int .i64 f, .int .i64 n, .int .i64 t, .int .i64 u, .int .i64 z, .int .i64 m, .string x] 27)) := (Below.refl _ _).alloc (Nat.le_refl _) _
  unfold frv at HK
  unfold frv
  simp only at HK ⊢
  go_enter Try.func17, Try.ntmps17
  go_wp2_with fail
  generalize w.alloc (.cells #[.int .i64 k, .int .i64 s, .int .i64 d, .int .i64 f, .int .i64 n, .int .i64 t, .int .i64 u, .int .i64 z, .int .i64 m, .string x] 27) = W0 at hR hB0 ⊢
  refine (HK.out _).mono ?_
  rintro e W1 ⟨rfl, hB1⟩
  have HR1 := Lib.hid (hR.below hB1 hR.lt)
  have HB1 := Lib.hid (hB0.trans (hB1.mono hB0.size))
  clear hR hB0 hB1 HK
  cases hok : okF ⟨k, s, d, f, n, t, u, z, m, x⟩ with
  | false =>
    have R : Hid (PackPost w (pk ⟨k, s, d, f, n, t, u, z, m, x⟩) (.returned (.slice none 0 0)) W1) := by
      rw [pk_no hok]
      exact pack_nil _ _ HB1.out
    clear hok
    go_wp2
    go_ret
    exact R.out
  | true =>
    have HPK := Lib.hid (pk_ok hok)
    have hg := Blk.new W1 48 #[.slice none 0 0]
    have HF := Lib.hid (fun V (h : Blk V W1.heap.size 48 #[.slice none 0 0]) => addFrame_any W1.heap.size V k s d f n t u z m x h hok)
    have hlb : (body ⟨k, s, d, f, n, t, u, z, m, x⟩).length ≤ 20 := by
      by_cases hk : k = 1
      · rw [body_len_piece hk (okF_piece hok hk).2.2.2]; omega
      · rw [body_len_ans hk]; omega
    have hBa : Below W1.heap.size W1 (W1.alloc (.cells #[.slice none 0 0] 48)) := (Below.refl _ _).alloc (Nat.le_refl _) _
    have hR2 := HR1.out.alloc (.cells #[.slice none 0 0] 48)
    obtain ⟨c0, c1, c2, c3, c4, c5, c6, c7, c8, c9, _⟩ := ten hR2
    have hw1 := HB1.out.size
    have hsa : (W1.alloc (.cells #[.slice none 0 0] 48)).heap.size = W1.heap.size + 1 := by simp
    have HB2 := Lib.hid (HB1.out.trans (hBa.mono hw1))
    clear hok hBa hR2 HR1
    unfold frv at HF
    simp only at HF
    generalize body ⟨k, s, d, f, n, t, u, z, m, x⟩ = l at HF HPK hlb
    go_wp2_with fail
    have HF' := Lib.hid (HF.out _ hg)
    have HS := Lib.hid hsa
    clear HF hsa hg c0 c1 c2 c3 c4 c5 c6 c7 c8 c9
    generalize W1.alloc (.cells #[.slice none 0 0] 48) = W2 at HF' HB2 HS ⊢
    refine HF'.out.mono ?_
    rintro e W3 ⟨rfl, B, hF3, hT3, hBz⟩
    clear HF'
    have HF3 := Lib.hid hF3
    obtain ⟨A, N, c, hb, ho, hzB, hBw⟩ := hF3
    obtain ⟨hN, hRow⟩ := row_of ho
    subst hN
    have c0 := hb.cell 0
    simp only [List.getElem?_toArray, List.getElem?_cons_zero] at c0
    have HRow := Lib.hid hRow
    have HT3 := Lib.hid hT3
    clear hT3 hRow hb ho
    have b0 := sm_lo l l.length
    have b1 := sm_hi l l.length
    have hwg : w.heap.size ≤ W1.heap.size := hw1
    go_wp2_with fail
    refine (isum_any _ _ _ l HRow.out (by unfold maxLen; omega)).mono ?_
    rintro e V ⟨rfl, rfl⟩
    unfold smL
    clear HRow
    go_wp2_with fail
    refine (addPair_any B _ _ l (sm l l.length) HF3.out b0 (by omega) (by omega)).mono ?_
    rintro e W4 ⟨rfl, hF4, hT4⟩
    obtain ⟨A4, N4, c4, hb4, ho4, hzB4, hBw4⟩ := hF4
    have d0 := hb4.cell 0
    simp only [List.getElem?_toArray, List.getElem?_cons_zero] at d0
    have R : Hid (PackPost w (pk ⟨k, s, d, f, n, t, u, z, m, x⟩) (.returned (.slice A4 N4 c4)) W4) := by
      refine ⟨A4, N4, c4, rfl, ?_, ?_⟩
      · rw [HPK.out, List.length_map]
        have hs2 := HB2.out.size
        exact base_less ho4 (by omega)
      · have h34 : But W2.heap.size W1.heap.size W2 W4 := HT3.out.trans (hT4.less hBz)
        exact h34.below HB2.out hwg (by rw [HS.out]; omega)
    clear hT4 hb4 ho4 HF3 HT3 c0
    go_wp2
    go_ret
    exact R.out
end Go.Proofs.Ytgihbilpimempaa.fr
