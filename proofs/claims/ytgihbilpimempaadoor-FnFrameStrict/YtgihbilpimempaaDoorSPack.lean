/-
  Contracts of spec.l21Two and spec.FramePack.
-/
import Derived.Test.YtgihbilpimempaaDoorSFr
import Derived.Deep.AppendLies
import Derived.Laws.IdiomStrings
import Derived.Lib.AtoiErrMem
namespace Go.Proofs.YtgihbilpimempaaDoor.fr
open Go.ChangeShapes Go.WideShapes Go.ChangeAt Go.RowKit
open Go.Proofs.YtgihbilpimempaaDoor.nb Go.Proofs.YtgihbilpimempaaDoor.wd Go.Proofs.YtgihbilpimempaaDoor.cp Go.Proofs.YtgihbilpimempaaDoor.ow

/-- bytes of the call's own, and more of them behind -/
theorem own_app {t : TypeId} {w0 w w1 : World} {v v1 : Value} {xs ys : List Value} {n : Nat} (h : Own t w0 w v xs) (h1 : w1.ownsRow w0.heap.size t 1 v1 n (xs ++ ys)) (hg : w.grownBy w1 v.ownBlock) : Own t w0 w1 v1 (xs ++ ys) := by
  obtain rfl : n = (xs ++ ys).length := by have := h1.1; omega
  exact ⟨h1, h.2.grown hg h.2.size (fun k hk => (h.1.lt k hk).1)⟩
theorem own_alloc {t : TypeId} {w0 w : World} {v : Value} {xs : List Value} (h : Own t w0 w v xs) (o : Obj) : Own t w0 (w.alloc o) v xs := h.later ((Below.refl _ w).alloc (Nat.le_refl _) o)
/-- bytes that a call hands on: those of its caller's own, and more -/
def MorePost (w0 : World) (xs : List Value) (e : Ending) (w' : World) : Prop := ∃ A N c, e = .returned (.slice A N c) ∧ Own 5 w0 w' (.slice A N c) xs
theorem own_slice {w0 w : World} {v : Value} {xs : List Value} (h : Own 5 w0 w v xs) : ∃ A N c, v = .slice A N c := by
  obtain ⟨A, c, e, _⟩ := h.form
  exact ⟨A, _, c, e⟩
theorem own_rowN {w0 w : World} {A : Option Addr} {N c : Nat} {l : List UInt8} (h : Own 5 w0 w (.slice A N c) (l.map bv)) : N = l.length ∧ RowB w A l := by
  obtain ⟨A', c', e, hr⟩ := own_row h
  injection e with e1 e2 e3
  subst e1
  exact ⟨e2, hr⟩
theorem more_of {w0 w : World} {v : Value} {xs : List Value} (h : Own 5 w0 w v xs) : MorePost w0 xs (.returned v) w := by
  obtain ⟨A, N, c, rfl⟩ := own_slice h
  exact ⟨A, N, c, rfl, h⟩
theorem two_map {n : Int} (h0 : 0 ≤ n) (h1 : n ≤ 65535) : (two n).map bv = [.int .u8 (n / 256), .int .u8 (n % 256)] := by
  unfold two bv
  simp only [List.map_cons, List.map_nil]
  rw [b8_nat (by omega) (by omega), b8_nat (by omega) (by omega)]

set_option maxHeartbeats 400000 in
theorem stwo_any (w0 w : World) (v : Value) (xs : List Value) (n : Int) (h : Own 5 w0 w v xs) (hl : xs.length ≤ 1000) (h0 : 0 ≤ n) (h1 : n ≤ 65535) :
    Calls Tryd.prog 21 #[v, .int .i64 n] w (MorePost w0 (xs ++ (two n).map bv)) := by
  obtain ⟨i0, hi, hz0, hz1, hz2⟩ := info_parts infoByte
  have HM := Lib.hid (two_map h0 h1)
  have hsz := h.2.size
  go_enter Tryd.func21, Tryd.ntmps21
  go_wp2_with (at_builtin; refine wpList_append_own _ rfl _ _ 22 rfl w0.heap.size 5 i0 (.int .u8 0) 1 1 Tryd.underlying22 hi hz0 hz1 hz2 rfl (by decide) _ _ _ rfl ((own_alloc h _).1) ⟨w.heap.size, 0, none⟩ 2 2 [.int .u8 (n / 256), .int .u8 (n % 256)] rfl rfl ?c1 ?c2 ?c3 ?c4 ?c5 ?_)
  case c1 => exact World.news_of_block (heap_alloc_new w _)
  case c2 => intro x hx; simp at hx; rcases hx with rfl | rfl <;> rfl
  case c3 => unfold maxLen; omega
  case c4 => omega
  case c5 => simp; omega
  intro v1 w1 hown1 hgrow1 _
  have R := Lib.hid (more_of (own_app (own_alloc h _) hown1 hgrow1))
  rw [← HM.out] at R
  clear hown1 hgrow1 h
  go_wp2
  go_ret
  exact R.out

def PackPost (w : World) (l : List UInt8) (e : Ending) (w' : World) : Prop := MorePost w (l.map bv) e w'
theorem pack_nil (w w' : World) (h : Below w.heap.size w w') : PackPost w [] (.returned (.slice none 0 0)) w' := ⟨none, 0, 0, rfl, World.ownsRow_nil _ _ _ _, h⟩
theorem bv_b8 {n : Int} (h0 : 0 ≤ n) (h1 : n ≤ 255) : bv (b8 n) = .int .u8 n := by unfold bv; rw [b8_nat h0 h1]
theorem head6 {F : Fr} (h : okF F = true) : [Value.int .u8 F.k, .int .u8 F.s, .int .u8 F.d, .int .u8 F.f, .int .u8 F.n, .int .u8 F.t] = [b8 F.k, b8 F.s, b8 F.d, b8 F.f, b8 F.n, b8 F.t].map bv := by
  obtain ⟨⟨k0, k1⟩, ⟨s0, s1⟩, ⟨d0, d1⟩, ⟨f0, f1⟩, ⟨n0, n1⟩, ⟨t0, t1⟩, _, _⟩ := okF_parts h
  simp only [List.map_cons, List.map_nil]
  rw [bv_b8 (by omega) (by omega), bv_b8 (by omega) (by omega), bv_b8 (by omega) (by omega), bv_b8 (by omega) (by omega), bv_b8 (by omega) (by omega), bv_b8 (by omega) (by omega)]
/-- a row owned by a later call's start is owned by an earlier one's -/
theorem own_early {t : TypeId} {w0 w w' : World} {v : Value} {xs : List Value} (h : Own t w w' v xs) (hB : Below w0.heap.size w0 w) : Own t w0 w' v xs := h.from_ hB

set_option maxRecDepth 100000 in
set_option maxHeartbeats 4000000 in
theorem spack_any (F : Fr) (w : World) (hx : F.x.size ≤ maxLen) : Calls Tryd.prog 9 #[frv F] w (PackPost w (pk F)) := by
  obtain ⟨i0, hi, hz0, hz1, hz2⟩ := info_parts infoByte
  have HF := Lib.hid (fun V => sfok_any F V hx)
  have hbox := Blk.new w 24 (fcs F)
  have hBb : Below w.heap.size w (w.alloc (.cells (fcs F) 24)) := (Below.refl _ _).alloc (Nat.le_refl _) _
  have hsb : (w.alloc (.cells (fcs F) 24)).heap.size = w.heap.size + 1 := by simp
  have hO0 := Own.empty (t := 5) (w.alloc (.cells (fcs F) 24))
  rw [hsb] at hO0
  obtain ⟨k, s, d, f, n, t, u, z, m, x⟩ := F
  simp only at hx
  have HBb := Lib.hid hBb
  have HO0 := Lib.hid hO0
  have Hbox := Lib.hid hbox
  have Hsb := Lib.hid hsb
  clear hBb hO0 hbox hsb
  unfold frv at HF
  unfold frv
  simp only at HF ⊢
  go_enter Tryd.func9, Tryd.ntmps9
  go_wp2_with fail
  refine (HF.out _).mono ?_
  rintro e V1 ⟨rfl, hB1⟩
  clear HF
  have HO1 := Lib.hid (HO0.out.later hB1)
  clear HO0 hB1
  generalize w.alloc (.cells (fcs ⟨k, s, d, f, n, t, u, z, m, x⟩) 24) = Wb at HBb HO1 Hbox Hsb
  have hlt : w.heap.size < Wb.heap.size := by rw [Hsb.out]; omega
  have HC := Lib.hid (fun V (hV : Below Wb.heap.size Wb V) => Hbox.out.below hV hlt)
  clear Hsb
  cases hok : okF ⟨k, s, d, f, n, t, u, z, m, x⟩ with
  | false =>
    have R : Hid (PackPost w (pk ⟨k, s, d, f, n, t, u, z, m, x⟩) (.returned (.slice (some ⟨w.heap.size + 1, 0, none⟩) 0 0)) V1) := by
      rw [pk_no hok]
      exact ⟨_, _, _, rfl, HO1.out.from_ HBb.out⟩
    clear hok
    go_wp2
    go_ret
    exact R.out
  | true =>
    have H6 := Lib.hid (head6 hok)
    obtain ⟨⟨k0, k1⟩, ⟨s0, s1⟩, ⟨d0, d1⟩, ⟨f0, f1⟩, ⟨n0, n1⟩, ⟨t0, t1⟩, ⟨u0, u1⟩, _⟩ := okF_parts hok
    have HOk := Lib.hid hok
    clear hok
    simp only at k0 k1 s0 s1 d0 d1 f0 f1 n0 n1 t0 t1 u0 u1 H6
    obtain ⟨c0, c1, c2, c3, c4, c5, c6, c7, c8, c9, _⟩ := ten (HC.out _ HO1.out.2)
    simp only at c0 c1 c2 c3 c4 c5 c6 c7 c8 c9
    have hz1' := HO1.out.2.size
    go_wp2_with (at_builtin; refine wpList_append_own _ rfl (.tmp 9) (.tmp 28) 22 rfl Wb.heap.size 5 i0 (.int .u8 0) 1 1 Tryd.underlying22 hi hz0 hz1 hz2 rfl (by decide) _ _ _ rfl ((own_alloc HO1.out _).1) ⟨V1.heap.size, 0, none⟩ 6 6 [.int .u8 k, .int .u8 s, .int .u8 d, .int .u8 f, .int .u8 n, .int .u8 t] rfl rfl ?c1 ?c2 ?c3 ?c4 ?c5 ?_)
    case c1 => exact World.news_of_block (heap_alloc_new V1 _)
    case c2 => intro x hx; simp at hx; rcases hx with rfl | rfl | rfl | rfl | rfl | rfl <;> rfl
    case c3 => unfold maxLen; simp
    case c4 => simp
    case c5 => simp; omega
    intro v2 V2 hown2 hgrow2 _
    have hO2 := own_app (own_alloc HO1.out _) hown2 hgrow2
    rw [H6.out] at hO2
    obtain ⟨A2, N2, e2, rfl⟩ := own_slice hO2
    have HO2 := Lib.hid hO2
    clear hown2 hgrow2 hO2 HO1 c0 c1 c2 c3 c4 c5 c6 c7 c8 c9 hz1'
    have c6 := (HC.out _ HO2.out.2).cell 6
    simp only [fcs, List.getElem?_toArray, List.getElem?_cons_succ, List.getElem?_cons_zero] at c6
    go_wp2_with fail
    refine (stwo_any Wb _ _ _ u HO2.out (by simp) (by omega) (by omega)).mono ?_
    rintro e V3 ⟨A3, N3, e3, rfl, hO3⟩
    simp only [List.nil_append] at hO3
    rw [← List.map_append] at hO3
    have HO3 : Hid (Own 5 Wb V3 (.slice A3 N3 e3) ((head ⟨k, s, d, f, n, t, u, z, m, x⟩).map bv)) := hO3
    clear hO3 HO2 c6 H6
    obtain ⟨c0, c1, c2, c3, c4, c5, c6, c7, c8, c9, _⟩ := ten (HC.out _ HO3.out.2)
    simp only at c0 c1 c2 c3 c4 c5 c6 c7 c8 c9
    clear c1 c2 c3 c4 c5 c6
    by_cases hk : k = 1
    · have hk' : (k == 1) = true := beq_iff_eq.2 hk
      obtain ⟨_, ⟨z0, z1⟩, ⟨m0, m1⟩, hx4⟩ := okF_piece HOk.out hk
      simp only at z0 z1 m0 m1 hx4
      have HT := Lib.hid (tail_piece (F := ⟨k, s, d, f, n, t, u, z, m, x⟩) hk)
      have HX4 := Lib.hid hx4
      clear hk hx4
      have hl3 : ((head ⟨k, s, d, f, n, t, u, z, m, x⟩).map bv).length = 8 := by simp [head_len]
      have hz3 := HO3.out.2.size
      go_wp2_with (at_builtin; refine wpList_append_own _ rfl (.tmp 37) (.tmp 41) 22 rfl Wb.heap.size 5 i0 (.int .u8 0) 1 1 Tryd.underlying22 hi hz0 hz1 hz2 rfl (by decide) _ _ _ rfl ((own_alloc HO3.out _).1) ⟨V3.heap.size, 0, none⟩ 1 1 [.int .u8 z] rfl rfl ?d1 ?d2 ?d3 ?d4 ?d5 ?_)
      case d1 => exact World.news_of_block (heap_alloc_new V3 _)
      case d2 => intro x hx; simp at hx; subst hx; rfl
      case d3 => unfold maxLen; omega
      case d4 => omega
      case d5 => simp; omega
      intro v4 V4 hown4 hgrow4 _
      have hO4 := own_app (own_alloc HO3.out _) hown4 hgrow4
      rw [show [Value.int .u8 z] = [b8 z].map bv by simp only [List.map_cons, List.map_nil]; rw [bv_b8 (by omega) (by omega)], ← List.map_append] at hO4
      obtain ⟨A4, N4, e4, rfl⟩ := own_slice hO4
      have HO4 := Lib.hid hO4
      clear hown4 hgrow4 hO4 HO3 c0 c7 c8 c9 hz3 hl3
      have c8 := (HC.out _ HO4.out.2).cell 8
      simp only [fcs, List.getElem?_toArray, List.getElem?_cons_succ, List.getElem?_cons_zero] at c8
      go_wp2_with fail
      refine (stwo_any Wb _ _ _ m HO4.out (by simp [head_len]) (by omega) (by omega)).mono ?_
      rintro e V5 ⟨A5, N5, e5, rfl, hO5⟩
      rw [← List.map_append] at hO5
      have HO5 := Lib.hid hO5
      clear hO5 HO4 c8
      have c9 := (HC.out _ HO5.out.2).cell 9
      simp only [fcs, List.getElem?_toArray, List.getElem?_cons_succ, List.getElem?_cons_zero] at c9
      have hcv := Lib.run_convert_string_bytes (P := Tryd.prog) V5 9 22 5 x (u := .string) Tryd.underlying9 Tryd.underlying22 Tryd.underlying5
      have HO6 := Lib.hid (HO5.out.later (Lib.bytesWorld_below V5 5 x))
      have HX6 := Lib.hid (fun j hj => Lib.bytesWorld_cell V5 5 x j hj)
      have hz6 := HO6.out.2.size
      generalize Lib.bytesWorld V5 5 x = V6 at hcv HO6 HX6 hz6
      generalize grownCap V5 x.size 0 5 = cap6 at hcv
      rw [HX4.out] at hcv
      have hx5 : x.size ≤ 1000 := by rw [HX4.out]; omega
      have hl6 : ((head ⟨k, s, d, f, n, t, u, z, m, x⟩ ++ [b8 z] ++ two m).map bv).length = 11 := by simp [head_len, two_len]
      have hxl : x.data.toList.length = 4 := by have := HX4.out; simpa using this
      go_wp2_with (at_builtin; refine wpList_append_own _ rfl (.tmp 47) (.tmp 50) 22 rfl Wb.heap.size 5 i0 (.int .u8 0) 1 1 Tryd.underlying22 hi hz0 hz1 hz2 rfl (by decide) _ _ _ rfl (HO6.out.1) ⟨V5.heap.size, 0, none⟩ 4 cap6 (x.data.toList.map bv) rfl ?e0 ?e1 ?e2 ?e3 ?e4 ?e5 ?_)
      case e0 => rw [List.length_map, hxl]
      case e1 =>
        intro j y hy
        have hj : j < x.size := by
          have := (List.getElem?_eq_some_iff.1 hy).1
          rw [List.length_map, hxl] at this
          rw [HX4.out]; exact this
        have e : (⟨V5.heap.size, 0, none⟩ : Addr).add j = ⟨V5.heap.size, j, none⟩ := by unfold Addr.add; split <;> simp_all
        rw [e, HX6.out j hj, ← hy, List.getElem?_map]
        have hj' : j < x.data.toList.length := by simpa using hj
        rw [List.getD_eq_getElem?_getD, List.getElem?_eq_getElem hj']
        rfl
      case e2 => exact bv_one _
      case e3 => unfold maxLen; omega
      case e4 => omega
      case e5 => omega
      intro v7 V7 hown7 hgrow7 _
      have hO7 := own_app HO6.out hown7 hgrow7
      rw [← List.map_append] at hO7
      obtain ⟨A7, N7, e7, rfl⟩ := own_slice hO7
      have HB7 := Lib.hid (show head ⟨k, s, d, f, n, t, u, z, m, x⟩ ++ [b8 z] ++ two m ++ x.data.toList = body ⟨k, s, d, f, n, t, u, z, m, x⟩ by unfold body; rw [HT.out]; simp only [List.append_assoc])
      rw [HB7.out] at hO7
      obtain ⟨hN, hR7⟩ := own_rowN hO7
      have HO7 := Lib.hid hO7
      have HR7 := Lib.hid hR7
      have HPK := Lib.hid (pk_ok HOk.out)
      have hlb : (body ⟨k, s, d, f, n, t, u, z, m, x⟩).length ≤ 20 := by
        rw [← HB7.out]; simp only [List.length_append, head_len, two_len, hxl, List.length_cons, List.length_nil]; omega
      clear hown7 hgrow7 hO7 hR7 HO6 HX6 HO5 c9 hcv hl6 HB7
      generalize body ⟨k, s, d, f, n, t, u, z, m, x⟩ = l at hN HO7 HR7 HPK hlb
      subst hN
      have b0 := sm_lo l l.length
      have b1 := sm_hi l l.length
      go_wp2_with fail
      refine (ssum_any _ _ _ l HR7.out (by unfold maxLen; omega)).mono ?_
      rintro e V8 ⟨rfl, rfl⟩
      unfold smL
      go_wp2_with fail
      refine (stwo_any Wb _ _ _ (sm l l.length) HO7.out (by simp; omega) b0 (by omega)).mono ?_
      rintro e V9 ⟨A9, N9, e9, rfl, hO9⟩
      rw [← List.map_append] at hO9
      have R : Hid (PackPost w (pk ⟨k, s, d, f, n, t, u, z, m, x⟩) (.returned (.slice A9 N9 e9)) V9) := ⟨_, _, _, rfl, by rw [HPK.out]; exact hO9.from_ HBb.out⟩
      clear hO9 HO7 HR7 HPK
      go_wp2
      go_ret
      exact R.out
    · have hk' : (k == 1) = false := beq_eq_false_iff_ne.2 hk
      have HB7 := Lib.hid (show head ⟨k, s, d, f, n, t, u, z, m, x⟩ = body ⟨k, s, d, f, n, t, u, z, m, x⟩ by unfold body; rw [tail_ans hk, List.append_nil])
      rw [HB7.out] at HO3
      obtain ⟨hN, hR7⟩ := own_rowN HO3.out
      have HR7 := Lib.hid hR7
      have HPK := Lib.hid (pk_ok HOk.out)
      have hlb : (body ⟨k, s, d, f, n, t, u, z, m, x⟩).length ≤ 20 := by rw [← HB7.out, head_len]; omega
      clear hR7 HB7 hk c7 c8 c9
      generalize body ⟨k, s, d, f, n, t, u, z, m, x⟩ = l at hN HO3 HR7 HPK hlb
      subst hN
      have b0 := sm_lo l l.length
      have b1 := sm_hi l l.length
      go_wp2_with fail
      refine (ssum_any _ _ _ l HR7.out (by unfold maxLen; omega)).mono ?_
      rintro e V8 ⟨rfl, rfl⟩
      unfold smL
      go_wp2_with fail
      refine (stwo_any Wb _ _ _ (sm l l.length) HO3.out (by simp; omega) b0 (by omega)).mono ?_
      rintro e V9 ⟨A9, N9, e9, rfl, hO9⟩
      rw [← List.map_append] at hO9
      have R : Hid (PackPost w (pk ⟨k, s, d, f, n, t, u, z, m, x⟩) (.returned (.slice A9 N9 e9)) V9) := ⟨_, _, _, rfl, by rw [HPK.out]; exact hO9.from_ HBb.out⟩
      clear hO9 HO3 HR7 HPK c0
      go_wp2
      go_ret
      exact R.out
end Go.Proofs.YtgihbilpimempaaDoor.fr
