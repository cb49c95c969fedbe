/-
  Contract of spec.DrawShelfPack: whatever the code, a shelf whose log has at most 6000 bytes, and at most 60 texts in a list of the call's own.
-/
import Derived.Test.YtapkfajgphkajaaGreatDoorDrawShelf
import Derived.Test.YtapkfajgphkajaaGreatDoorStrLists
namespace Go.Proofs.YtapkfajgphkajaaGreatDoor.dr
open Go.ChangeShapes Go.WideShapes Go.ChangeAt Go.RowKit
open Go.Proofs.YtapkfajgphkajaaGreatDoor.wd Go.Proofs.YtapkfajgphkajaaGreatDoor.pk Go.Proofs.YtapkfajgphkajaaGreatDoor.cp Go.Proofs.YtapkfajgphkajaaGreatDoor.ow Go.Proofs.YtapkfajgphkajaaGreatDoor.ok Go.Proofs.YtapkfajgphkajaaGreatDoor.dc Go.Proofs.YtapkfajgphkajaaGreatDoor.sh

def DrawnPack (w : World) (e : Ending) (w' : World) : Prop := ∃ (s : ByteArray) (f : Int) (v : Value) (xs : List ByteArray), e = .returned (.tuple #[shv s f, v]) ∧ s.size ≤ 6000 ∧ xs.length ≤ 60 ∧ Own 9 w w' v (xs.map Value.string)

/-- while it is drawn: the result's block, the reader, the list so far -/
structure Pk (w : World) (b : Nat) (A : Option Addr) (len cap : Nat) (W : World) (v : Value) (xs : List ByteArray) (q : Int) : Prop where
  res : Blk W w.heap.size 24 #[.string ⟨#[]⟩, .int .i64 0]
  rd : Rd W b A len cap q
  own : W.ownsRow (b + 1) 9 1 v xs.length (xs.map Value.string)
  bel : Below w.heap.size w W
  hb : w.heap.size < b
section
variable {w W W' : World} {b : Nat} {A : Option Addr} {len cap : Nat} {v v' : Value} {xs : List ByteArray} {q q' : Int}
theorem Pk.grown (h : Pk w b A len cap W v xs q) (hG : W.grownBy W' (some b)) (hR : Rd W' b A len cap q') : Pk w b A len cap W' v xs q' := by
  have hb := h.hb
  refine ⟨blk_grown h.res hG (by omega), hR, h.own.kept hG ?_, h.bel.trans (grown_below hG (by omega) h.bel.size), h.hb⟩
  cases hv : v.ownBlock with
  | none => exact .inl rfl
  | some k => exact .inr (fun e => by have := (h.own.lt k hv).1; injection e; omega)
theorem Pk.drew (h : Pk w b A len cap W v xs q) : Pk w b A len cap W.drew v xs q := ⟨h.res, h.rd, h.own, h.bel.drew, h.hb⟩
theorem Pk.more {n : Nat} {o : Obj} {x : ByteArray} (h : Pk w b A len cap W v xs q) (h1 : W'.ownsRow (b + 1) 9 1 v' n (xs.map Value.string ++ [.string x])) (hg : (W.alloc o).grownBy W' v.ownBlock) : Pk w b A len cap W' v' (xs ++ [x]) q := by
  have hz : (W.alloc o).heap.size = W.heap.size + 1 := by simp
  have hb := h.hb
  have hl := h.rd.1.lt
  have hB : Below (b + 1) W W' := ((Below.refl (b + 1) W).alloc (by omega) o).grown hg (by omega) (fun k hk => (h.own.lt k hk).1)
  refine ⟨h.res.below hB (by omega), rd_later h.rd hB, ?_, h.bel.trans (hB.mono (by omega)), h.hb⟩
  obtain rfl : n = (xs ++ [x]).length := by have := h1.1; simp at this; simp; omega
  rw [List.map_append]
  exact h1
theorem set_grown (W : World) (p : Addr) (x : Value) : W.grownBy (W.setCell p x) (some p.block) :=
  ⟨rfl, rfl, rfl, by simp, fun k _ hne => Below.heap_setCell W p x k (fun e => hne (by rw [e]))⟩
theorem Pk.done (h : Pk w b A len cap W v xs q) (a : ByteArray) (g : Int) : Own 9 w ((W.setCell ⟨w.heap.size, 0, none⟩ (.string a)).setCell ⟨w.heap.size, 1, none⟩ (.int .i64 g)) v (xs.map Value.string) := by
  have hb := h.hb
  have hv : v.ownBlock = none ∨ v.ownBlock ≠ some w.heap.size := by
    cases hv : v.ownBlock with
    | none => exact .inl rfl
    | some k => exact .inr (fun e => by have := (h.own.lt k hv).1; injection e; omega)
  have h2 := (h.own.kept (set_grown W ⟨w.heap.size, 0, none⟩ (.string a)) hv).kept (set_grown _ ⟨w.heap.size, 1, none⟩ (.int .i64 g)) hv
  refine ⟨?_, (h.bel.setCell (p := ⟨w.heap.size, 0, none⟩) (Nat.le_refl _) (.string a)).setCell (p := ⟨w.heap.size, 1, none⟩) (Nat.le_refl _) (.int .i64 g)⟩
  rw [List.length_map]
  refine ⟨h2.1, ?_⟩
  rcases h2.2 with h' | ⟨g', cap', cur, h1, h2, h3⟩
  · exact .inl h'
  · exact .inr ⟨g', cap', cur, h1, by omega, h3⟩
end

set_option maxRecDepth 100000 in
set_option maxHeartbeats 4000000 in
theorem drawShelfPack (w : World) (A : Option Addr) (len cap : Nat) (h : Bytes w w.heap.size A len) (hl : len ≤ cap) (hm : cap ≤ maxLen) :
    Calls Tryz.prog 15 #[.slice A len cap] w (DrawnPack w) := by
  obtain ⟨s0, si, sz0, sz1, sz2⟩ := info_parts infoStr
  have hB0 := (Below.refl w.heap.size w).alloc (Nat.le_refl _) (.cells #[.string ⟨#[]⟩, .int .i64 0] 24)
  have hZ0 := Blk.new w 24 #[.string ⟨#[]⟩, .int .i64 0]
  have h0 := Bytes_later h hB0
  clear h
  go_enter Tryz.func15, Tryz.ntmps15
  go_wp2_with fail
  generalize w.alloc (.cells #[.string ⟨#[]⟩, .int .i64 0] 24) = W0 at hB0 hZ0 h0 ⊢
  refine (open_any _ _ _ _ h0 hl hm).mono ?_
  rintro e w1 ⟨len1, cap1, rfl, hR, hB1, hz⟩
  have hlt := hZ0.lt
  have hN : (w1.alloc (.cells #[] 9)).ownsRow (W0.heap.size + 1) 9 1 (.slice (some ⟨w1.heap.size, 0, none⟩) 0 0) 0 [] := World.ownsRow_lit w1 #[] 0 (by omega) (by unfold maxLen; omega) rfl
  have HP0 : Hid (Pk w W0.heap.size A len1 cap1 (w1.alloc (.cells #[] 9)) (.slice (some ⟨w1.heap.size, 0, none⟩) 0 0) [] 0) := by
    have hk := hB0.trans (hB1.mono hB0.size)
    exact ⟨(hZ0.below hB1 hZ0.lt).alloc _, rd_later hR ((Below.refl _ _).alloc (by omega) _), hN, hk.alloc hk.size _, by have := hB0.size; omega⟩
  clear hN hR hB1 hB0 hZ0 h0 hz
  go_wp2_with fail
  generalize (Value.slice (some ⟨w1.heap.size, 0, none⟩) 0 0) = v0 at HP0 ⊢
  generalize w1.alloc (.cells #[] 9) = V at HP0 ⊢
  generalize W0.heap.size = b at HP0 ⊢
  refine (picked _ _ _ _ _ _ _ HP0.out.rd (by omega) (by omega) (by omega)).mono ?_
  rintro e w2 ⟨n, rfl, n0, n1, hR2, hO2⟩
  have HP1 := Lib.hid (HP0.out.grown (only_grown hO2) hR2)
  obtain ⟨n, rfl⟩ := Int.eq_ofNat_of_zero_le n0
  clear hR2 hO2 HP0
  go_wp2
  go_loopw [5, 6] (fun lv i wr => ∃ (r : Nat) (xs : List ByteArray) (q : Int), i = .int .i64 r ∧ r ≤ 7 ∧ xs.length + r ≤ 7 ∧ 0 ≤ q ∧ q + 60 * r ≤ 600 ∧ Hid (Pk w b A len1 cap1 wr lv xs q)) (fun _ i _ => (intOf i).toNat)
  case atStart => exact ⟨n, [], 0 + 1, rfl, by omega, by simp; omega, by omega, by omega, HP1.out⟩
  case round =>
    obtain ⟨r, xs, q, rfl, hr, hx, hq0, hq1, HP2⟩ := hrel
    clear HP1
    by_cases hr0 : 0 < r
    · go_wp2_with fail
      refine (rec72 _ _ _ _ _ _ HP2.out.rd (by omega)).mono ?_
      rintro e W3 ⟨y, q', rfl, hy, hq2, hq3, hR3, hG3⟩
      have HP3 := Lib.hid (HP2.out.grown hG3 hR3)
      have hl3 := HP3.out.rd.1.lt
      have hx4 : (xs ++ [y]).length = xs.length + 1 := by simp
      clear hR3 hG3 HP2
      go_wp2_with (at_builtin; refine wpList_append_own _ rfl _ _ 30 rfl (b + 1) 9 s0 (.string ⟨#[]⟩) 1 16 Tryz.underlying30 si sz0 sz1 sz2 rfl (by decide) _ _ _ rfl (HP3.out.own.alloc _) ⟨W3.heap.size, 0, none⟩ 1 1 [.string y] rfl rfl ?e1 ?e2 ?e3 ?e4 ?e5 ?_)
      case e1 => exact cell_one_new _ _ _
      case e2 => intro x hx; simp at hx; subst hx; rfl
      case e3 => unfold maxLen; omega
      case e4 => omega
      case e5 => simp; omega
      intro v1 wA hown1 hgrow1 _
      have HP4 := Lib.hid (HP3.out.more hown1 hgrow1)
      clear hown1 hgrow1 HP3
      go_wp2
      go_roundw
      case rel => exact ⟨r - 1, xs ++ [y], q', by go_num, by omega, by omega, by omega, by omega, HP4.out⟩
      case measure => simp [intOf]; omega
    · obtain rfl : r = 0 := by omega
      go_wp2_with fail
      refine (picked _ _ _ _ _ _ _ HP2.out.rd (by omega) (by omega) (by omega)).mono ?_
      rintro e W3 ⟨z, rfl, z0, z1, hR3, hO3⟩
      have HP3 := Lib.hid (HP2.out.grown (only_grown hO3) hR3)
      clear hR3 hO3 HP2
      by_cases ez : z = 0
      · subst ez
        go_wp2
        go_loopw [5, 7] (fun lv i wr => ∃ (k : Nat) (ys : List ByteArray) (q' : Int), i = .int .i64 k ∧ k ≤ 40 ∧ ys.length ≤ 7 + k ∧ 0 ≤ q' ∧ q' ≤ 700 + k ∧ Hid (Pk w b A len1 cap1 wr lv ys q')) (fun _ i _ => 41 - (intOf i).toNat)
        case atStart => exact ⟨0, xs, q + 1, rfl, by omega, by omega, by omega, by omega, HP3.out⟩
        case round =>
          obtain ⟨k, ys, q', rfl, hk, hy, hq2, hq3, HP4⟩ := hrel
          clear HP3
          go_wp2_with fail
          refine (picked _ _ _ _ _ _ _ HP4.out.rd (by omega) (by omega) (by omega)).mono ?_
          rintro e W4 ⟨x, rfl, x0, x1, hR4, hO4⟩
          have HP6 := Lib.hid (HP4.out.grown (only_grown hO4) hR4)
          clear hR4 hO4 HP4
          by_cases hlt : (k : Int) < 37 + x
          · go_wp2_with fail
            refine (many_any ⟨#[102]⟩ rfl 60 (by omega) _).mono ?_
            rintro e W6 ⟨y, rfl, hy6, rfl⟩
            have hl3 := HP6.out.rd.1.lt
            have hx4 : (ys ++ [y]).length = ys.length + 1 := by simp
            go_wp2_with (at_builtin; refine wpList_append_own _ rfl _ _ 30 rfl (b + 1) 9 s0 (.string ⟨#[]⟩) 1 16 Tryz.underlying30 si sz0 sz1 sz2 rfl (by decide) _ _ _ rfl (HP6.out.own.alloc _) ⟨W4.heap.size, 0, none⟩ 1 1 [.string y] rfl rfl ?e1 ?e2 ?e3 ?e4 ?e5 ?_)
            case e1 => exact cell_one_new _ _ _
            case e2 => intro x hx; simp at hx; subst hx; rfl
            case e3 => unfold maxLen; omega
            case e4 => omega
            case e5 => simp; omega
            intro v1 wA hown1 hgrow1 _
            have HP7 := Lib.hid (HP6.out.more hown1 hgrow1)
            clear hown1 hgrow1 HP6
            go_wp2
            go_roundw
            case rel => exact ⟨k + 1, ys ++ [y], q' + 1, by go_num, by omega, by omega, by omega, by omega, HP7.out⟩
            case measure => simp [intOf]; omega
          · have hlt' : ¬ ((k : Int) < 37 + x) := hlt
            go_wp2_with fail
            refine (shelf72 _ _ _ _ _ _ HP6.out.rd (by omega)).mono ?_
            rintro e W5 ⟨s, f, p', rfl, hs, _, _, hR5, hG5⟩
            have HP5 := Lib.hid (HP6.out.grown hG5 hR5)
            have z0 := HP5.out.res.cell 0
            have z1 := HP5.out.res.cell 1
            simp only [List.getElem?_toArray, List.getElem?_cons_zero, List.getElem?_cons_succ] at z0 z1
            have y0 := HP5.out.res.frozen 0
            have y1 := HP5.out.res.frozen 1
            have HC := Lib.hid ((HP5.out.res.put 0 (.string s)).put 1 (.int .i64 f))
            have HD := Lib.hid (HP5.out.done s f)
            clear hG5 hR5 HP5
            go_wp2
            have x0 := HC.out.cell 0
            have x1 := HC.out.cell 1
            exact bodyPost_ret (v := .tuple #[shv s f, u5]) (by simp [results, Tryz.results15, go_sem, x0, x1]) rfl ⟨s, f, u5, ys, rfl, hs, by omega, HD.out⟩
      · have kz : (z == 0) = false := by simpa using ez
        go_wp2_with fail
        refine (shelf72 _ _ _ _ _ _ HP3.out.rd (by omega)).mono ?_
        rintro e W5 ⟨s, f, p', rfl, hs, _, _, hR5, hG5⟩
        have HP5 := Lib.hid (HP3.out.grown hG5 hR5)
        have z0 := HP5.out.res.cell 0
        have z1 := HP5.out.res.cell 1
        simp only [List.getElem?_toArray, List.getElem?_cons_zero, List.getElem?_cons_succ] at z0 z1
        have y0 := HP5.out.res.frozen 0
        have y1 := HP5.out.res.frozen 1
        have HC := Lib.hid ((HP5.out.res.put 0 (.string s)).put 1 (.int .i64 f))
        have HD := Lib.hid (HP5.out.done s f)
        clear hG5 hR5 HP5
        go_wp2
        have x0 := HC.out.cell 0
        have x1 := HC.out.cell 1
        exact bodyPost_ret (v := .tuple #[shv s f, u5]) (by simp [results, Tryz.results15, go_sem, x0, x1]) rfl ⟨s, f, u5, xs, rfl, hs, by omega, HD.out⟩
end Go.Proofs.YtapkfajgphkajaaGreatDoor.dr
