/-
  Contracts of the laws' own helpers over lists of nodes and of bools: markKeeperS, markBoolS, heldKeeperS, heldBoolS.
-/
import Derived.Test.YtckicpnnclbkpaaKrList
import Derived.Test.YtckicpnnclbkpaaOwnPut
namespace Go.Proofs.Ytckicpnnclbkpaa.kr
open Go.ChangeShapes Go.WideShapes Go.ChangeAt Go.RowKit
open Go.Proofs.Ytckicpnnclbkpaa.wd Go.Proofs.Ytckicpnnclbkpaa.nb Go.Proofs.Ytckicpnnclbkpaa.li Go.Proofs.Ytckicpnnclbkpaa.ow Go.Proofs.Ytckicpnnclbkpaa.rl Go.Proofs.Ytckicpnnclbkpaa.kp Go.Proofs.Ytckicpnnclbkpaa.sl Go.Proofs.Ytckicpnnclbkpaa.op

/-- what a mark writes -/
abbrev bd (y : Int) : Bool := y % 3 == 0
def nkM (x : Int) : Nk := ⟨x, bd (x + 1), mt (x + 1 + 1).toNat, x + 1 + 1 + 1⟩
def nkMs (x : Int) (n : Nat) : List Nk := (List.range n).map fun i : Nat => nkM (x + 4 * i)
def boMs (x : Int) (n : Nat) : List Bool := (List.range n).map fun i : Nat => bd (x + i)
theorem nkMs_len (x : Int) (n : Nat) : (nkMs x n).length = n := by simp [nkMs]
theorem boMs_len (x : Int) (n : Nat) : (boMs x n).length = n := by simp [boMs]
theorem nkMs_at {x : Int} {n i : Nat} (h : i < n) : (nkMs x n)[i]? = some (nkM (x + 4 * i)) := by simp [nkMs, h]
theorem boMs_at {x : Int} {n i : Nat} (h : i < n) : (boMs x n)[i]? = some (bd (x + i)) := by simp [boMs, h]
theorem nkMs_of {x : Int} {n : Nat} {l : List Nk} (hl : l.length = n) (h : ∀ i, i < n → l[i]? = some (nkM (x + 4 * i))) : l = nkMs x n := by
  apply List.ext_getElem?
  intro i
  by_cases hi : i < n
  · rw [h i hi, nkMs_at hi]
  · rw [List.getElem?_eq_none (by omega), List.getElem?_eq_none (by rw [nkMs_len]; omega)]
def MarkedKr (w : World) (v : Value) (B n : Nat) (x : Int) (e : Ending) (w' : World) : Prop := e = .returned (.int .i64 (x + 4 * n)) ∧ OwnAt nkS 36 B w' v (nkMs x n) ∧ w.grownBy w' v.ownBlock
theorem oth5 {a b : Nk} {m : Nat} (h : ∀ j, j < 5 → j ≠ m → (nkF b)[j]? = (nkF a)[j]?) : ∀ j, j ≠ m → (nkS.f b)[j]? = (nkS.f a)[j]? := fun j hj => by
  by_cases h5 : j < 5
  · exact h j h5 hj
  · rw [List.getElem?_eq_none (by rw [nkS.len]; show 5 ≤ j; omega), List.getElem?_eq_none (by rw [nkS.len]; show 5 ≤ j; omega)]

set_option maxRecDepth 100000 in
set_option maxHeartbeats 1600000 in
theorem markKrs_any {w : World} {v : Value} {B : Nat} {l : List Nk} (h : OwnAt nkS 36 B w v l) (x : Int) (hx : 1 ≤ x) (hn : x + 4 * l.length < 100000000) :
    Calls Try.prog 16 #[v, .int .i64 x] w (MarkedKr w v B l.length x) := by
  obtain ⟨n, hN⟩ : ∃ n, n = l.length := ⟨_, rfl⟩
  rw [← hN] at hn ⊢
  have HO := Lib.hid h
  have HLn := Lib.hid hN
  obtain ⟨A, c, rfl, _⟩ := h.sees
  have hlb : n < 100000000 := by omega
  rw [← hN]
  clear h hN
  go_enter Try.func16, Try.ntmps16
  go_wp2
  go_loopw [1, 5] (fun a i wr => ∃ (j : Nat) (y : Int) (l' : List Nk), j ≤ n ∧ i = .int .i64 j ∧ a = .int .i64 y ∧ Hid (y = x + 4 * j) ∧ 1 ≤ y ∧ y + 4 * (n - j : Nat) < 100000000 ∧ Hid (l'.length = n) ∧ Hid (∀ i, i < j → l'[i]? = some (nkM (x + 4 * i))) ∧ Hid (OwnAt nkS 36 B wr (.slice A n c) l') ∧ Hid (w.grownBy wr (Value.slice A n c).ownBlock)) (fun _ i _ => (n + 1 : Nat) - (intOf i).toNat)
  case atStart => exact ⟨0, x, l, by omega, rfl, rfl, by show x = x + 4 * ((0 : Nat) : Int); omega, hx, by omega, HLn.out.symm, (fun i hi => absurd hi (by omega)), (by have h := HO.out; rwa [← HLn.out] at h), grown_refl _ _⟩
  case round =>
    obtain ⟨j, y, l', hj, rfl, rfl, HY, y0, y1, HL, HD, HW, HG⟩ := hrel
    clear HO
    by_cases hjn : j < n
    · have hr : l'[j]? = some (l'[j]'(by rw [HL.out]; exact hjn)) := List.getElem?_eq_getElem _
      obtain ⟨g, c', e, hg, hq1, hq2⟩ := HW.out.sees.at hr
      injection e with e1 e2 e3
      subst e1; clear e2; subst e3
      clear hq1 hq2
      have HR := Lib.hid hr
      generalize l'[j]'(by rw [HL.out]; exact hjn) = r at hr HR
      obtain ⟨rid, rup, rs, rf⟩ := r
      have hjl : j < l'.length := by rw [HL.out]; exact hjn
      have HJ := Lib.hid hjl
      obtain ⟨c0, f0⟩ := own_cell HW.out hr (j := 0) rfl
      obtain ⟨c1, f1⟩ := own_cell HW.out hr (j := 1) rfl
      change wr.cell? ⟨g, j * 5, none⟩ = some (.int .i64 rid) at c0
      change wr.frozen? ⟨g, j * 5, none⟩ = _ at f0
      change wr.cell? ⟨g, j * 5 + 1, none⟩ = some (.bool rup) at c1
      change wr.frozen? ⟨g, j * 5 + 1, none⟩ = _ at f1
      have O1 : OwnAt nkS 36 B ((wr.setCell ⟨g, j * 5, none⟩ (.int .i64 y)).setCell ⟨g, j * 5 + 1, none⟩ (.bool (bd (y + 1)))) (.slice (some ⟨g, 0, none⟩) n c) ((l'.set j ⟨y, rup, rs, rf⟩).set j ⟨y, bd (y + 1), rs, rf⟩) :=
        own_put (S := nkS) (m := 1) (own_put (S := nkS) (m := 0) (r' := ⟨y, rup, rs, rf⟩) HW.out hr (by decide) rfl (oth5 (fun q h5 hq => by match q, h5, hq with | 1, _, _ => rfl | 2, _, _ => rfl | 3, _, _ => rfl | 4, _, _ => rfl))) (List.getElem?_set_self hjl) (by decide) rfl (oth5 (fun q h5 hq => by match q, h5, hq with | 0, _, _ => rfl | 2, _, _ => rfl | 3, _, _ => rfl | 4, _, _ => rfl))
      rw [List.set_set] at O1
      have HO1 := Lib.hid O1
      have HG1 := Lib.hid (grown_put (grown_put HG.out (j * 5) (.int .i64 y)) (j * 5 + 1) (.bool (bd (y + 1))))
      have hj1 : (j : Int) < (n : Int) := by omega
      clear hr O1 HW HG hjl
      go_wp2_with fail
      clear c0 c1 f0 f1
      generalize (wr.setCell ⟨g, j * 5, none⟩ (.int .i64 y)).setCell ⟨g, j * 5 + 1, none⟩ (.bool (bd (y + 1))) = W1 at HO1 HG1 ⊢
      refine (mark_int (y + 1 + 1) (by omega) (by omega) _).mono ?_
      rintro e w2 ⟨rfl, hB2⟩
      have O2 := HO1.out.later hB2
      have hs2 : (l'.set j ⟨y, bd (y + 1), rs, rf⟩)[j]? = some ⟨y, bd (y + 1), rs, rf⟩ := List.getElem?_set_self HJ.out
      obtain ⟨c2, f2⟩ := own_cell O2 hs2 (j := 2) rfl
      obtain ⟨c3, f3⟩ := own_cell O2 hs2 (j := 3) rfl
      obtain ⟨c4, _⟩ := own_cell O2 hs2 (j := 4) rfl
      change w2.cell? ⟨g, j * 5 + 2, none⟩ = some (.string rs) at c2
      change w2.frozen? ⟨g, j * 5 + 2, none⟩ = _ at f2
      change w2.cell? ⟨g, j * 5 + 3, none⟩ = some (.int .i64 rf) at c3
      change w2.frozen? ⟨g, j * 5 + 3, none⟩ = _ at f3
      change w2.cell? ⟨g, j * 5 + 4, none⟩ = some no at c4
      have HG2 := Lib.hid (kp.grown_on HG1.out hB2)
      generalize hmt : mt (y + 1 + 1).toNat = txt
      have HM := Lib.hid hmt
      clear hmt
      have O3 : OwnAt nkS 36 B ((w2.setCell ⟨g, j * 5 + 2, none⟩ (.string txt)).setCell ⟨g, j * 5 + 3, none⟩ (.int .i64 (y + 1 + 1 + 1))) (.slice (some ⟨g, 0, none⟩) n c) (((l'.set j ⟨y, bd (y + 1), rs, rf⟩).set j ⟨y, bd (y + 1), txt, rf⟩).set j ⟨y, bd (y + 1), txt, y + 1 + 1 + 1⟩) :=
        own_put (S := nkS) (m := 3) (own_put (S := nkS) (m := 2) (r' := ⟨y, bd (y + 1), txt, rf⟩) O2 hs2 (by decide) rfl (oth5 (fun q h5 hq => by match q, h5, hq with | 0, _, _ => rfl | 1, _, _ => rfl | 3, _, _ => rfl | 4, _, _ => rfl))) (List.getElem?_set_self (by rw [List.length_set]; exact HJ.out)) (by decide) rfl (oth5 (fun q h5 hq => by match q, h5, hq with | 0, _, _ => rfl | 1, _, _ => rfl | 2, _, _ => rfl | 4, _, _ => rfl))
      rw [List.set_set, List.set_set] at O3
      have HO3 := Lib.hid O3
      have HG3 := Lib.hid (kp.grown_put (kp.grown_put HG2.out (j * 5 + 2) (.string txt)) (j * 5 + 3) (.int .i64 (y + 1 + 1 + 1)))
      clear O2 O3 hB2 hs2 HO1 HG1 HG2
      go_wp2_with fail
      clear c2 c3 c4 f2 f3
      generalize (w2.setCell ⟨g, j * 5 + 2, none⟩ (.string txt)).setCell ⟨g, j * 5 + 3, none⟩ (.int .i64 (y + 1 + 1 + 1)) = W3 at HO3 HG3 ⊢
      refine (markH_nil _ _).mono ?_
      rintro e w4 ⟨rfl, hB4⟩
      have HO4 := Lib.hid (HO3.out.later hB4)
      have HG4 := Lib.hid (kp.grown_on HG3.out hB4)
      have HY2 := Lib.hid (show y + 1 + 1 + 1 + 1 = x + 4 * ((j + 1 : Nat) : Int) by have := HY.out; omega)
      have HD2 := Lib.hid (show ∀ i, i < j + 1 → (l'.set j ⟨y, bd (y + 1), txt, y + 1 + 1 + 1⟩)[i]? = some (nkM (x + 4 * i)) from fun i hi => by
        by_cases e : i = j
        · subst e
          rw [List.getElem?_set_self HJ.out, ← HM.out, ← HY.out]
          rfl
        · rw [List.getElem?_set_ne (fun e' => e e'.symm)]
          exact HD.out i (by omega))
      clear hB4 HO3 HG3
      go_wp2
      go_roundw
      case rel => exact ⟨j + 1, _, _, by omega, by go_num, rfl, HY2.out, by omega, by omega, (by show (l'.set j _).length = n; rw [List.length_set]; exact HL.out), HD2.out, HO4.out, HG4.out⟩
      case measure => simp [intOf]; omega
    · obtain rfl : j = n := by omega
      have R := Lib.hid (show OwnAt nkS 36 B wr (.slice A j c) (nkMs x j) by rw [← nkMs_of HL.out HD.out]; exact HW.out)
      go_wp2
      go_ret
      exact ⟨ow.ret_int HY.out, R.out, HG.out⟩

def MarkedBo (w : World) (v : Value) (B n : Nat) (x : Int) (e : Ending) (w' : World) : Prop := e = .returned (.int .i64 (x + n)) ∧ OwnAt boS 4 B w' v (boMs x n) ∧ w.grownBy w' v.ownBlock
set_option maxRecDepth 100000 in
set_option maxHeartbeats 1600000 in
theorem markBos_any {w : World} {v : Value} {B : Nat} {l : List Bool} (h : OwnAt boS 4 B w v l) (x : Int) (hx : 1 ≤ x) (hn : x + l.length < 100000000) :
    Calls Try.prog 17 #[v, .int .i64 x] w (MarkedBo w v B l.length x) := by
  obtain ⟨n, hN⟩ : ∃ n, n = l.length := ⟨_, rfl⟩
  rw [← hN] at hn ⊢
  rcases h.2 with ⟨rfl, h0⟩ | ⟨g, cap, cur, rfl, hb, hh, hnc, hm, hs, _⟩
  · obtain rfl : n = 0 := by omega
    clear h h0 hN
    go_enter Try.func17, Try.ntmps17
    go_wp2
    go_loop [1, 5] (fun a i => i = .int .i64 0 ∧ a = .int .i64 x) (fun _ _ => 0)
    case atStart => exact ⟨rfl, rfl⟩
    case round =>
      obtain ⟨rfl, rfl⟩ := hrel
      go_wp2
      go_ret
      exact ⟨by simp, World.ownsRow_nil _ _ _ _, grown_refl _ _⟩
  · rw [← hN] at hnc ⊢
    have HR := Lib.hid (show Fill boS 4 g cap (boMs x n) 0 w from ⟨cur, hh, hs, fun i y hi => absurd hi (by omega)⟩)
    have HG := Lib.hid hb
    have hm' : cap ≤ 9223372036854775807 := hm
    have HM := Lib.hid hm
    clear h hh hs hb hN hm
    go_enter Try.func17, Try.ntmps17
    go_wp2
    go_loopw [1, 5] (fun a i wr => ∃ (j : Nat) (y : Int), j ≤ n ∧ i = .int .i64 j ∧ a = .int .i64 y ∧ Hid (y = x + j) ∧ 1 ≤ y ∧ y + (n - j : Nat) < 100000000 ∧ Hid (Fill boS 4 g cap (boMs x n) j wr) ∧ Hid (w.grownBy wr (some g))) (fun _ i _ => (n + 1 : Nat) - (intOf i).toNat)
    case atStart => exact ⟨0, x, by omega, rfl, rfl, by show x = x + ((0 : Nat) : Int); omega, hx, by omega, HR.out, grown_refl _ _⟩
    case round =>
      obtain ⟨j, y, hj, rfl, rfl, HY, y0, y1, HF, HW⟩ := hrel
      clear HR
      by_cases hjn : j < n
      · have hP0 := FillP.of HF.out
        have ha : (boMs x n)[j]? = some (bd y) := by rw [boMs_at hjn, HY.out]
        have hjc : j < cap := by omega
        have hP1 := FillP.done (hP0.set (m := 0) hjc (by decide) ha (u := .bool (bd y)) rfl)
        obtain ⟨⟨x0, c0⟩, f0⟩ := hP0.cell hjc (j := 0) (by decide)
        have e0 : j * boS.n + 0 = j := by show j * 1 + 0 = j; omega
        rw [e0] at hP1 c0 f0
        have R := Lib.hid hP1
        have HW1 := Lib.hid (grown_put HW.out j (.bool (bd y)))
        have hj1 : (j : Int) < (n : Int) := by omega
        have HY2 := Lib.hid (show y + 1 = x + ((j + 1 : Nat) : Int) by have := HY.out; omega)
        clear hP0 hP1 ha e0 HF HW
        go_wp2
        go_roundw
        case rel => exact ⟨j + 1, y + 1, by omega, by go_num, rfl, HY2.out, by omega, by omega, R.out, HW1.out⟩
        case measure => simp [intOf]; omega
      · obtain rfl : j = n := by omega
        have R := Lib.hid (Fill.ownAt (B := B) (l := boMs x j) (by rw [boMs_len]; exact HF.out) HG.out (by rw [boMs_len]; exact hnc) HM.out)
        rw [boMs_len] at R
        go_wp2
        go_ret
        exact ⟨ow.ret_int HY.out, R.out, HW.out⟩

set_option maxRecDepth 100000 in
set_option maxHeartbeats 1600000 in
theorem heldBos_any (w : World) (v : Value) (x : Int) (n : Nat) (h : SeesR boS w v (boMs x n)) (hx : 1 ≤ x) (hn : x + n < 100000000) :
    Calls Try.prog 21 #[v, .int .i64 x] w (IPost w (x + n)) := by
  have HS := Lib.hid h
  obtain ⟨A, c, rfl, _⟩ := h
  have HL := Lib.hid (boMs_len x n)
  rw [boMs_len]
  go_enter Try.func21, Try.ntmps21
  go_wp2
  go_loopw [1, 5] (fun a i wr => ∃ (j : Nat) (y : Int), j ≤ n ∧ i = .int .i64 j ∧ a = .int .i64 y ∧ Hid (y = x + j) ∧ 1 ≤ y ∧ y + (n - j : Nat) < 100000000 ∧ Below w.heap.size w wr) (fun _ i _ => (n + 1 : Nat) - (intOf i).toNat)
  case atStart => exact ⟨0, x, by omega, rfl, rfl, by show x = x + ((0 : Nat) : Int); omega, hx, by omega, Below.refl _ _⟩
  case round =>
    obtain ⟨j, y, hj, rfl, rfl, HY, y0, y1, hB⟩ := hrel
    by_cases hjn : j < n
    · have ha : (boMs x n)[j]? = some (bd y) := by rw [boMs_at hjn, HY.out]
      obtain ⟨g, c', e, hg, _, t0⟩ := bo_at (HS.out.later hB) ha
      rw [HL.out] at e
      injection e with e1 e2 e3
      subst e1; subst e3
      have hj0 : (0 : Int) ≤ (j : Int) := by omega
      have hj1 : (j : Int) < (n : Int) := by omega
      have HY2 := Lib.hid (show y + 1 = x + ((j + 1 : Nat) : Int) by have := HY.out; omega)
      clear ha e2
      go_wp2
      go_roundw
      case rel => exact ⟨j + 1, y + 1, by omega, by go_num, rfl, HY2.out, by omega, by omega, hB⟩
      case measure => simp [intOf]; omega
    · obtain rfl : j = n := by omega
      go_wp2
      go_ret
      exact ⟨ow.ret_int HY.out, hB⟩

set_option maxRecDepth 100000 in
set_option maxHeartbeats 1600000 in
theorem heldKrs_any (w : World) (v : Value) (x : Int) (n : Nat) (h : SeesR nkS w v (nkMs x n)) (hx : 1 ≤ x) (hn : x + 4 * n < 100000000) :
    Calls Try.prog 20 #[v, .int .i64 x] w (IPost w (x + 4 * n)) := by
  have HS := Lib.hid h
  obtain ⟨A, c, rfl, _⟩ := h
  have HL := Lib.hid (nkMs_len x n)
  rw [nkMs_len]
  go_enter Try.func20, Try.ntmps20
  go_wp2
  go_loopw [1, 5] (fun a i wr => ∃ (j : Nat) (y : Int), j ≤ n ∧ i = .int .i64 j ∧ a = .int .i64 y ∧ Hid (y = x + 4 * j) ∧ 1 ≤ y ∧ y + 4 * (n - j : Nat) < 100000000 ∧ Below w.heap.size w wr) (fun _ i _ => (n + 1 : Nat) - (intOf i).toNat)
  case atStart => exact ⟨0, x, by omega, rfl, rfl, by show x = x + 4 * ((0 : Nat) : Int); omega, hx, by omega, Below.refl _ _⟩
  case round =>
    obtain ⟨j, y, hj, rfl, rfl, HY, y0, y1, hB⟩ := hrel
    by_cases hjn : j < n
    · have ha : (nkMs x n)[j]? = some (nkM y) := by rw [nkMs_at hjn, HY.out]
      obtain ⟨g, c', e, hg, _, t0, t1, t2, t3, t4⟩ := nk_at (HS.out.later hB) ha
      rw [HL.out] at e
      injection e with e1 e2 e3
      subst e1; subst e3
      change wr.cell? ⟨g, j * 5, none⟩ = some (.int .i64 y) at t0
      change wr.cell? ⟨g, j * 5 + 1, none⟩ = some (.bool (bd (y + 1))) at t1
      change wr.cell? ⟨g, j * 5 + 2, none⟩ = some (.string (mt (y + 1 + 1).toNat)) at t2
      change wr.cell? ⟨g, j * 5 + 3, none⟩ = some (.int .i64 (y + 1 + 1 + 1)) at t3
      have hj0 : (0 : Int) ≤ (j : Int) := by omega
      have hj1 : (j : Int) < (n : Int) := by omega
      have hz := hB.size
      have HY2 := Lib.hid (show y + 1 + 1 + 1 + 1 = x + 4 * ((j + 1 : Nat) : Int) by have := HY.out; omega)
      have HM := Lib.hid (fun V => mark_int (y + 1 + 1) (by omega) (by omega) V)
      clear ha e2
      generalize mt (y + 1 + 1).toNat = txt at t2 HM
      go_wp2_with fail
      go_region_held3 (fun w' => w'.cell? ⟨g, j * 5 + 2, none⟩ = some (.string txt)) (first | exact t2 | exact s1 | go_keep) ((go_at_call 31; refine (HM.out _).mono ?_; rintro e w2 ⟨rfl, hB2⟩; have s1 := (hB2.cell (p := ⟨g, j * 5 + 2, none⟩) hg).trans t2))
      have s3 := (hB2.cell (p := ⟨g, j * 5 + 3, none⟩) hg).trans t3
      have s4 := (hB2.cell (p := ⟨g, j * 5 + 4, none⟩) hg).trans t4
      have hB3 : Below w.heap.size w w2 := hB.trans (Below.mono ⟨hB2.os, hB2.tape, hB2.output, hB2.size, hB2.block⟩ hz)
      clear hB2 s1 t0 t1 t2 t3 t4 hB
      go_wp2_with fail
      refine (heldH_nil _ _).mono ?_
      rintro e w4 ⟨rfl, hB4⟩
      have HB4 := Lib.hid (hB3.trans (hB4.mono hB3.size))
      have hneg : ¬ y + 1 + 1 + 1 + 1 < 0 := by omega
      clear hB3 hB4 s3 s4
      go_wp2
      go_roundw
      case rel => exact ⟨j + 1, y + 1 + 1 + 1 + 1, by omega, by go_num, rfl, HY2.out, by omega, by omega, HB4.out⟩
      case measure => simp [intOf]; omega
    · obtain rfl : j = n := by omega
      go_wp2
      go_ret
      exact ⟨ow.ret_int HY.out, hB⟩
end Go.Proofs.Ytckicpnnclbkpaa.kr
