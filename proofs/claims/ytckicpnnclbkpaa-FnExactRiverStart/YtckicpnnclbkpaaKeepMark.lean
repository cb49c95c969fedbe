/-
  Contracts of the laws' own helpers: markNoteS, markMarkS, markKeep: what a keeper has is written over by marks, list by list.
-/
import Derived.Test.YtckicpnnclbkpaaKeepOwn
import Derived.Test.YtckicpnnclbkpaaStrLists
namespace Go.Proofs.Ytckicpnnclbkpaa.kp
open Go.ChangeShapes Go.WideShapes Go.ChangeAt Go.RowKit
open Go.Proofs.Ytckicpnnclbkpaa.wd Go.Proofs.Ytckicpnnclbkpaa.ow Go.Proofs.Ytckicpnnclbkpaa.rl Go.Proofs.Ytckicpnnclbkpaa.ok Go.Proofs.Ytckicpnnclbkpaa.sl

/-- k records, and m cells of the next one, lie in block g -/
def FillP {α : Type} (S : Shape α) (t : TypeId) (g n : Nat) (l : List α) (k m : Nat) (w : World) : Prop :=
  ∃ cur, Blk w g t cur ∧ cur.size = n * S.n ∧ (∀ i x, i < k → l[i]? = some x → ∀ j u, (S.f x)[j]? = some u → cur[i * S.n + j]? = some u) ∧ (∀ x, l[k]? = some x → ∀ j u, j < m → (S.f x)[j]? = some u → cur[k * S.n + j]? = some u)
section
variable {α : Type} {S : Shape α} {t : TypeId} {g n k m : Nat} {l : List α} {w w' w0 : World}
theorem FillP.of (h : Fill S t g n l k w) : FillP S t g n l k 0 w := by
  obtain ⟨cur, h1, h2, h3⟩ := h
  exact ⟨cur, h1, h2, h3, fun x _ j u hj => absurd hj (by omega)⟩
theorem FillP.later (h : FillP S t g n l k m w) (hB : Below w.heap.size w w') : FillP S t g n l k m w' := by
  obtain ⟨cur, h1, h2, h3, h4⟩ := h
  exact ⟨cur, h1.below hB h1.lt, h2, h3, h4⟩
theorem FillP.set (h : FillP S t g n l k m w) (hk : k < n) (hm : m < S.n) {x : α} (hx : l[k]? = some x) {u : Value} (hu : (S.f x)[m]? = some u) : FillP S t g n l k (m + 1) (w.setCell ⟨g, k * S.n + m, none⟩ u) := by
  obtain ⟨cur, h1, h2, h3, h4⟩ := h
  have hb : (k + 1) * S.n ≤ n * S.n := Nat.mul_le_mul_right _ hk
  rw [Nat.succ_mul] at hb
  refine ⟨_, h1.put _ _, by simpa using h2, fun i y hi hy j v hv => ?_, fun y hy j v hj hv => ?_⟩
  · have hj : j < S.n := by have := (List.getElem?_eq_some_iff.1 hv).1; rwa [S.len] at this
    have hlt : (i + 1) * S.n ≤ k * S.n := Nat.mul_le_mul_right _ (by omega)
    rw [Nat.succ_mul] at hlt
    rw [Array.getElem?_setIfInBounds, if_neg (by omega)]
    exact h3 i y hi hy j v hv
  · rw [Array.getElem?_setIfInBounds]
    by_cases e : j = m
    · subst e
      rw [hx] at hy
      injection hy with hy
      subst hy
      rw [hu] at hv
      rw [if_pos rfl, if_pos (by omega)]
      exact hv
    · rw [if_neg (by omega)]
      exact h4 y hy j v (by omega) hv
theorem FillP.done (h : FillP S t g n l k S.n w) : Fill S t g n l (k + 1) w := by
  obtain ⟨cur, h1, h2, h3, h4⟩ := h
  refine ⟨cur, h1, h2, fun i x hi hx j u hu => ?_⟩
  by_cases e : i = k
  · subst e
    exact h4 x hx j u (by have := (List.getElem?_eq_some_iff.1 hu).1; rwa [S.len] at this) hu
  · exact h3 i x (by omega) hx j u hu
theorem FillP.cell (h : FillP S t g n l k m w) (hk : k < n) {j : Nat} (hj : j < S.n) : (∃ x, w.cell? ⟨g, k * S.n + j, none⟩ = some x) ∧ w.frozen? ⟨g, k * S.n + j, none⟩ = false := by
  obtain ⟨cur, h1, h2, _⟩ := h
  have hm : (k + 1) * S.n ≤ n * S.n := Nat.mul_le_mul_right _ hk
  rw [Nat.succ_mul] at hm
  refine ⟨⟨cur[k * S.n + j]'(by omega), ?_⟩, h1.frozen _⟩
  rw [h1.cell]; exact Array.getElem?_eq_getElem (by omega)
theorem Fill.ownAt {B cap : Nat} (h : Fill S t g cap l l.length w) (hg : B ≤ g) (hc : l.length ≤ cap) (hm : cap ≤ maxLen) : OwnAt S t B w (.slice (some ⟨g, 0, none⟩) l.length cap) l := by
  obtain ⟨cur, h1, h2, h3⟩ := h
  have hle : l.length * S.n ≤ cap * S.n := Nat.mul_le_mul_right _ hc
  have h4 : cur.toList.length = cap * S.n := by simpa using h2
  have hf : cur.toList.take (l.length * S.n) = l.flatMap S.f := flat_of S (by rw [List.length_take]; omega) (fun i x hx j u hu => by
    have hj : j < S.n := by have := (List.getElem?_eq_some_iff.1 hu).1; rwa [S.len] at this
    have hi := (List.getElem?_eq_some_iff.mp hx).1
    have hlt : (i + 1) * S.n ≤ l.length * S.n := Nat.mul_le_mul_right _ hi
    rw [Nat.succ_mul] at hlt
    rw [List.getElem?_take_of_lt (by omega)]
    have := h3 i x hi hx j u hu
    simpa using this)
  exact ⟨by rw [flat_len S.len], .inr ⟨g, cap, cur, rfl, hg, h1, hc, hm, h2, hf⟩⟩
theorem grown_put {w W : World} {g : Nat} (h : w.grownBy W (some g)) (i : Nat) (v : Value) : w.grownBy (W.setCell ⟨g, i, none⟩ v) (some g) :=
  ⟨h.os, h.tape, h.output, by simpa using h.size, fun k hk hne => (Below.heap_setCell W ⟨g, i, none⟩ v k (fun e => hne (by rw [e]))).trans (h.block k hk hne)⟩
theorem grown_on {w W W' : World} {r : Option Nat} (h : w.grownBy W r) (hB : Below W.heap.size W W') : w.grownBy W' r :=
  ⟨hB.os.trans h.os, hB.tape.trans h.tape, hB.output.trans h.output, Nat.le_trans h.size hB.size, fun k hk hne => (hB.block k (Nat.lt_of_lt_of_le hk h.size)).trans (h.block k hk hne)⟩
theorem grown_refl (w : World) (r : Option Nat) : w.grownBy w r := ⟨rfl, rfl, rfl, Nat.le_refl _, fun _ _ _ => rfl⟩
end

/-- what a mark writes -/
def ntM (x : Int) : Nt := ⟨x, x + 1, x + 1 + 1, x + 1 + 1 + 1, mt (x + 1 + 1 + 1 + 1).toNat⟩
def mkM (x : Int) : Mk := ⟨x, x + 1, x + 1 + 1⟩
def ntMs (x : Int) (n : Nat) : List Nt := (List.range n).map fun i : Nat => ntM (x + 5 * i)
def mkMs (x : Int) (n : Nat) : List Mk := (List.range n).map fun i : Nat => mkM (x + 3 * i)
theorem ntMs_len (x : Int) (n : Nat) : (ntMs x n).length = n := by simp [ntMs]
theorem mkMs_len (x : Int) (n : Nat) : (mkMs x n).length = n := by simp [mkMs]
theorem ntMs_at {x : Int} {n i : Nat} (h : i < n) : (ntMs x n)[i]? = some (ntM (x + 5 * i)) := by simp [ntMs, h]
theorem mkMs_at {x : Int} {n i : Nat} (h : i < n) : (mkMs x n)[i]? = some (mkM (x + 3 * i)) := by simp [mkMs, h]

theorem mark_int (x : Int) (h0 : 1 ≤ x) (h1 : x < 100000000) (w : World) : Calls Try.prog 31 #[.int .i64 x] w (StrPost w (mt x.toNat)) := by
  obtain ⟨m, rfl⟩ := Int.eq_ofNat_of_zero_le (show 0 ≤ x by omega)
  exact mark_text m (by omega) (by omega) w

def MarkedN (w : World) (v : Value) (B n : Nat) (x : Int) (e : Ending) (w' : World) : Prop := e = .returned (.int .i64 (x + 5 * n)) ∧ OwnAt ntS 60 B w' v (ntMs x n) ∧ w.grownBy w' v.ownBlock
def MarkedM (w : World) (v : Value) (B n : Nat) (x : Int) (e : Ending) (w' : World) : Prop := e = .returned (.int .i64 (x + 3 * n)) ∧ OwnAt mkS 100 B w' v (mkMs x n) ∧ w.grownBy w' v.ownBlock

set_option maxRecDepth 100000 in
set_option maxHeartbeats 1600000 in
theorem markN_any {w : World} {v : Value} {B : Nat} {l : List Nt} (h : OwnAt ntS 60 B w v l) (x : Int) (hx : 1 ≤ x) (hn : x + 5 * l.length < 100000000) :
    Calls Try.prog 19 #[v, .int .i64 x] w (MarkedN w v B l.length x) := by
  obtain ⟨n, hN⟩ : ∃ n, n = l.length := ⟨_, rfl⟩
  rw [← hN] at hn ⊢
  rcases h.2 with ⟨rfl, h0⟩ | ⟨g, cap, cur, rfl, hb, hh, hnc, hm, hs, _⟩
  · obtain rfl : n = 0 := by omega
    clear h h0 hN
    go_enter Try.func19, Try.ntmps19
    go_wp2
    go_loop [1, 5] (fun a i => i = .int .i64 0 ∧ a = .int .i64 x) (fun _ _ => 0)
    case atStart => exact ⟨rfl, rfl⟩
    case round =>
      obtain ⟨rfl, rfl⟩ := hrel
      go_wp2
      go_ret
      exact ⟨by simp, World.ownsRow_nil _ _ _ _, grown_refl _ _⟩
  · rw [← hN] at hnc ⊢
    have HR := Lib.hid (show Fill ntS 60 g cap (ntMs x n) 0 w from ⟨cur, hh, hs, fun i y hi => absurd hi (by omega)⟩)
    have HG := Lib.hid hb
    have hm' : cap ≤ 9223372036854775807 := hm
    have HM := Lib.hid hm
    clear h hh hs hb hN hm
    go_enter Try.func19, Try.ntmps19
    go_wp2
    go_loopw [1, 5] (fun a i wr => ∃ (j : Nat) (y : Int), j ≤ n ∧ i = .int .i64 j ∧ a = .int .i64 y ∧ Hid (y = x + 5 * j) ∧ 1 ≤ y ∧ y + 5 * (n - j : Nat) < 100000000 ∧ Hid (Fill ntS 60 g cap (ntMs x n) j wr) ∧ Hid (w.grownBy wr (some g))) (fun _ i _ => (n + 1 : Nat) - (intOf i).toNat)
    case atStart => exact ⟨0, x, by omega, rfl, rfl, by show x = x + 5 * ((0 : Nat) : Int); omega, hx, by omega, HR.out, grown_refl _ _⟩
    case round =>
      obtain ⟨j, y, hj, rfl, rfl, HY, y0, y1, HF, HW⟩ := hrel
      clear HR
      by_cases hjn : j < n
      · have hP0 := FillP.of HF.out
        have ha : (ntMs x n)[j]? = some (ntM y) := by rw [ntMs_at hjn, HY.out]
        have hjc : j < cap := by omega
        have hP1 := hP0.set (m := 0) hjc (by decide) ha (u := .int .i64 y) rfl
        have hP2 := hP1.set (m := 1) hjc (by decide) ha (u := .int .i64 (y + 1)) rfl
        have hP3 := hP2.set (m := 2) hjc (by decide) ha (u := .int .i64 (y + 1 + 1)) rfl
        have hP4 := Lib.hid (hP3.set (m := 3) hjc (by decide) ha (u := .int .i64 (y + 1 + 1 + 1)) rfl)
        have hW4 := Lib.hid (grown_put (grown_put (grown_put (grown_put HW.out (j * 5) (.int .i64 y)) (j * 5 + 1) (.int .i64 (y + 1))) (j * 5 + 2) (.int .i64 (y + 1 + 1))) (j * 5 + 3) (.int .i64 (y + 1 + 1 + 1)))
        obtain ⟨⟨x0, c0⟩, f0⟩ := hP0.cell hjc (j := 0) (by decide)
        obtain ⟨⟨x1, c1⟩, f1⟩ := hP0.cell hjc (j := 1) (by decide)
        obtain ⟨⟨x2, c2⟩, f2⟩ := hP0.cell hjc (j := 2) (by decide)
        obtain ⟨⟨x3, c3⟩, f3⟩ := hP0.cell hjc (j := 3) (by decide)
        change wr.cell? ⟨g, j * 5, none⟩ = _ at c0
        change wr.frozen? ⟨g, j * 5, none⟩ = _ at f0
        change wr.cell? ⟨g, j * 5 + 1, none⟩ = _ at c1
        change wr.frozen? ⟨g, j * 5 + 1, none⟩ = _ at f1
        change wr.cell? ⟨g, j * 5 + 2, none⟩ = _ at c2
        change wr.frozen? ⟨g, j * 5 + 2, none⟩ = _ at f2
        change wr.cell? ⟨g, j * 5 + 3, none⟩ = _ at c3
        change wr.frozen? ⟨g, j * 5 + 3, none⟩ = _ at f3
        have HA := Lib.hid ha
        have hj1 : (j : Int) < (n : Int) := by omega
        clear hP0 hP1 hP2 hP3 ha
        go_wp2_with fail
        refine (mark_int (y + 1 + 1 + 1 + 1) (by omega) (by omega) _).mono ?_
        rintro e w2 ⟨rfl, hB2⟩
        have hP5 := hP4.out.later hB2
        have R := Lib.hid (FillP.done (hP5.set (m := 4) hjc (by decide) HA.out (u := .string (mt (y + 1 + 1 + 1 + 1).toNat)) rfl))
        have HW5 := Lib.hid (grown_put (grown_on hW4.out hB2) (j * 5 + 4) (.string (mt (y + 1 + 1 + 1 + 1).toNat)))
        have HY2 := Lib.hid (show y + 1 + 1 + 1 + 1 + 1 = x + 5 * ((j + 1 : Nat) : Int) by have := HY.out; omega)
        obtain ⟨⟨x4, c4⟩, f4⟩ := hP5.cell hjc (j := 4) (by decide)
        change w2.cell? ⟨g, j * 5 + 4, none⟩ = _ at c4
        change w2.frozen? ⟨g, j * 5 + 4, none⟩ = _ at f4
        clear hP5 hP4 hW4 hB2 HF HW c0 c1 c2 c3 f0 f1 f2 f3 HA
        generalize mt (y + 1 + 1 + 1 + 1).toNat = txt at R HW5 ⊢
        go_wp2
        go_roundw
        case rel => exact ⟨j + 1, y + 1 + 1 + 1 + 1 + 1, by omega, by go_num, rfl, HY2.out, by omega, by omega, R.out, HW5.out⟩
        case measure => simp [intOf]; omega
      · obtain rfl : j = n := by omega
        have R := Lib.hid (Fill.ownAt (B := B) (l := ntMs x j) (by rw [ntMs_len]; exact HF.out) HG.out (by rw [ntMs_len]; exact hnc) HM.out)
        rw [ntMs_len] at R
        go_wp2
        go_ret
        exact ⟨ow.ret_int HY.out, R.out, HW.out⟩

end Go.Proofs.Ytckicpnnclbkpaa.kp
