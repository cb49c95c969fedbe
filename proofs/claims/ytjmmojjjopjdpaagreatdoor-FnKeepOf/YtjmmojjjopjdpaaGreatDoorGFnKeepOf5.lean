/-
  Merged texts: DrawRec, RegSkip, RecL, KeepPlain, KeepRec.
-/
import Derived.Test.YtjmmojjjopjdpaaGreatDoorGFnKeepOf4
import Derived.Test.YtjmmojjjopjdpaaGreatDoorGFnKeepOf1
import Derived.Test.YtjmmojjjopjdpaaGreatDoorRows
import Derived.Test.YtjmmojjjopjdpaaGreatDoorGFnKeepOf3
import Derived.Deep.RegionHeld3
import Derived.Deep.QuietTactic
import Derived.BigQuiet
import Derived.Laws.AppendOwnNone
import Derived.BigFrame
import Derived.Deep.AppendLies
/-
  Contract of spec.l72Rec: whatever the code, a text of at most 100 bytes; nothing old is turned but the reader.
-/
namespace Go.Proofs.YtjmmojjjopjdpaaGreatDoor.dr
open Go.ChangeShapes Go.WideShapes Go.ChangeAt Go.RowKit
open Go.Proofs.YtjmmojjjopjdpaaGreatDoor.wd Go.Proofs.YtjmmojjjopjdpaaGreatDoor.pk Go.Proofs.YtjmmojjjopjdpaaGreatDoor.cp Go.Proofs.YtjmmojjjopjdpaaGreatDoor.ow Go.Proofs.YtjmmojjjopjdpaaGreatDoor.ok Go.Proofs.YtjmmojjjopjdpaaGreatDoor.dc

def OfMPost (M : Nat) (w : World) (b : Nat) (A : Option Addr) (len cap : Nat) (p : Int) (e : Ending) (w' : World) : Prop :=
  ∃ s : ByteArray, e = .returned (.string s) ∧ s.size ≤ M ∧ Rd w' b A len cap (p + 1) ∧ Only b w w'

theorem ofM_any (M : Nat) (w : World) (b : Nat) (A : Option Addr) (len cap : Nat) (p : Int) (h : Rd w b A len cap p) (hp : p ≤ 1000000) (g n : Nat) (cs : Array Value) (hg : Blk w g 9 cs) (hgb : g ≠ b) (hn : 1 ≤ n) (hn' : n ≤ 100)
    (hc : ∀ i, i < n → ∃ s : ByteArray, cs[i]? = some (.string s) ∧ s.size ≤ M) :
    Calls Tryz.prog 162 #[.pointer (some ⟨b, 0, none⟩), .slice (some ⟨g, 0, none⟩) n n] w (OfMPost M w b A len cap p) := by
  have HC := Lib.hid hc
  clear hc
  go_enter Tryz.func162, Tryz.ntmps162
  go_wp2_with fail
  refine (picked _ _ _ _ _ _ _ h hp (by omega) (by omega)).mono ?_
  rintro e w1 ⟨v, rfl, v0, v1, hR, hO⟩
  obtain ⟨i, rfl⟩ := Int.eq_ofNat_of_zero_le v0
  obtain ⟨s, hs, hz⟩ := HC.out i (by omega)
  have hg1 : Blk w1 g 9 cs := (hO.2.1 g hgb).trans hg
  have c := (hg1.cell i).trans hs
  have hi : i < n := by omega
  have HR := Lib.hid hR
  have HO := Lib.hid hO
  clear hR hO hs hg1 hg h
  go_wp2
  go_ret
  exact ⟨s, rfl, hz, HR.out, HO.out⟩
theorem fewM (M : Nat) (w : World) (b : Nat) (A : Option Addr) (len cap : Nat) (p : Int) (h : Rd w b A len cap p) (hp : p ≤ 1000000) (cs : Array Value) (n : Nat) (hn : 1 ≤ n) (hn' : n ≤ 100)
    (hc : ∀ i, i < n → ∃ s : ByteArray, cs[i]? = some (.string s) ∧ s.size ≤ M) :
    Calls Tryz.prog 162 #[.pointer (some ⟨b, 0, none⟩), .slice (some ⟨w.heap.size, 0, none⟩) n n] (w.alloc (.cells cs 9)) (OfMPost M (w.alloc (.cells cs 9)) b A len cap p) := by
  have hb := h.1.lt
  exact ofM_any M _ b A len cap p (rd_later h ((Below.refl _ _).alloc (by omega) _)) hp w.heap.size n cs (Blk.new w _ _) (by omega) hn hn' hc

theorem dl_len4r {n : Nat} (h : n ≤ 9999) : (dl (n : Int)).length ≤ 4 := by
  by_cases h1 : n < 10
  · rw [dl_one (by omega) (by omega)]; simp
  · have := dl_len (n := (n : Int) / 10) (by omega)
    rw [dl_step (by omega), List.length_append]
    simp
    omega
def SmallPost (m : Nat) (w : World) (e : Ending) (w' : World) : Prop := ∃ s : ByteArray, e = .returned (.string s) ∧ s.size ≤ m ∧ Below w.heap.size w w'

theorem decS (n : Int) (h0 : 0 ≤ n) (h1 : n ≤ 9999) (w : World) : Calls Tryz.prog 105 #[.int .i64 n] w (SmallPost 4 w) := by
  refine (dec_any n h0 h1 w).mono ?_
  rintro e w' ⟨rfl, hB⟩
  refine ⟨_, rfl, ?_, hB⟩
  obtain ⟨m, rfl⟩ := Int.eq_ofNat_of_zero_le h0
  rw [str_size]
  exact dl_len4r (by omega)

theorem three_any (a b c : Int) (a0 : 0 ≤ a) (a1 : a ≤ 9999) (b0 : 0 ≤ b) (b1 : b ≤ 9999) (c0 : 0 ≤ c) (c1 : c ≤ 9999) (w : World) :
    Calls Tryz.prog 107 #[.int .i64 a, .int .i64 b, .int .i64 c] w (SmallPost 20 w) := by
  have q1 : (⟨#[32]⟩ : ByteArray).size = 1 := rfl
  go_enter Tryz.func107, Tryz.ntmps107
  go_wp2_with fail
  refine (decS a a0 a1 _).mono ?_
  rintro e w1 ⟨x, rfl, hx, hB1⟩
  obtain ⟨y1, ey1, qy1, ry1⟩ := adds x ⟨#[32]⟩ (by omega)
  clear ey1
  go_wp2_with fail
  refine (decS b b0 b1 _).mono ?_
  rintro e w2 ⟨x2, rfl, hx2, hB2⟩
  obtain ⟨y2, ey2, qy2, ry2⟩ := adds y1 x2 (by omega)
  obtain ⟨y3, ey3, qy3, ry3⟩ := adds y2 ⟨#[32]⟩ (by omega)
  have hB3 := hB1.trans (hB2.mono hB1.size)
  clear ey2 ey3 hB1 hB2
  go_wp2_with fail
  refine (decS c c0 c1 _).mono ?_
  rintro e w3 ⟨x3, rfl, hx3, hB4⟩
  obtain ⟨y4, ey4, qy4, ry4⟩ := adds y3 x3 (by omega)
  have HB := Lib.hid (hB3.trans (hB4.mono hB3.size))
  clear ey4 hB3 hB4
  have hy : y4.size ≤ 20 := by omega
  clear qy1 qy2 qy3 qy4
  go_wp2
  go_ret
  exact ⟨y4, rfl, hy, HB.out⟩

def RecPost (w : World) (b : Nat) (A : Option Addr) (len cap : Nat) (p : Int) (e : Ending) (w' : World) : Prop :=
  ∃ (s : ByteArray) (p' : Int), e = .returned (.string s) ∧ s.size ≤ 100 ∧ p ≤ p' ∧ p' ≤ p + 60 ∧ Rd w' b A len cap p' ∧ w.grownBy w' (some b)
theorem fiveR {i : Nat} (h : i < 5) : i = 0 ∨ i = 1 ∨ i = 2 ∨ i = 3 ∨ i = 4 := by omega
theorem fourteen {i : Nat} (h : i < 14) : i = 0 ∨ i = 1 ∨ i = 2 ∨ i = 3 ∨ i = 4 ∨ i = 5 ∨ i = 6 ∨ i = 7 ∨ i = 8 ∨ i = 9 ∨ i = 10 ∨ i = 11 ∨ i = 12 ∨ i = 13 := by omega
theorem nw_size (f n t u : Int) (s : ByteArray) : (nw f n t u s).size ≤ 40 := by
  cases h : okN f n t u s with
  | false => rw [nw_f h, str_size]; simp
  | true =>
    rw [nw_t h]
    obtain ⟨⟨_, _⟩, ⟨_, _⟩, ⟨_, _⟩, ⟨_, _⟩, ⟨_, _⟩, _⟩ := okN_parts h
    have a1 := dl_len (n := f) (by omega)
    have a2 := dl_len (n := n) (by omega)
    have a3 := dl_len (n := t) (by omega)
    have a4 := dl_len (n := u) (by omega)
    have a5 := Lib.size_eq s
    unfold dc.wr
    rw [str_size]
    unfold wl
    simp only [List.length_append, List.length_cons]
    omega

set_option maxRecDepth 100000 in
set_option maxHeartbeats 4000000 in
theorem rec72 (w : World) (b : Nat) (A : Option Addr) (len cap : Nat) (p : Int) (h : Rd w b A len cap p) (hp : p ≤ 700000) :
    Calls Tryz.prog 108 #[.pointer (some ⟨b, 0, none⟩)] w (RecPost w b A len cap p) := by
  have hb := h.1.lt
  go_enter Tryz.func108, Tryz.ntmps108
  go_wp2_with fail
  refine (picked _ _ _ _ _ _ _ h (by omega) (by omega) (by omega)).mono ?_
  rintro e w1 ⟨v, rfl, v0, v1, hR, hO⟩
  have hg1 := only_grown hO
  have hb1 := hR.1.lt
  clear hO h
  by_cases e0 : v = 0
  · subst e0
    go_wp2_with fail
    refine (picked _ _ _ _ _ _ _ hR (by omega) (by omega) (by omega)).mono ?_
    rintro e w2 ⟨n, rfl, n0, n1, hR2, hO2⟩
    have hg2 := grown_trans hg1 (only_grown hO2)
    have hb2 := hR2.1.lt
    clear hO2 hR hg1
    go_wp2_with fail
    refine (decS n n0 (by omega) _).mono ?_
    rintro e w3 ⟨x, rfl, hx, hB⟩
    have HR := Lib.hid (rd_later hR2 (hB.mono (by omega)))
    have HG := Lib.hid (grown_trans hg2 (below_grown hB _))
    clear hR2 hg2 hB
    have q5 : (⟨#[116, 105, 109, 101, 32]⟩ : ByteArray).size = 5 := rfl
    obtain ⟨y, ey, qy, ry⟩ := adds ⟨#[116, 105, 109, 101, 32]⟩ x (by omega)
    have hy : y.size ≤ 100 := by omega
    clear ey qy
    go_wp2
    go_ret
    exact ⟨y, p + 1 + 1, rfl, hy, by omega, by omega, HR.out, HG.out⟩
  have k0 : (v == 0) = false := by simpa using e0
  by_cases e1 : v = 1
  · subst e1
    go_wp2_with fail
    refine (picked _ _ _ _ _ _ _ hR (by omega) (by omega) (by omega)).mono ?_
    rintro e w2 ⟨n, rfl, n0, n1, hR2, hO2⟩
    have hg2 := grown_trans hg1 (only_grown hO2)
    clear hO2 hR hg1
    go_wp2_with fail
    refine (picked _ _ _ _ _ _ _ hR2 (by omega) (by omega) (by omega)).mono ?_
    rintro e w3 ⟨m, rfl, m0, m1, hR3, hO3⟩
    have hg3 := grown_trans hg2 (only_grown hO3)
    clear hO3 hR2 hg2
    go_wp2_with fail
    refine (picked _ _ _ _ _ _ _ hR3 (by omega) (by omega) (by omega)).mono ?_
    rintro e w4 ⟨u, rfl, u0, u1, hR4, hO4⟩
    have hg4 := grown_trans hg3 (only_grown hO4)
    have hb4 := hR4.1.lt
    clear hO4 hR3 hg3
    go_wp2_with fail
    refine (three_any n (1 + m) (1 + u) n0 (by omega) (by omega) (by omega) (by omega) (by omega) _).mono ?_
    rintro e w5 ⟨x, rfl, hx, hB⟩
    have HR := Lib.hid (rd_later hR4 (hB.mono (by omega)))
    have HG := Lib.hid (grown_trans hg4 (below_grown hB _))
    clear hR4 hg4 hB
    have q5 : (⟨#[108,101,116,32]⟩ : ByteArray).size = 4 := rfl
    obtain ⟨y, ey, qy, ry⟩ := adds ⟨#[108,101,116,32]⟩ x (by omega)
    have hy : y.size ≤ 100 := by omega
    clear ey qy
    go_wp2
    go_ret
    exact ⟨y, p + 1 + 1 + 1 + 1, rfl, hy, by omega, by omega, HR.out, HG.out⟩
  have k1 : (v == 1) = false := by simpa using e1
  by_cases e2 : v = 2
  · subst e2
    go_wp2_with fail
    refine (picked _ _ _ _ _ _ _ hR (by omega) (by omega) (by omega)).mono ?_
    rintro e w2 ⟨n, rfl, n0, n1, hR2, hO2⟩
    have hg2 := grown_trans hg1 (only_grown hO2)
    clear hO2 hR hg1
    go_wp2_with fail
    refine (picked _ _ _ _ _ _ _ hR2 (by omega) (by omega) (by omega)).mono ?_
    rintro e w3 ⟨m, rfl, m0, m1, hR3, hO3⟩
    have hg3 := grown_trans hg2 (only_grown hO3)
    clear hO3 hR2 hg2
    go_wp2_with fail
    refine (picked _ _ _ _ _ _ _ hR3 (by omega) (by omega) (by omega)).mono ?_
    rintro e w4 ⟨u, rfl, u0, u1, hR4, hO4⟩
    have hg4 := grown_trans hg3 (only_grown hO4)
    have hb4 := hR4.1.lt
    clear hO4 hR3 hg3
    go_wp2_with fail
    refine (three_any n (1 + m) (1 + u) n0 (by omega) (by omega) (by omega) (by omega) (by omega) _).mono ?_
    rintro e w5 ⟨x, rfl, hx, hB⟩
    have HR := Lib.hid (rd_later hR4 (hB.mono (by omega)))
    have HG := Lib.hid (grown_trans hg4 (below_grown hB _))
    clear hR4 hg4 hB
    have q5 : (⟨#[101,97,116,32]⟩ : ByteArray).size = 4 := rfl
    obtain ⟨y, ey, qy, ry⟩ := adds ⟨#[101,97,116,32]⟩ x (by omega)
    have hy : y.size ≤ 100 := by omega
    clear ey qy
    go_wp2
    go_ret
    exact ⟨y, p + 1 + 1 + 1 + 1, rfl, hy, by omega, by omega, HR.out, HG.out⟩
  have k2 : (v == 2) = false := by simpa using e2
  by_cases e3 : v = 3
  · subst e3
    go_wp2_with fail
    refine (many_any ⟨#[122]⟩ rfl 60 (by omega) _).mono ?_
    rintro e w2 ⟨s1, rfl, hs1, rfl⟩
    have HS1 := Lib.hid hs1
    clear hs1
    go_wp2_with fail
    refine (many_any ⟨#[122]⟩ rfl 61 (by omega) _).mono ?_
    rintro e w2 ⟨s2, rfl, hs2, rfl⟩
    have HS2 := Lib.hid hs2
    clear hs2
    go_wp2_with fail
    refine (fewM 61 _ _ _ _ _ _ hR (by omega) _ 14 (by omega) (by omega) ?_).mono ?_
    · intro i hi
      rcases fourteen hi with rfl | rfl | rfl | rfl | rfl | rfl | rfl | rfl | rfl | rfl | rfl | rfl | rfl | rfl
      all_goals first | exact ⟨_, rfl, by decide⟩ | exact ⟨_, rfl, by rw [HS1.out]; decide⟩ | exact ⟨_, rfl, by rw [HS2.out]; decide⟩
    rintro e w3 ⟨s, rfl, hs, hR3, hO3⟩
    have HR := Lib.hid hR3
    have HG := Lib.hid (grown_trans (grown_trans hg1 (below_grown ((Below.refl _ _).alloc (Nat.le_refl _) _) _)) (only_grown hO3))
    clear hR3 hO3 hR hg1
    have hy : s.size ≤ 100 := by omega
    go_wp2
    go_ret
    exact ⟨s, p + 1 + 1, rfl, hy, by omega, by omega, HR.out, HG.out⟩
  have k3 : (v == 3) = false := by simpa using e3
  go_wp2_with fail
  refine (fewM 6 _ _ _ _ _ _ hR (by omega) _ 5 (by omega) (by omega) ?_).mono ?_
  · intro i hi
    rcases fiveR hi with rfl | rfl | rfl | rfl | rfl
    all_goals exact ⟨_, rfl, by decide⟩
  rintro e w3 ⟨s, rfl, hs, hR3, hO3⟩
  have hg3 := grown_trans (grown_trans hg1 (below_grown ((Below.refl _ _).alloc (Nat.le_refl _) _) _)) (only_grown hO3)
  clear hO3 hR hg1
  go_wp2_with fail
  refine (note72 _ _ _ _ _ _ hR3 (by omega)).mono ?_
  rintro e w4 ⟨f, n, t, u, x, p', rfl, hx, hp0, hp1, hR4, hG4⟩
  have hg4 := grown_trans hg3 hG4
  have hb4 := hR4.1.lt
  have hxm : x.size ≤ maxLen := by unfold maxLen; omega
  have hnz := nw_size f n t u x
  clear hR3 hG4 hg3
  go_wp2_with fail
  refine (swrite_any f n t u x _ hxm).mono ?_
  rintro e w5 ⟨rfl, hB⟩
  have HR := Lib.hid (rd_later hR4 (hB.mono (by omega)))
  have HG := Lib.hid (grown_trans hg4 (below_grown hB _))
  clear hR4 hg4 hB
  generalize nw f n t u x = z at hnz ⊢
  obtain ⟨y, ey, qy, ry⟩ := adds s z (by omega)
  have hy : y.size ≤ 100 := by omega
  clear ey qy
  go_wp2
  go_ret
  exact ⟨y, p', rfl, hy, by omega, by omega, HR.out, HG.out⟩
end Go.Proofs.YtjmmojjjopjdpaaGreatDoor.dr

/-
  Going through a drawn region operation by operation, also past those that a guard shuts off: two laws with the slot written out.
-/
namespace Go.Proofs.YtjmmojjjopjdpaaGreatDoor.rs
variable {P : Program} {md : Region.Mode} {ops : Array Oper} {Q : Exit → Act → World → Prop} {S : World → Prop}

/-- an operation that is wanted, and yields v in every world that meets S -/
theorem want_take {i : Nat} (d : Tmp) {oi : Oper} {v : Value} {fuel : Nat} {listed : Array Bool} {a : Act} {w : World} (hi : ops[i]? = some oi) (hd : oi.dst = some d)
    (hs : Region.noSelect ops = true) (hf : Region.free md ops listed i = true) (hr : (Region.ready md ops listed).contains i = true)
    (hQ : ∀ c a w v, Q (.panic c) (a.put (some d) v) w → Q (.panic c) a w) (hw : Region.wanted oi (yielded ops a.tmps) = true) (hy : ∀ w, S w → (execOp a.eval oi).run P w = .ok (.value v) w) (hS : S w)
    (h : wpAnyH P md ops Q S fuel (listed.setIfInBounds i true) { a with tmps := a.tmps.setIfInBounds d v } w) : wpAnyH P md ops Q S (fuel + 1) listed a w :=
  wpAnyH_take hi hs hf hr (fun c a w hq => hQ c a w v (by rw [hd] at hq; exact hq)) (.inl ⟨hw, hy⟩) hS (by rw [hd]; exact h)
/-- an operation that its guard shuts off -/
theorem skip_take {i : Nat} (d : Tmp) {fuel : Nat} {listed : Array Bool} {a : Act} {w : World} (hd : (ops[i]?).map (fun o => o.dst) = some (some d))
    (hs : Region.noSelect ops = true) (hf : Region.free md ops listed i = true) (hr : (Region.ready md ops listed).contains i = true)
    (hQ : ∀ c a w v, Q (.panic c) (a.put (some d) v) w → Q (.panic c) a w) (hw : (ops[i]?).map (fun o => Region.wanted o (yielded ops a.tmps)) = some false) (hS : S w)
    (h : wpAnyH P md ops Q S fuel (listed.setIfInBounds i true) { a with tmps := a.tmps.setIfInBounds d undef } w) : wpAnyH P md ops Q S (fuel + 1) listed a w := by
  obtain ⟨oi, hi, hd⟩ := Option.map_eq_some_iff.1 hd
  rw [hi] at hw
  injection hw with hw
  exact wpAnyH_take hi hs hf hr (fun c a w hq => hQ c a w undef (by rw [hd] at hq; exact hq)) (.inr ⟨hw, rfl⟩) hS (by rw [hd]; exact h)
end Go.Proofs.YtjmmojjjopjdpaaGreatDoor.rs

/-
  Words: slices of records. A record's shape: how many cells it has, and which they are.
-/
namespace Go.Proofs.YtjmmojjjopjdpaaGreatDoor.rl
open Go.ChangeShapes Go.WideShapes Go.ChangeAt Go.RowKit
open Go.Proofs.YtjmmojjjopjdpaaGreatDoor.wd Go.Proofs.YtjmmojjjopjdpaaGreatDoor.cp Go.Proofs.YtjmmojjjopjdpaaGreatDoor.ow

structure Shape (α : Type) where
  n : Nat
  f : α → List Value
  len : ∀ x, (f x).length = n
  one : ∀ x, ∀ u ∈ f x, u.oneCell' = true

theorem flat_at {α β : Type} {f : α → List β} {n : Nat} (hf : ∀ x, (f x).length = n) : ∀ (l : List α) (i : Nat) (x : α), l[i]? = some x → ∀ j, j < n → (l.flatMap f)[i * n + j]? = (f x)[j]?
  | [], _, _, h, _, _ => by simp at h
  | a :: l, 0, x, h, j, hj => by
    simp at h
    subst h
    rw [List.flatMap_cons, Nat.zero_mul, Nat.zero_add, List.getElem?_append_left (by rw [hf]; exact hj)]
  | a :: l, i + 1, x, h, j, hj => by
    simp at h
    rw [List.flatMap_cons, List.getElem?_append_right (by rw [hf, Nat.succ_mul]; omega), hf, show (i + 1) * n + j - n = i * n + j by rw [Nat.succ_mul]; omega]
    exact flat_at hf l i x h j hj
theorem flat_len {α β : Type} {f : α → List β} {n : Nat} (hf : ∀ x, (f x).length = n) (l : List α) : (l.flatMap f).length = l.length * n := by
  induction l with
  | nil => simp
  | cons a l ih => rw [List.flatMap_cons, List.length_append, hf, ih, List.length_cons, Nat.succ_mul]; omega
theorem flat_ones {α : Type} (S : Shape α) (l : List α) : ∀ u ∈ l.flatMap S.f, u.oneCell' = true := fun u hu => by
  obtain ⟨m, _, hm⟩ := List.mem_flatMap.mp hu
  exact S.one m u hm
theorem flat_of {α : Type} (S : Shape α) {cur : List Value} {l : List α} (hs : cur.length = l.length * S.n) (h : ∀ i x, l[i]? = some x → ∀ j u, (S.f x)[j]? = some u → cur[i * S.n + j]? = some u) : cur = l.flatMap S.f := by
  apply List.ext_getElem?
  intro j
  by_cases hj : j < l.length * S.n
  · have hpos : 0 < S.n := by
      rcases Nat.eq_zero_or_pos S.n with e | e
      · rw [e, Nat.mul_zero] at hj; omega
      · exact e
    have hi : j / S.n < l.length := (Nat.div_lt_iff_lt_mul hpos).2 hj
    have hx : l[j / S.n]? = some l[j / S.n] := List.getElem?_eq_getElem hi
    have hr : j % S.n < S.n := Nat.mod_lt _ hpos
    have e : j / S.n * S.n + j % S.n = j := by rw [Nat.mul_comm]; exact Nat.div_add_mod _ _
    have hu : (S.f l[j / S.n])[j % S.n]? = some ((S.f l[j / S.n])[j % S.n]'(by rw [S.len]; exact hr)) := List.getElem?_eq_getElem _
    have h1 := h _ _ hx _ _ hu
    have h2 := flat_at S.len l _ _ hx _ hr
    rw [e] at h1 h2
    rw [h1, h2, hu]
  · rw [List.getElem?_eq_none (by omega), List.getElem?_eq_none (by rw [flat_len S.len]; omega)]

/-- a slice of the call's own, of records -/
def OwnR {α : Type} (S : Shape α) (t : TypeId) (w0 w : World) (v : Value) (l : List α) : Prop := w.ownsRow w0.heap.size t S.n v l.length (l.flatMap S.f) ∧ Below w0.heap.size w0 w
/-- a slice that reads as records -/
def SeesR {α : Type} (S : Shape α) (w : World) (v : Value) (l : List α) : Prop :=
  ∃ A c, v = .slice A l.length c ∧ ((A = none ∧ c = 0 ∧ l = []) ∨ ∃ g, A = some ⟨g, 0, none⟩ ∧ g < w.heap.size ∧ ∀ i x, l[i]? = some x → ∀ j u, (S.f x)[j]? = some u → w.cell? ⟨g, i * S.n + j, none⟩ = some u)
section
variable {α : Type} {S : Shape α} {t : TypeId} {w0 w w1 : World} {v v1 : Value} {l l1 : List α} {o : Obj}
theorem OwnR.nil (w : World) : OwnR S t w w (.slice none 0 0) [] := ⟨World.ownsRow_nil _ _ _ _, Below.refl _ _⟩
theorem OwnR.empty (w : World) : OwnR S t w (w.alloc (.cells #[] t)) (.slice (some ⟨w.heap.size, 0, none⟩) 0 0) [] :=
  ⟨World.ownsRow_lit w #[] 0 (Nat.le_refl _) (by unfold maxLen; omega) (by simp), (Below.refl _ _).alloc (Nat.le_refl _) _⟩
theorem OwnR.later (h : OwnR S t w0 w v l) (hb : Below w.heap.size w w1) : OwnR S t w0 w1 v l := by
  refine ⟨h.1.kept (row := none) ⟨hb.os, hb.tape, hb.output, hb.size, fun i hi _ => hb.block i hi⟩ ?_, h.2.trans (hb.mono h.2.size)⟩
  cases hv : v.ownBlock with
  | none => exact .inl rfl
  | some k => exact .inr (by simp)
theorem OwnR.from_ (h : OwnR S t w w1 v l) (hb : Below w0.heap.size w0 w) : OwnR S t w0 w1 v l := by
  refine ⟨⟨h.1.1, ?_⟩, hb.trans (h.2.mono hb.size)⟩
  have := hb.size
  rcases h.1.2 with h' | ⟨g, cap, cur, h1, h2, h3⟩
  · exact .inl h'
  · exact .inr ⟨g, cap, cur, h1, by omega, h3⟩
theorem OwnR.drewN (h : OwnR S t w0 w v l) (q : Nat) : OwnR S t w0 (w.drewN q) v l := ⟨h.1, below_drewN' h.2 q⟩
theorem OwnR.lt (h : OwnR S t w0 w v l) {k : Nat} (hk : v.ownBlock = some k) : w0.heap.size ≤ k ∧ k < w.heap.size := h.1.lt k hk
theorem OwnR.sees (h : OwnR S t w0 w v l) : SeesR S w v l := by
  rcases h.1.2 with ⟨rfl, hn⟩ | ⟨g, cap, cur, rfl, hb, hh, hn, hm, hs, ht⟩
  · exact ⟨none, 0, by rw [hn], .inl ⟨rfl, rfl, List.eq_nil_of_length_eq_zero hn⟩⟩
  · refine ⟨_, cap, rfl, .inr ⟨g, rfl, (h.1.lt g rfl).2, fun i x hx j u hu => ?_⟩⟩
    have hj : j < S.n := by have := (List.getElem?_eq_some_iff.1 hu).1; rwa [S.len] at this
    have hf := flat_at S.len l i x hx j hj
    rw [hu] at hf
    have hi := (List.getElem?_eq_some_iff.1 hf).1
    rw [World.ownsRow.cellAt (g := g) (cap := cap) h.1 _ (by rwa [flat_len S.len] at hi), hf]
theorem SeesR.later (h : SeesR S w v l) (hB : Below w.heap.size w w1) : SeesR S w1 v l := by
  obtain ⟨A, c, rfl, hc⟩ := h
  refine ⟨A, c, rfl, ?_⟩
  rcases hc with hc | ⟨g, rfl, hg, hcell⟩
  · exact .inl hc
  · exact .inr ⟨g, rfl, Nat.lt_of_lt_of_le hg hB.size, fun i x hx j u hu => (hB.cell (p := ⟨g, _, none⟩) hg).trans (hcell i x hx j u hu)⟩
theorem SeesR.drewN (h : SeesR S w v l) (q : Nat) : SeesR S (w.drewN q) v l := h
theorem sees_nil (w : World) : SeesR S w (.slice none 0 0) [] := ⟨none, 0, rfl, .inl ⟨rfl, rfl, rfl⟩⟩
/-- what the walk reads of a record -/
theorem SeesR.at (h : SeesR S w v l) {i : Nat} {x : α} (hx : l[i]? = some x) :
    ∃ g c, v = .slice (some ⟨g, 0, none⟩) l.length c ∧ g < w.heap.size ∧ i < l.length ∧ ∀ j u, (S.f x)[j]? = some u → w.cell? ⟨g, i * S.n + j, none⟩ = some u := by
  obtain ⟨A, c, rfl, hc⟩ := h
  have hi := (List.getElem?_eq_some_iff.mp hx).1
  rcases hc with ⟨_, _, rfl⟩ | ⟨g, rfl, hlt, hr⟩
  · simp at hx
  · exact ⟨g, c, rfl, hlt, hi, hr i x hx⟩
/-- behind an append to a list of the call's own: another list of the call's own lies on -/
theorem OwnR.far {u : Value} {w' w2 : World} (h : OwnR S t w0 w v l) (hb : Below w.heap.size w w') (hg : w'.grownBy w2 u.ownBlock) (hu : ∀ k, u.ownBlock = some k → w.heap.size ≤ k) : OwnR S t w0 w2 v l := by
  refine ⟨(h.later hb).1.kept hg ?_, (h.later hb).2.trans ⟨hg.os, hg.tape, hg.output, hg.size, fun k hk => hg.block k (by have := h.2.size; have := hb.size; omega) (fun e => by have := hu k e.symm; have := h.2.size; omega)⟩⟩
  cases hv : v.ownBlock with
  | none => exact .inl rfl
  | some k =>
    refine .inr (fun e => ?_)
    have h1 := (h.lt hv).2
    have h2 := hu k e.symm
    omega
/-- a list that was grown -/
theorem OwnR.grew (h : OwnR S t w0 w v l) (h1 : w1.ownsRow w0.heap.size t S.n v1 l1.length (l1.flatMap S.f)) (hg : w.grownBy w1 v.ownBlock) : OwnR S t w0 w1 v1 l1 :=
  ⟨h1, h.2.trans ⟨hg.os, hg.tape, hg.output, hg.size, fun k hk => hg.block k (Nat.lt_of_lt_of_le hk h.2.size) (fun e => by have := (h.lt e.symm).1; omega)⟩⟩
theorem OwnR.alloc (h : OwnR S t w0 w v l) (o : Obj) : OwnR S t w0 (w.alloc o) v l := h.later ((Below.refl _ _).alloc (Nat.le_refl _) o)
end

/-- a slice of records from a place of its block on, or nil: what an append takes -/
def PartR {α : Type} (S : Shape α) (w : World) (A : Option Addr) (c : Nat) (l : List α) : Prop :=
  (A = none ∧ c = 0 ∧ l = []) ∨ ∃ g o, A = some ⟨g, o, none⟩ ∧ ∀ j u, (l.flatMap S.f)[j]? = some u → w.cell? ⟨g, o + j, none⟩ = some u

theorem flat_get {α : Type} (S : Shape α) : ∀ (l : List α) (j : Nat) (u : Value), (l.flatMap S.f)[j]? = some u → ∃ i x k, l[i]? = some x ∧ (S.f x)[k]? = some u ∧ j = i * S.n + k
  | [], j, u, h => by simp at h
  | a :: l, j, u, h => by
    rw [List.flatMap_cons] at h
    by_cases hj : j < S.n
    · rw [List.getElem?_append_left (by rw [S.len]; exact hj)] at h
      exact ⟨0, a, j, rfl, h, by omega⟩
    · rw [List.getElem?_append_right (by rw [S.len]; omega), S.len] at h
      obtain ⟨i, x, k, h1, h2, h3⟩ := flat_get S l _ u h
      exact ⟨i + 1, x, k, h1, h2, by rw [Nat.succ_mul]; omega⟩
theorem SeesR.part {α : Type} {S : Shape α} {w : World} {A : Option Addr} {n c : Nat} {l : List α} (h : SeesR S w (.slice A n c) l) : PartR S w A c l := by
  obtain ⟨A', c', e, hc⟩ := h
  injection e with e1 e2 e3
  subst e1; subst e3
  rcases hc with hc | ⟨g, rfl, hg, hcell⟩
  · exact .inl hc
  · refine .inr ⟨g, 0, rfl, fun j u hu => ?_⟩
    obtain ⟨i, x, k, h1, h2, rfl⟩ := flat_get S l j u hu
    rw [Nat.zero_add]
    exact hcell i x h1 k u h2

theorem wp_append_recs {α : Type} (S : Shape α) (hS : 0 < S.n) {w : World} {o : Oper} {a : Act} {K : Act → World → Prop} {Q : Exit → Act → World → Prop} (s x : Operand) (t : TypeId)
    (ho : o.op = .call { callee := .builtin .append, args := #[s, x], argTypes := #[t, t] })
    (base : Nat) (e : TypeId) (i : TypeInfo) (z : Value) (bytes : Nat) (ht : Tryz.prog.underlying t = some (.slice e)) (hi : Tryz.prog.info? e = some i) (hz : i.zero = some z)
    (hsize : i.size = S.n) (hby : i.bytes = bytes) (hzs : z.cells.size = S.n)
    (v : Value) (n : Nat) (xs : List Value) (hs : a.eval s = v) (hown : w.ownsRow base e S.n v n xs)
    (A : Option Addr) (m c : Nat) (l : List α) (hx : a.eval x = .slice A m c) (hm : m = l.length) (hP : PartR S w A c l)
    (h63 : n + l.length ≤ maxLen) (hbytes : (n + l.length) * bytes ≤ 140737488355328) (hbase : base ≤ w.heap.size)
    (h : ∀ v' w', w'.ownsRow base e S.n v' (n + l.length) (xs ++ l.flatMap S.f) → w.grownBy w' v.ownBlock → K (a.put o.dst v') w') : o.wp Tryz.prog a w K Q := by
  subst hm
  rcases hP with ⟨rfl, rfl, rfl⟩ | ⟨g, off, rfl, hc⟩
  · have hrun := run_append_owned_none (P := Tryz.prog) (w := w) base t o.type e i S.n ht hi v n xs hown
    have hk := h v w (by simpa using hown) ⟨rfl, rfl, rfl, Nat.le_refl _, fun _ _ _ => rfl⟩
    unfold Oper.wp
    simp at hx
    simp [execOp, ho, resolve, invoke, builtin, hs, hx, hrun, Result.andThen]
    exact hk
  · exact wp_append_own w s x t ho base e i z S.n bytes ht hi hz hsize hby hzs hS v n xs hs hown ⟨g, off, none⟩ l.length c (l.flatMap S.f) hx (by rw [flat_len S.len]) (fun j u hu => by
      have hadd : (⟨g, off, none⟩ : Addr).add j = ⟨g, off + j, none⟩ := by unfold Addr.add; split <;> simp_all
      rw [hadd]; exact hc j u hu) (flat_ones S l) h63 hbytes hbase (fun v' w' h1 h2 _ => h v' w' h1 h2)

theorem wpList_append_recs {α : Type} (S : Shape α) (hS : 0 < S.n) {w : World} {ops : Array Oper} {rest : List Oper} {o : Oper} {a : Act} {Q : Exit → Act → World → Prop} (hw : Region.wanted o (yielded ops a.tmps) = true) (s x : Operand) (t : TypeId)
    (ho : o.op = .call { callee := .builtin .append, args := #[s, x], argTypes := #[t, t] })
    (base : Nat) (e : TypeId) (i : TypeInfo) (z : Value) (bytes : Nat) (ht : Tryz.prog.underlying t = some (.slice e)) (hi : Tryz.prog.info? e = some i) (hz : i.zero = some z)
    (hsize : i.size = S.n) (hby : i.bytes = bytes) (hzs : z.cells.size = S.n)
    (v : Value) (n : Nat) (xs : List Value) (hs : a.eval s = v) (hown : w.ownsRow base e S.n v n xs)
    (A : Option Addr) (m c : Nat) (l : List α) (hx : a.eval x = .slice A m c) (hm : m = l.length) (hP : PartR S w A c l)
    (h63 : n + l.length ≤ maxLen) (hbytes : (n + l.length) * bytes ≤ 140737488355328) (hbase : base ≤ w.heap.size)
    (h : ∀ v' w', w'.ownsRow base e S.n v' (n + l.length) (xs ++ l.flatMap S.f) → w.grownBy w' v.ownBlock → wpList Tryz.prog ops Q rest (a.put o.dst v') w') : wpList Tryz.prog ops Q (o :: rest) a w := by
  unfold wpList
  rw [if_pos hw]
  exact .inl (wp_append_recs S hS s x t ho base e i z bytes ht hi hz hsize hby hzs v n xs hs hown A m c l hx hm hP h63 hbytes hbase h)

/-- the first k records lie in block g, which has room for n -/
def Fill {α : Type} (S : Shape α) (t : TypeId) (g n : Nat) (l : List α) (k : Nat) (w : World) : Prop :=
  ∃ cur, Blk w g t cur ∧ cur.size = n * S.n ∧ ∀ i x, i < k → l[i]? = some x → ∀ j u, (S.f x)[j]? = some u → cur[i * S.n + j]? = some u
/-- cells written one behind the other -/
def putAll (w : World) (g o : Nat) : List Value → World
  | [] => w
  | u :: us => putAll (w.setCell ⟨g, o, none⟩ u) g (o + 1) us
theorem putAll_blk {w : World} {g : Nat} {t : TypeId} : ∀ {cur : Array Value} (us : List Value) (o : Nat), Blk w g t cur → ∃ cur', Blk (putAll w g o us) g t cur' ∧ cur'.size = cur.size ∧ (∀ j, j < o ∨ o + us.length ≤ j → cur'[j]? = cur[j]?) ∧ (o + us.length ≤ cur.size → ∀ j u, us[j]? = some u → cur'[o + j]? = some u)
  | cur, [], o, h => ⟨cur, h, rfl, fun _ _ => rfl, fun _ j u hu => by simp at hu⟩
  | cur, x :: us, o, h => by
    have h1 := h.put o x
    obtain ⟨cur', a1, a2, a3, a4⟩ := putAll_blk (w := w.setCell ⟨g, o, none⟩ x) us (o + 1) h1
    refine ⟨cur', a1, by simpa using a2, fun j hj => ?_, fun hs j u hu => ?_⟩
    · rw [a3 j (by simp at hj; omega), Array.getElem?_setIfInBounds, if_neg (by simp at hj; omega)]
    · cases j with
      | zero =>
        simp at hu
        subst hu
        rw [a3 _ (by omega), Nat.add_zero, Array.getElem?_setIfInBounds, if_pos rfl, if_pos (by simp at hs; omega)]
      | succ j =>
        have := a4 (by simp at hs ⊢; omega) j u (by simpa using hu)
        rw [show o + (j + 1) = o + 1 + j by omega]
        exact this
theorem putAll_below {B g : Nat} (hg : B ≤ g) : ∀ (us : List Value) (o : Nat) {w0 w : World}, Below B w0 w → Below B w0 (putAll w g o us)
  | [], _, _, _, h => h
  | u :: us, o, _, _, h => putAll_below hg us (o + 1) (h.setCell (p := ⟨g, o, none⟩) hg u)
section
variable {α : Type} {S : Shape α} {t : TypeId} {g n k : Nat} {l : List α} {w w' w0 : World}
theorem Fill.later (h : Fill S t g n l k w) (hB : Below w.heap.size w w') : Fill S t g n l k w' := by
  obtain ⟨cur, h1, h2, h3⟩ := h
  exact ⟨cur, h1.below hB h1.lt, h2, h3⟩
theorem Fill.put (h : Fill S t g n l k w) (hk : k < n) {x : α} (hx : l[k]? = some x) : Fill S t g n l (k + 1) (putAll w g (k * S.n) (S.f x)) := by
  obtain ⟨cur, h1, h2, h3⟩ := h
  have hm : (k + 1) * S.n ≤ n * S.n := Nat.mul_le_mul_right _ hk
  rw [Nat.succ_mul] at hm
  obtain ⟨cur', a1, a2, a3, a4⟩ := putAll_blk (S.f x) (k * S.n) h1
  refine ⟨cur', a1, by omega, fun i y hi hy j u hu => ?_⟩
  have hj : j < S.n := by have := (List.getElem?_eq_some_iff.1 hu).1; rwa [S.len] at this
  by_cases e : i = k
  · subst e
    rw [hx] at hy
    injection hy with hy
    subst hy
    exact a4 (by rw [S.len]; omega) j u hu
  · have hlt : (i + 1) * S.n ≤ k * S.n := Nat.mul_le_mul_right _ (by omega)
    rw [Nat.succ_mul] at hlt
    rw [a3 _ (.inl (by omega))]
    exact h3 i y (by omega) hy j u hu
theorem Fill.cell (h : Fill S t g n l k w) (hk : k < n) {j : Nat} (hj : j < S.n) : (∃ x, w.cell? ⟨g, k * S.n + j, none⟩ = some x) ∧ w.frozen? ⟨g, k * S.n + j, none⟩ = false := by
  obtain ⟨cur, h1, h2, h3⟩ := h
  have hm : (k + 1) * S.n ≤ n * S.n := Nat.mul_le_mul_right _ hk
  rw [Nat.succ_mul] at hm
  refine ⟨⟨cur[k * S.n + j]'(by omega), ?_⟩, h1.frozen _⟩
  rw [h1.cell]; exact Array.getElem?_eq_getElem (by omega)
theorem Fill.own (h : Fill S t g l.length l l.length w) (hg : w0.heap.size ≤ g) (hB : Below w0.heap.size w0 w) (hl : l.length ≤ maxLen) : OwnR S t w0 w (.slice (some ⟨g, 0, none⟩) l.length l.length) l := by
  obtain ⟨cur, h1, h2, h3⟩ := h
  have hf : cur.toList = l.flatMap S.f := flat_of S (by simpa using h2) (fun i x hx j u hu => by
    have := h3 i x (List.getElem?_eq_some_iff.mp hx).1 hx j u hu
    simpa using this)
  refine ⟨⟨by rw [flat_len S.len], .inr ⟨g, l.length, cur, rfl, hg, h1, Nat.le_refl _, hl, by omega, ?_⟩⟩, hB⟩
  rw [hf, List.take_of_length_le (by rw [flat_len S.len]; exact Nat.le_refl _)]
end
end Go.Proofs.YtjmmojjjopjdpaaGreatDoor.rl

/-
  Plain: what a keeper has; when it is ok. Nothing here speaks of a program.
-/
namespace Go.Proofs.YtjmmojjjopjdpaaGreatDoor.kp
open Go.Proofs.YtjmmojjjopjdpaaGreatDoor.nb Go.Proofs.YtjmmojjjopjdpaaGreatDoor.ok

/-- a message; what is remembered of one -/
structure Nt where
  f : Int
  n : Int
  t : Int
  u : Int
  s : ByteArray
structure Mk where
  f : Int
  n : Int
  u : Int
structure Kp where
  id : Int
  time : Int
  next : Int
  held : List Nt
  marks : List Mk
  inbox : List Nt

def okNt (x : Nt) : Bool := okN x.f x.n x.t x.u x.s
def okMk (x : Mk) : Bool := inB x.f 0 3 && inB x.n 1 99 && inB x.u 1 999
def less (f n f' n' : Int) : Bool := decide (f < f' ∨ f = f' ∧ n < n')

/-- all of the first k places -/
def allI (k : Nat) (p : Nat → Bool) : Bool := (List.range k).all p
theorem allI_zero (p : Nat → Bool) : allI 0 p = true := rfl
theorem allI_succ (k : Nat) (p : Nat → Bool) : allI (k + 1) p = (allI k p && p k) := by unfold allI; rw [List.range_succ, List.all_append]; simp
theorem allI_on {k : Nat} {p : Nat → Bool} (h : allI k p = true) (hp : p k = true) : allI (k + 1) p = true := by rw [allI_succ, h, hp]; rfl
theorem allI_iff {k : Nat} {p : Nat → Bool} : allI k p = true ↔ ∀ i, i < k → p i = true := by unfold allI; rw [List.all_eq_true]; simp
theorem allI_bad {n k : Nat} {p : Nat → Bool} (hk : k < n) (hp : p k = false) : allI n p = false := by
  cases h : allI n p with
  | false => rfl
  | true => rw [allI_iff] at h; rw [h k hk] at hp; cases hp

/-- a place of a list of messages: its message is ok, and behind the one ahead of it -/
def ordN (l : List Nt) (i : Nat) : Bool :=
  match l[i]? with
  | none => true
  | some x => okNt x && (match i with
    | 0 => true
    | j + 1 => match l[j]? with
      | none => true
      | some y => less y.f y.n x.f x.n)
def ordM (l : List Mk) (i : Nat) : Bool :=
  match l[i]? with
  | none => true
  | some x => okMk x && (match i with
    | 0 => true
    | j + 1 => match l[j]? with
      | none => true
      | some y => less y.f y.n x.f x.n)
def okNts (l : List Nt) (most : Nat) : Bool := decide (l.length ≤ most) && allI l.length (ordN l)
def okMks (l : List Mk) : Bool := decide (l.length ≤ 12) && allI l.length (ordM l)
theorem ordN_zero {l : List Nt} {x : Nt} (h : l[0]? = some x) : ordN l 0 = okNt x := by simp [ordN, h]
theorem ordN_succ {l : List Nt} {i : Nat} {x y : Nt} (h : l[i + 1]? = some x) (h' : l[i]? = some y) : ordN l (i + 1) = (okNt x && less y.f y.n x.f x.n) := by simp [ordN, h, h']
theorem ordM_zero {l : List Mk} {x : Mk} (h : l[0]? = some x) : ordM l 0 = okMk x := by simp [ordM, h]
theorem ordM_succ {l : List Mk} {i : Nat} {x y : Mk} (h : l[i + 1]? = some x) (h' : l[i]? = some y) : ordM l (i + 1) = (okMk x && less y.f y.n x.f x.n) := by simp [ordM, h, h']

/-- the place of a message in a list, -1 if it is not there -/
def ixN (l : List Nt) (f n : Int) : Int := match l.findIdx? (fun x => x.f == f && x.n == n) with
  | some i => (i : Nat)
  | none => -1
def ixM (l : List Mk) (f n : Int) : Int := match l.findIdx? (fun x => x.f == f && x.n == n) with
  | some i => (i : Nat)
  | none => -1
def hasN (l : List Nt) (f n : Int) : Bool := l.any fun x => x.f == f && x.n == n
def hasM (l : List Mk) (f n : Int) : Bool := l.any fun x => x.f == f && x.n == n
/-- does a keeper stand on a message's way, ahead of its end? -/
def way (x : Nt) (id : Int) : Bool := decide (x.f ≤ id ∧ id < x.t ∨ x.t < id ∧ id ≤ x.f)

def heldOk (k : Kp) (x : Nt) : Bool := decide (k.time < x.u) && way x k.id && !(x.f == k.id && decide (k.next ≤ x.n)) && !hasM k.marks x.f x.n
def markOk (k : Kp) (x : Mk) : Bool := decide (k.time < x.u) && !(x.f == k.id && decide (k.next ≤ x.n))
def inOk (k : Kp) (x : Nt) : Bool := (x.t == k.id) && !(x.f == k.id && decide (k.next ≤ x.n)) && !(decide (k.time < x.u) && !hasM k.marks x.f x.n)
def okK (k : Kp) : Bool := inB k.id 0 3 && inB k.time 0 999 && inB k.next 1 100 && okNts k.held 6 && okMks k.marks && okNts k.inbox 6 && k.held.all (heldOk k) && k.marks.all (markOk k) && k.inbox.all (inOk k)
end Go.Proofs.YtjmmojjjopjdpaaGreatDoor.kp

/-
  Words: messages and marks as records; what a keeper has, as a value.
-/
namespace Go.Proofs.YtjmmojjjopjdpaaGreatDoor.kp
open Go.ChangeShapes Go.WideShapes Go.ChangeAt Go.RowKit
open Go.Proofs.YtjmmojjjopjdpaaGreatDoor.wd Go.Proofs.YtjmmojjjopjdpaaGreatDoor.ow Go.Proofs.YtjmmojjjopjdpaaGreatDoor.rl Go.Proofs.YtjmmojjjopjdpaaGreatDoor.ok

def ntF (x : Nt) : List Value := [.int .i64 x.f, .int .i64 x.n, .int .i64 x.t, .int .i64 x.u, .string x.s]
def mkF (x : Mk) : List Value := [.int .i64 x.f, .int .i64 x.n, .int .i64 x.u]
def ntS : Shape Nt := ⟨5, ntF, fun _ => rfl, fun x u hu => by simp [ntF] at hu; rcases hu with rfl | rfl | rfl | rfl | rfl <;> rfl⟩
def mkS : Shape Mk := ⟨3, mkF, fun _ => rfl, fun x u hu => by simp [mkF] at hu; rcases hu with rfl | rfl | rfl <;> rfl⟩
/-- a mark as a value -/
def mark (f n u : Int) : Value := .agg #[.int .i64 f, .int .i64 n, .int .i64 u]
def ntV (x : Nt) : Value := note x.f x.n x.t x.u x.s
def mkV (x : Mk) : Value := mark x.f x.n x.u
/-- what a keeper has, as a value -/
abbrev kpV (id time next : Int) (vh vm vi : Value) : Value := .agg #[.int .i64 id, .int .i64 time, .int .i64 next, vh, vm, vi]

abbrev SeesN (w : World) (v : Value) (l : List Nt) : Prop := SeesR ntS w v l
abbrev SeesMk (w : World) (v : Value) (l : List Mk) : Prop := SeesR mkS w v l
theorem note_at {w : World} {v : Value} {l : List Nt} (h : SeesN w v l) {i : Nat} {x : Nt} (hx : l[i]? = some x) :
    ∃ g c, v = .slice (some ⟨g, 0, none⟩) l.length c ∧ g < w.heap.size ∧ i < l.length ∧ w.cell? ⟨g, i * 5, none⟩ = some (.int .i64 x.f) ∧ w.cell? ⟨g, i * 5 + 1, none⟩ = some (.int .i64 x.n) ∧ w.cell? ⟨g, i * 5 + 2, none⟩ = some (.int .i64 x.t) ∧ w.cell? ⟨g, i * 5 + 3, none⟩ = some (.int .i64 x.u) ∧ w.cell? ⟨g, i * 5 + 4, none⟩ = some (.string x.s) := by
  obtain ⟨g, c, e, hg, hi, hc⟩ := h.at hx
  exact ⟨g, c, e, hg, hi, hc 0 _ rfl, hc 1 _ rfl, hc 2 _ rfl, hc 3 _ rfl, hc 4 _ rfl⟩
theorem mark_at {w : World} {v : Value} {l : List Mk} (h : SeesMk w v l) {i : Nat} {x : Mk} (hx : l[i]? = some x) :
    ∃ g c, v = .slice (some ⟨g, 0, none⟩) l.length c ∧ g < w.heap.size ∧ i < l.length ∧ w.cell? ⟨g, i * 3, none⟩ = some (.int .i64 x.f) ∧ w.cell? ⟨g, i * 3 + 1, none⟩ = some (.int .i64 x.n) ∧ w.cell? ⟨g, i * 3 + 2, none⟩ = some (.int .i64 x.u) := by
  obtain ⟨g, c, e, hg, hi, hc⟩ := h.at hx
  exact ⟨g, c, e, hg, hi, hc 0 _ rfl, hc 1 _ rfl, hc 2 _ rfl⟩

/-- what a keeper has lies there, to be read -/
structure SeesK (w : World) (k : Kp) (vh vm vi : Value) : Prop where
  held : SeesN w vh k.held
  marks : SeesMk w vm k.marks
  inbox : SeesN w vi k.inbox
theorem SeesK.later {w w' : World} {k : Kp} {vh vm vi : Value} (h : SeesK w k vh vm vi) (hB : Below w.heap.size w w') : SeesK w' k vh vm vi := ⟨h.held.later hB, h.marks.later hB, h.inbox.later hB⟩
theorem SeesK.drewN {w : World} {k : Kp} {vh vm vi : Value} (h : SeesK w k vh vm vi) (q : Nat) : SeesK (w.drewN q) k vh vm vi := ⟨h.held, h.marks, h.inbox⟩

theorem infoNote : (Tryz.prog.info? 131).map (fun i => (i.zero, i.size, i.bytes)) = some (some (.agg #[.int .i64 0, .int .i64 0, .int .i64 0, .int .i64 0, .string ⟨#[]⟩]), 5, 48) := by kernel_rfl
theorem infoMark : (Tryz.prog.info? 164).map (fun i => (i.zero, i.size, i.bytes)) = some (some (.agg #[.int .i64 0, .int .i64 0, .int .i64 0]), 3, 24) := by kernel_rfl
end Go.Proofs.YtjmmojjjopjdpaaGreatDoor.kp

