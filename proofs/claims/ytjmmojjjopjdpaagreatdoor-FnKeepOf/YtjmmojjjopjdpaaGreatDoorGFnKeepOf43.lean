/-
  Merged texts: LbKeep, OfLaw.
-/
import Derived.Test.YtjmmojjjopjdpaaGreatDoorGFnKeepOf9
import Derived.Test.YtjmmojjjopjdpaaGreatDoorGFnKeepOf5
import Derived.Test.YtjmmojjjopjdpaaGreatDoorGFnKeepOf22
import Derived.Test.YtjmmojjjopjdpaaGreatDoorGFnKeepOf42
import Derived.Deep.RegionWith
/-
  Contracts of laws.lbNotes, laws.lbMarks, laws.lbKeep, where both are the same.
-/
namespace Go.Proofs.YtjmmojjjopjdpaaGreatDoor.kp
open Go.ChangeShapes Go.WideShapes Go.ChangeAt Go.RowKit
open Go.Proofs.YtjmmojjjopjdpaaGreatDoor.wd Go.Proofs.YtjmmojjjopjdpaaGreatDoor.ow Go.Proofs.YtjmmojjjopjdpaaGreatDoor.rl Go.Proofs.YtjmmojjjopjdpaaGreatDoor.ok

set_option maxRecDepth 100000 in
set_option maxHeartbeats 1600000 in
theorem lbN_same (w : World) (v1 v2 : Value) (l : List Nt) (h1 : SeesN w v1 l) (h2 : SeesN w v2 l) (hl : l.length ≤ 1048576) :
    Calls Tryz.prog 52 #[v1, v2] w (YesPost w) := by
  have H1 := Lib.hid h1
  have H2 := Lib.hid h2
  obtain ⟨A1, c1, rfl, _⟩ := h1
  obtain ⟨A2, c2, rfl, _⟩ := h2
  go_enter Tryz.func52, Tryz.ntmps52
  go_wp2
  go_loopw [5] (fun i wr => ∃ k : Nat, k ≤ l.length ∧ i = .int .i64 k ∧ Below w.heap.size w wr) (fun i _ => (l.length + 1 : Nat) - (intOf i).toNat)
  case atStart => exact ⟨0, by omega, rfl, Below.refl _ _⟩
  case round =>
    obtain ⟨k, hk, rfl, hB⟩ := hrel
    by_cases hkl : k < l.length
    · have hx : l[k]? = some l[k] := List.getElem?_eq_getElem hkl
      obtain ⟨g1, c1', e1, hg1, _, a0, a1, a2, a3, a4⟩ := note_at (H1.out.later hB) hx
      obtain ⟨g2, c2', e2, hg2, _, b0, b1, b2, b3, b4⟩ := note_at (H2.out.later hB) hx
      injection e1 with e1 _ q1
      injection e2 with e2 _ q2
      subst e1; subst e2; subst q1; subst q2
      generalize l[k] = y at a0 a1 a2 a3 a4 b0 b1 b2 b3 b4
      have hk0 : (0 : Int) ≤ (k : Int) := by omega
      have hk1 : (k : Int) < (l.length : Int) := by omega
      have R := Lib.hid hB.drew
      clear hx hB
      go_wp2_with fail
      refine wp_region_held_drew (S := (fun w' : World => w'.cell? ⟨g1, k * 5, none⟩ = some (.int .i64 y.f) ∧ w'.cell? ⟨g1, k * 5 + 1, none⟩ = some (.int .i64 y.n) ∧ w'.cell? ⟨g1, k * 5 + 2, none⟩ = some (.int .i64 y.t) ∧ w'.cell? ⟨g1, k * 5 + 3, none⟩ = some (.int .i64 y.u) ∧ w'.cell? ⟨g1, k * 5 + 4, none⟩ = some (.string y.s) ∧ w'.cell? ⟨g2, k * 5, none⟩ = some (.int .i64 y.f) ∧ w'.cell? ⟨g2, k * 5 + 1, none⟩ = some (.int .i64 y.n) ∧ w'.cell? ⟨g2, k * 5 + 2, none⟩ = some (.int .i64 y.t) ∧ w'.cell? ⟨g2, k * 5 + 3, none⟩ = some (.int .i64 y.u) ∧ w'.cell? ⟨g2, k * 5 + 4, none⟩ = some (.string y.s))) (by kernel_rfl) ⟨a0, a1, a2, a3, a4, b0, b1, b2, b3, b4⟩ (fun hHeld => ?_)
      refine rs.want_take (i := 0) 17 (v := ?_) rfl rfl (by kernel_rfl) (by kernel_rfl) (by kernel_rfl) (fun _ _ _ _ h => h) rfl ?_ (by assumption) ?_
      rotate_left 1
      · (intro w' hSw; obtain ⟨a0, a1, a2, a3, a4, b0, b1, b2, b3, b4⟩ := hSw; go_simp; try with_reducible rfl)
      simp only [List.setIfInBounds_toArray, List.set_cons_zero, List.set_cons_succ]
      refine rs.want_take (i := 1) 18 (v := ?_) rfl rfl (by kernel_rfl) (by kernel_rfl) (by kernel_rfl) (fun _ _ _ _ h => h) rfl ?_ (by assumption) ?_
      rotate_left 1
      · (intro w' hSw; obtain ⟨a0, a1, a2, a3, a4, b0, b1, b2, b3, b4⟩ := hSw; go_simp; try with_reducible rfl)
      simp only [List.setIfInBounds_toArray, List.set_cons_zero, List.set_cons_succ]
      refine rs.want_take (i := 2) 19 (v := ?_) rfl rfl (by kernel_rfl) (by kernel_rfl) (by kernel_rfl) (fun _ _ _ _ h => h) rfl ?_ (by assumption) ?_
      rotate_left 1
      · (intro w' hSw; obtain ⟨a0, a1, a2, a3, a4, b0, b1, b2, b3, b4⟩ := hSw; go_simp; try with_reducible rfl)
      simp only [List.setIfInBounds_toArray, List.set_cons_zero, List.set_cons_succ]
      refine rs.want_take (i := 3) 20 (v := ?_) rfl rfl (by kernel_rfl) (by kernel_rfl) (by kernel_rfl) (fun _ _ _ _ h => h) rfl ?_ (by assumption) ?_
      rotate_left 1
      · (intro w' hSw; obtain ⟨a0, a1, a2, a3, a4, b0, b1, b2, b3, b4⟩ := hSw; go_simp; try with_reducible rfl)
      simp only [List.setIfInBounds_toArray, List.set_cons_zero, List.set_cons_succ]
      refine rs.want_take (i := 4) 21 (v := ?_) rfl rfl (by kernel_rfl) (by kernel_rfl) (by kernel_rfl) (fun _ _ _ _ h => h) rfl ?_ (by assumption) ?_
      rotate_left 1
      · (intro w' hSw; obtain ⟨a0, a1, a2, a3, a4, b0, b1, b2, b3, b4⟩ := hSw; go_simp; try with_reducible rfl)
      simp only [List.setIfInBounds_toArray, List.set_cons_zero, List.set_cons_succ]
      refine rs.want_take (i := 5) 22 (v := ?_) rfl rfl (by kernel_rfl) (by kernel_rfl) (by kernel_rfl) (fun _ _ _ _ h => h) rfl ?_ (by assumption) ?_
      rotate_left 1
      · (intro w' hSw; obtain ⟨a0, a1, a2, a3, a4, b0, b1, b2, b3, b4⟩ := hSw; go_simp; try with_reducible rfl)
      simp only [List.setIfInBounds_toArray, List.set_cons_zero, List.set_cons_succ]
      refine rs.want_take (i := 6) 23 (v := ?_) rfl rfl (by kernel_rfl) (by kernel_rfl) (by kernel_rfl) (fun _ _ _ _ h => h) rfl ?_ (by assumption) ?_
      rotate_left 1
      · (intro w' hSw; obtain ⟨a0, a1, a2, a3, a4, b0, b1, b2, b3, b4⟩ := hSw; go_simp; try with_reducible rfl)
      simp only [List.setIfInBounds_toArray, List.set_cons_zero, List.set_cons_succ]
      refine rs.want_take (i := 7) 24 (v := ?_) rfl rfl (by kernel_rfl) (by kernel_rfl) (by kernel_rfl) (fun _ _ _ _ h => h) rfl ?_ (by assumption) ?_
      rotate_left 1
      · (intro w' hSw; obtain ⟨a0, a1, a2, a3, a4, b0, b1, b2, b3, b4⟩ := hSw; go_simp; try with_reducible rfl)
      simp only [List.setIfInBounds_toArray, List.set_cons_zero, List.set_cons_succ]
      refine rs.want_take (i := 8) 25 (v := ?_) rfl rfl (by kernel_rfl) (by kernel_rfl) (by kernel_rfl) (fun _ _ _ _ h => h) rfl ?_ (by assumption) ?_
      rotate_left 1
      · (intro w' hSw; obtain ⟨a0, a1, a2, a3, a4, b0, b1, b2, b3, b4⟩ := hSw; go_simp; try with_reducible rfl)
      simp only [List.setIfInBounds_toArray, List.set_cons_zero, List.set_cons_succ]
      refine wpAnyH_done (by kernel_rfl) ?_ _
      go_wp2
      go_roundw
      case rel => exact ⟨k + 1, by omega, by go_num, R.out⟩
      case measure => simp [intOf]; omega
    · obtain rfl : k = l.length := by omega
      go_wp2
      go_ret
      exact ⟨rfl, hB⟩

set_option maxRecDepth 100000 in
set_option maxHeartbeats 1600000 in
theorem lbM_same (w : World) (v1 v2 : Value) (l : List Mk) (h1 : SeesMk w v1 l) (h2 : SeesMk w v2 l) (hl : l.length ≤ 1048576) :
    Calls Tryz.prog 53 #[v1, v2] w (YesPost w) := by
  have H1 := Lib.hid h1
  have H2 := Lib.hid h2
  obtain ⟨A1, c1, rfl, _⟩ := h1
  obtain ⟨A2, c2, rfl, _⟩ := h2
  go_enter Tryz.func53, Tryz.ntmps53
  go_wp2
  go_loopw [5] (fun i wr => ∃ k : Nat, k ≤ l.length ∧ i = .int .i64 k ∧ Below w.heap.size w wr) (fun i _ => (l.length + 1 : Nat) - (intOf i).toNat)
  case atStart => exact ⟨0, by omega, rfl, Below.refl _ _⟩
  case round =>
    obtain ⟨k, hk, rfl, hB⟩ := hrel
    by_cases hkl : k < l.length
    · have hx : l[k]? = some l[k] := List.getElem?_eq_getElem hkl
      obtain ⟨g1, c1', e1, hg1, _, a0, a1, a2⟩ := mark_at (H1.out.later hB) hx
      obtain ⟨g2, c2', e2, hg2, _, b0, b1, b2⟩ := mark_at (H2.out.later hB) hx
      injection e1 with e1 _ q1
      injection e2 with e2 _ q2
      subst e1; subst e2; subst q1; subst q2
      generalize l[k] = y at a0 a1 a2 b0 b1 b2
      have hk0 : (0 : Int) ≤ (k : Int) := by omega
      have hk1 : (k : Int) < (l.length : Int) := by omega
      have R := Lib.hid hB.drew
      clear hx hB
      go_wp2_with fail
      refine wp_region_held_drew (S := (fun w' : World => w'.cell? ⟨g1, k * 3, none⟩ = some (.int .i64 y.f) ∧ w'.cell? ⟨g1, k * 3 + 1, none⟩ = some (.int .i64 y.n) ∧ w'.cell? ⟨g1, k * 3 + 2, none⟩ = some (.int .i64 y.u) ∧ w'.cell? ⟨g2, k * 3, none⟩ = some (.int .i64 y.f) ∧ w'.cell? ⟨g2, k * 3 + 1, none⟩ = some (.int .i64 y.n) ∧ w'.cell? ⟨g2, k * 3 + 2, none⟩ = some (.int .i64 y.u))) (by kernel_rfl) ⟨a0, a1, a2, b0, b1, b2⟩ (fun hHeld => ?_)
      refine rs.want_take (i := 0) 17 (v := ?_) rfl rfl (by kernel_rfl) (by kernel_rfl) (by kernel_rfl) (fun _ _ _ _ h => h) rfl ?_ (by assumption) ?_
      rotate_left 1
      · (intro w' hSw; obtain ⟨a0, a1, a2, b0, b1, b2⟩ := hSw; go_simp; try with_reducible rfl)
      simp only [List.setIfInBounds_toArray, List.set_cons_zero, List.set_cons_succ]
      refine rs.want_take (i := 1) 18 (v := ?_) rfl rfl (by kernel_rfl) (by kernel_rfl) (by kernel_rfl) (fun _ _ _ _ h => h) rfl ?_ (by assumption) ?_
      rotate_left 1
      · (intro w' hSw; obtain ⟨a0, a1, a2, b0, b1, b2⟩ := hSw; go_simp; try with_reducible rfl)
      simp only [List.setIfInBounds_toArray, List.set_cons_zero, List.set_cons_succ]
      refine rs.want_take (i := 2) 19 (v := ?_) rfl rfl (by kernel_rfl) (by kernel_rfl) (by kernel_rfl) (fun _ _ _ _ h => h) rfl ?_ (by assumption) ?_
      rotate_left 1
      · (intro w' hSw; obtain ⟨a0, a1, a2, b0, b1, b2⟩ := hSw; go_simp; try with_reducible rfl)
      simp only [List.setIfInBounds_toArray, List.set_cons_zero, List.set_cons_succ]
      refine rs.want_take (i := 3) 20 (v := ?_) rfl rfl (by kernel_rfl) (by kernel_rfl) (by kernel_rfl) (fun _ _ _ _ h => h) rfl ?_ (by assumption) ?_
      rotate_left 1
      · (intro w' hSw; obtain ⟨a0, a1, a2, b0, b1, b2⟩ := hSw; go_simp; try with_reducible rfl)
      simp only [List.setIfInBounds_toArray, List.set_cons_zero, List.set_cons_succ]
      refine rs.want_take (i := 4) 21 (v := ?_) rfl rfl (by kernel_rfl) (by kernel_rfl) (by kernel_rfl) (fun _ _ _ _ h => h) rfl ?_ (by assumption) ?_
      rotate_left 1
      · (intro w' hSw; obtain ⟨a0, a1, a2, b0, b1, b2⟩ := hSw; go_simp; try with_reducible rfl)
      simp only [List.setIfInBounds_toArray, List.set_cons_zero, List.set_cons_succ]
      refine rs.want_take (i := 5) 22 (v := ?_) rfl rfl (by kernel_rfl) (by kernel_rfl) (by kernel_rfl) (fun _ _ _ _ h => h) rfl ?_ (by assumption) ?_
      rotate_left 1
      · (intro w' hSw; obtain ⟨a0, a1, a2, b0, b1, b2⟩ := hSw; go_simp; try with_reducible rfl)
      simp only [List.setIfInBounds_toArray, List.set_cons_zero, List.set_cons_succ]
      refine rs.want_take (i := 6) 23 (v := ?_) rfl rfl (by kernel_rfl) (by kernel_rfl) (by kernel_rfl) (fun _ _ _ _ h => h) rfl ?_ (by assumption) ?_
      rotate_left 1
      · (intro w' hSw; obtain ⟨a0, a1, a2, b0, b1, b2⟩ := hSw; go_simp; try with_reducible rfl)
      simp only [List.setIfInBounds_toArray, List.set_cons_zero, List.set_cons_succ]
      refine rs.want_take (i := 7) 24 (v := ?_) rfl rfl (by kernel_rfl) (by kernel_rfl) (by kernel_rfl) (fun _ _ _ _ h => h) rfl ?_ (by assumption) ?_
      rotate_left 1
      · (intro w' hSw; obtain ⟨a0, a1, a2, b0, b1, b2⟩ := hSw; go_simp; try with_reducible rfl)
      simp only [List.setIfInBounds_toArray, List.set_cons_zero, List.set_cons_succ]
      refine rs.want_take (i := 8) 25 (v := ?_) rfl rfl (by kernel_rfl) (by kernel_rfl) (by kernel_rfl) (fun _ _ _ _ h => h) rfl ?_ (by assumption) ?_
      rotate_left 1
      · (intro w' hSw; obtain ⟨a0, a1, a2, b0, b1, b2⟩ := hSw; go_simp; try with_reducible rfl)
      simp only [List.setIfInBounds_toArray, List.set_cons_zero, List.set_cons_succ]
      refine wpAnyH_done (by kernel_rfl) ?_ _
      go_wp2
      go_roundw
      case rel => exact ⟨k + 1, by omega, by go_num, R.out⟩
      case measure => simp [intOf]; omega
    · obtain rfl : k = l.length := by omega
      go_wp2
      go_ret
      exact ⟨rfl, hB⟩

set_option maxRecDepth 100000 in
set_option maxHeartbeats 1600000 in
theorem lbK_same (w : World) (k : Kp) (a b c a' b' c' : Value) (h1 : SeesK w k a b c) (h2 : SeesK w k a' b' c') (hl : Few k) :
    Calls Tryz.prog 14 #[kpV k.id k.time k.next a b c, kpV k.id k.time k.next a' b' c'] w (YesPost w) := by
  obtain ⟨hl1, hl2, hl3⟩ := hl
  have hT := EqB.new w k a b c a' b' c'
  have s1 := h1.later hT.bel
  have s2 := h2.later hT.bel
  have HN1 := Lib.hid (fun V (p : SeesN V a k.held) (q : SeesN V a' k.held) => lbN_same V a a' k.held p q hl1)
  have HN2 := Lib.hid (fun V (p : SeesMk V b k.marks) (q : SeesMk V b' k.marks) => lbM_same V b b' k.marks p q hl2)
  have HN3 := Lib.hid (fun V (p : SeesN V c k.inbox) (q : SeesN V c' k.inbox) => lbN_same V c c' k.inbox p q hl3)
  clear hl1 hl2 hl3 h1 h2
  go_enter Tryz.func14, Tryz.ntmps14
  go_wp2_with fail
  generalize (w.alloc (.cells #[.int .i64 k.id, .int .i64 k.time, .int .i64 k.next, a, b, c] 29)).alloc (.cells #[.int .i64 k.id, .int .i64 k.time, .int .i64 k.next, a', b', c'] 29) = V at hT s1 s2 ⊢
  refine (HN1.out _ s1.held s2.held).mono ?_
  rintro e w1 ⟨rfl, hB1⟩
  have hT1 := hT.later hB1
  have s3 := s1.later hB1
  have s4 := s2.later hB1
  obtain ⟨_, d1, d2, _, d4, d5⟩ := hT1.cells
  clear hT s1 s2 hB1 HN1
  go_wp2_with fail
  refine (HN2.out _ s3.marks s4.marks).mono ?_
  rintro e w2 ⟨rfl, hB2⟩
  have hT2 := hT1.later hB2
  have s5 := s3.later hB2
  have s6 := s4.later hB2
  clear d1 d2 d4 d5 hT1 s3 s4 hB2 HN2
  obtain ⟨_, _, d2, _, _, d5⟩ := hT2.cells
  go_wp2_with fail
  refine (HN3.out _ s5.inbox s6.inbox).mono ?_
  rintro e w3 ⟨rfl, hB3⟩
  have HB := Lib.hid (hT2.later hB3).bel
  clear hT2 s5 s6 hB3 d2 d5
  go_wp2
  go_ret
  exact ⟨rfl, HB.out⟩

end Go.Proofs.YtjmmojjjopjdpaaGreatDoor.kp

/-
  What the law of the first records and the rest is to keep while the rest is done one by one: the keep's box, the list of records, and the keep that comes of all of them.
-/
namespace Go.Proofs.YtjmmojjjopjdpaaGreatDoor.kp
open Go.ChangeShapes Go.WideShapes Go.ChangeAt Go.RowKit
open Go.Proofs.YtjmmojjjopjdpaaGreatDoor.wd Go.Proofs.YtjmmojjjopjdpaaGreatDoor.ow Go.Proofs.YtjmmojjjopjdpaaGreatDoor.rl Go.Proofs.YtjmmojjjopjdpaaGreatDoor.ok Go.Proofs.YtjmmojjjopjdpaaGreatDoor.nb Go.Proofs.YtjmmojjjopjdpaaGreatDoor.sl Go.Proofs.YtjmmojjjopjdpaaGreatDoor.dc Go.Proofs.YtjmmojjjopjdpaaGreatDoor.pk Go.Proofs.YtjmmojjjopjdpaaGreatDoor.dr

theorem runs_parts {k k' : Kp} {ls : List (List UInt8)} (h : Runs k ls k') (i : Nat) : ∃ k1, Runs k (ls.take i) k1 ∧ Runs k1 (ls.drop i) k' := by
  induction ls generalizing k i with
  | nil => exact ⟨k, (by simp [Runs]), (by simpa using h)⟩
  | cons a ls ih =>
    cases i with
    | zero => exact ⟨k, rfl, h⟩
    | succ i =>
      obtain ⟨x, hx, h⟩ := h
      obtain ⟨k1, h1, h2⟩ := ih h i
      exact ⟨k1, ⟨x, hx, h1⟩, h2⟩
/-- the records drawn, of which the first part was done at once -/
theorem of_parts {id : Int} {ls : List (List UInt8)} {k k1 : Kp} {b : Bool} (h : OfK id ls k true) (i : Nat) (h1 : OfK id (ls.take i) k1 b) : b = true ∧ Runs k1 (ls.drop i) k ∧ okK k1 = true ∧ inB id 0 3 = true := by
  rcases h with ⟨hi, _, h⟩ | ⟨h, _⟩
  · obtain ⟨k2, g1, g2⟩ := runs_parts h i
    obtain ⟨e1, e2⟩ := ofK_one h1 (.inl ⟨hi, rfl, g1⟩)
    subst e1
    exact ⟨e2, g2, runs_ok (by rw [startK_ok]; exact hi) g1, hi⟩
  · cases h
theorem runs_next {k k' : Kp} {ls : List (List UInt8)} {i : Nat} {l : List UInt8} (h : Runs k (ls.drop i) k') (hk : okK k = true) (hi : ls[i]? = some l) {k1 : Kp} {b : Bool} (hd : DoK k l k1 b) : b = true ∧ Runs k1 (ls.drop (i + 1)) k' ∧ okK k1 = true := by
  obtain ⟨hlt, hv⟩ := List.getElem?_eq_some_iff.1 hi
  rw [List.drop_eq_getElem_cons hlt, hv] at h
  obtain ⟨x, hx, h⟩ := h
  rcases hd with ⟨h0, _⟩ | ⟨_, hd⟩
  · rw [hk] at h0; cases h0
  · obtain ⟨rfl, rfl⟩ := does_one hd hx
    exact ⟨rfl, h, does_ok hx⟩

/-- the first ones of a list of texts -/
theorem sees_first {w : World} {A : Option Addr} {n c : Nat} {l : List ByteArray} (h : SeesS w (.slice A n c) l) {j : Nat} (hj : j ≤ l.length) : SeesS w (.slice A j c) (l.take j) := by
  obtain ⟨A', c', e, hc⟩ := h
  injection e with e1 e2 e3
  subst e1; subst e2; subst e3
  have hlen : (l.take j).length = j := by rw [List.length_take]; omega
  refine ⟨A, c, by rw [hlen], fun hn => ?_⟩
  rw [hlen] at hn
  obtain ⟨g, rfl, hg, hcell⟩ := hc (by omega)
  refine ⟨g, rfl, hg, fun i x hx => hcell i x ?_⟩
  obtain ⟨hi, _⟩ := List.getElem?_eq_some_iff.1 hx
  rw [hlen] at hi
  rw [List.getElem?_take_of_lt hi] at hx
  exact hx
theorem rem_first (a n : Nat) : ∃ j : Nat, j ≤ n ∧ (a : Int).tmod ((n : Int) + 1) = (j : Int) := by
  refine ⟨a % (n + 1), Nat.le_of_lt_succ (Nat.mod_lt _ (Nat.succ_pos n)), ?_⟩
  rw [Int.tmod_eq_emod_of_nonneg (by omega)]
  rfl
theorem own_fit {w0 w : World} {t : TypeId} {A : Option Addr} {n c : Nat} {xs : List Value} (h : ow.Own t w0 w (.slice A n c) xs) : n ≤ c := by
  rcases h.1.2 with ⟨e, h0⟩ | ⟨g, cap, cur, e, hb, hh, hn, hm, hs, ht⟩
  · injection e with _ e2 _
    omega
  · injection e with _ e2 e3
    omega

/-- the box of x, its lists, the records, and k in its own box -/
structure Lp (w W : World) (R : Nat) (x : Kp) (a b c : Value) (v : Value) (xs : List ByteArray) (Rk : Nat) (k : Kp) (a' b' c' : Value) : Prop where
  bel : Below w.heap.size w W
  hR : w.heap.size ≤ R
  hne : Rk ≠ R
  box : KBox W R x a b c
  sees : SeesK W x a b c
  off : Off R a b c
  own : W.ownsRow w.heap.size 9 1 v (xs.map Value.string).length (xs.map Value.string)
  vR : v.ownBlock ≠ some R
  kbox : KBox W Rk k a' b' c'
  ksees : SeesK W k a' b' c'
  koff : Off R a' b' c'
  sz : Sz 14 x
section
variable {w W W' : World} {R Rk : Nat} {x x' k : Kp} {a b c a2 b2 c2 v a' b' c' : Value} {xs : List ByteArray}
theorem Lp.later (h : Lp w W R x a b c v xs Rk k a' b' c') (hB : Below W.heap.size W W') : Lp w W' R x a b c v xs Rk k a' b' c' := by
  refine ⟨h.bel.trans (hB.mono h.bel.size), h.hR, h.hne, h.box.below hB h.box.lt, h.sees.later hB, h.off, h.own.kept (dr.below_grown hB none) ?_, h.vR, h.kbox.below hB h.kbox.lt, h.ksees.later hB, h.koff, h.sz⟩
  cases hv : v.ownBlock with
  | none => exact .inl rfl
  | some g => exact .inr (by simp)
/-- another keep is stored into the box -/
theorem Lp.put (h : Lp w W R x a b c v xs Rk k a' b' c') (hs : SeesK W x' a2 b2 c2) (hO : Off R a2 b2 c2) (hz : Sz 14 x') :
    Lp w (put6 W R (.int .i64 x'.id) (.int .i64 x'.time) (.int .i64 x'.next) a2 b2 c2) R x' a2 b2 c2 v xs Rk k a' b' c' := by
  have hG : W.grownBy (put6 W R (.int .i64 x'.id) (.int .i64 x'.time) (.int .i64 x'.next) a2 b2 c2) (some R) :=
    kp.set_grown (kp.set_grown (kp.set_grown (kp.set_grown (kp.set_grown (kp.set_grown (dr.below_grown (Below.refl _ _) _) 0 _) 1 _) 2 _) 3 _) 4 _) 5 _
  exact ⟨h.bel.trans (grown_below hG h.hR h.bel.size), h.hR, h.hne, put6_blk h.box, seesK_grown hs hG hO, hO, h.own.kept hG (.inr h.vR), h.vR, blk_grown h.kbox hG h.hne, seesK_grown h.ksees hG h.koff, h.koff, hz⟩
theorem Lp.recs (h : Lp w W R x a b c v xs Rk k a' b' c') : SeesS W v xs := sees_of_own ⟨h.own, h.bel⟩
/-- at first: what KeepOf of the first records made, in its box -/
theorem Lp.new {V : World} (hB : Below w.heap.size w W) (ho : OwnK V W x a b c) (hv : ow.Own 9 w W v (xs.map Value.string)) (hk : KBox W Rk k a' b' c') (hs : SeesK W k a' b' c') (hz : Sz 14 x) :
    Lp w (W.alloc (.cells #[.int .i64 x.id, .int .i64 x.time, .int .i64 x.next, a, b, c] 29)) W.heap.size x a b c v xs Rk k a' b' c' := by
  have hA := (Below.refl W.heap.size W).alloc (Nat.le_refl _) (.cells #[.int .i64 x.id, .int .i64 x.time, .int .i64 x.next, a, b, c] 29)
  have hl := hk.lt
  refine ⟨hB.trans (hA.mono hB.size), hB.size, by omega, Blk.new W _ _, ho.sees.later hA, ho.off (Nat.le_refl _), hv.1.kept (dr.below_grown hA none) ?_, fun e => by have := (hv.1.lt _ e).2; omega, hk.below hA hl, hs.later hA, ⟨lt_of_sees hs.held (Nat.le_refl _), lt_of_sees hs.marks (Nat.le_refl _), lt_of_sees hs.inbox (Nat.le_refl _)⟩, hz⟩
  cases hv : v.ownBlock with
  | none => exact .inl rfl
  | some g => exact .inr (by simp)
/-- a block that came later was written -/
theorem Lp.beside {Z : World} {o : Nat} (h : Lp w W R x a b c v xs Rk k a' b' c') (hZ : Lp w Z R x a b c v xs Rk k a' b' c') (ho : Z.heap.size ≤ o) (hG : W.grownBy W' (some o)) : Lp w W' R x a b c v xs Rk k a' b' c' := by
  have h1 := hZ.box.lt
  have h2 := hZ.kbox.lt
  have h3 := hZ.bel.size
  have h4 := h.bel.size
  exact ⟨h.bel.trans (grown_below hG (by omega) h4), h.hR, h.hne, blk_grown h.box hG (by omega), seesK_grown h.sees hG ⟨lt_of_sees hZ.sees.held ho, lt_of_sees hZ.sees.marks ho, lt_of_sees hZ.sees.inbox ho⟩, h.off, h.own.kept hG (.inr (fun e => by have := (hZ.own.lt _ e).2; omega)), h.vR, blk_grown h.kbox hG (by omega), seesK_grown h.ksees hG ⟨lt_of_sees hZ.ksees.held ho, lt_of_sees hZ.ksees.marks ho, lt_of_sees hZ.ksees.inbox ho⟩, h.koff, h.sz⟩
end
theorem grown_cell {W W' : World} {o g i : Nat} {x : Value} (h : W.grownBy W' (some o)) (hg : g < W.heap.size) (hne : g ≠ o) (hx : W.cell? ⟨g, i, none⟩ = some x) : W'.cell? ⟨g, i, none⟩ = some x := by
  have e : W'.heap[g]? = W.heap[g]? := h.block g hg (fun e => hne (by injection e))
  rw [← hx]; unfold World.cell?; simp only [e]
end Go.Proofs.YtjmmojjjopjdpaaGreatDoor.kp

