/-
  Contracts of the laws' own helpers over what a keeper has: eqMark, eqNoteS, eqMarkS, eqKeep (where both are the same); szKeep; toKeep.
-/
import Derived.Test.YtgihbilpimempabKeepTo
import Derived.Test.YtgihbilpimempabEqNote
import Derived.Deep.RegionHeld3
namespace Go.Proofs.Ytgihbilpimempab.kp
open Go.ChangeShapes Go.WideShapes Go.ChangeAt Go.RowKit
open Go.Proofs.Ytgihbilpimempab.wd Go.Proofs.Ytgihbilpimempab.ow Go.Proofs.Ytgihbilpimempab.rl Go.Proofs.Ytgihbilpimempab.ok

def YesPost (w : World) (e : Ending) (w' : World) : Prop := e = .returned (.bool true) ∧ Below w.heap.size w w'

theorem eqMk_same (f n u : Int) (w : World) : Calls Try.prog 49 #[mark f n u, mark f n u] w (YesPost w) := by
  unfold mark
  go_enter Try.func49, Try.ntmps49
  go_wp2
  go_ret
  exact ⟨rfl, ((Below.refl _ _).alloc (Nat.le_refl _) _).alloc (by simp) _⟩
theorem eqNt_same (f n t u : Int) (s : ByteArray) (w : World) : Calls Try.prog 48 #[note f n t u s, note f n t u s] w (YesPost w) := ok.eq_same f n t u s w

set_option maxRecDepth 100000 in
set_option maxHeartbeats 1600000 in
theorem eqN_same (w : World) (v1 v2 : Value) (l : List Nt) (h1 : SeesN w v1 l) (h2 : SeesN w v2 l) (hl : l.length ≤ 1048576) :
    Calls Try.prog 23 #[v1, v2] w (YesPost w) := by
  have H1 := Lib.hid h1
  have H2 := Lib.hid h2
  obtain ⟨A1, c1, rfl, _⟩ := h1
  obtain ⟨A2, c2, rfl, _⟩ := h2
  go_enter Try.func23, Try.ntmps23
  go_wp2
  go_loopw [5] (fun i wr => ∃ k : Nat, k ≤ l.length ∧ i = .int .i64 k ∧ Below w.heap.size w wr) (fun i _ => (l.length + 1 : Nat) - (intOf i).toNat)
  case atStart => exact ⟨0, by omega, rfl, Below.refl _ _⟩
  case round =>
    obtain ⟨k, hk, rfl, hB⟩ := hrel
    by_cases hkl : k < l.length
    · have hx : l[k]? = some l[k] := List.getElem?_eq_getElem hkl
      obtain ⟨g1, c1', e1, hg1, _, a0, a1, a2, a3, a4⟩ := note_at (H1.out.later hB) hx
      obtain ⟨g2, c2', e2, hg2, _, b0, b1, b2, b3, b4⟩ := note_at (H2.out.later hB) hx
      injection e1 with e1 _ q1
      injection e2 with e2 _ q2
      subst e1; subst e2; subst q1; subst q2
      generalize l[k] = y at a0 a1 a2 a3 a4 b0 b1 b2 b3 b4
      have hk0 : (0 : Int) ≤ (k : Int) := by omega
      have hk1 : (k : Int) < (l.length : Int) := by omega
      have HE := Lib.hid (fun V => eqNt_same y.f y.n y.t y.u y.s V)
      unfold note at HE
      clear hx
      go_wp2_with fail
      go_region_held3 (fun w' => w'.cell? ⟨g1, k * 5, none⟩ = some (.int .i64 y.f) ∧ w'.cell? ⟨g1, k * 5 + 1, none⟩ = some (.int .i64 y.n) ∧ w'.cell? ⟨g1, k * 5 + 2, none⟩ = some (.int .i64 y.t) ∧ w'.cell? ⟨g1, k * 5 + 3, none⟩ = some (.int .i64 y.u) ∧ w'.cell? ⟨g1, k * 5 + 4, none⟩ = some (.string y.s) ∧ w'.cell? ⟨g2, k * 5, none⟩ = some (.int .i64 y.f) ∧ w'.cell? ⟨g2, k * 5 + 1, none⟩ = some (.int .i64 y.n) ∧ w'.cell? ⟨g2, k * 5 + 2, none⟩ = some (.int .i64 y.t) ∧ w'.cell? ⟨g2, k * 5 + 3, none⟩ = some (.int .i64 y.u) ∧ w'.cell? ⟨g2, k * 5 + 4, none⟩ = some (.string y.s)) (first | exact ⟨a0, a1, a2, a3, a4, b0, b1, b2, b3, b4⟩ | exact ⟨s0, s1, s2, s3, s4, r0, r1, r2, r3, r4⟩ | go_keep) ((go_at_call 48; refine (HE.out _).mono ?_; rintro e w2 ⟨rfl, hB2⟩; have s0 := (hB2.cell (p := ⟨g1, k * 5, none⟩) hg1).trans a0; have s1 := (hB2.cell (p := ⟨g1, k * 5 + 1, none⟩) hg1).trans a1; have s2 := (hB2.cell (p := ⟨g1, k * 5 + 2, none⟩) hg1).trans a2; have s3 := (hB2.cell (p := ⟨g1, k * 5 + 3, none⟩) hg1).trans a3; have s4 := (hB2.cell (p := ⟨g1, k * 5 + 4, none⟩) hg1).trans a4; have r0 := (hB2.cell (p := ⟨g2, k * 5, none⟩) hg2).trans b0; have r1 := (hB2.cell (p := ⟨g2, k * 5 + 1, none⟩) hg2).trans b1; have r2 := (hB2.cell (p := ⟨g2, k * 5 + 2, none⟩) hg2).trans b2; have r3 := (hB2.cell (p := ⟨g2, k * 5 + 3, none⟩) hg2).trans b3; have r4 := (hB2.cell (p := ⟨g2, k * 5 + 4, none⟩) hg2).trans b4))
      have R := Lib.hid (hB.drew.trans (hB2.mono hB.size))
      clear hB hB2 s0 s1 s2 s3 s4 r0 r1 r2 r3 r4 a0 a1 a2 a3 a4 b0 b1 b2 b3 b4
      go_wp2
      go_roundw
      case rel => exact ⟨k + 1, by omega, by go_num, R.out⟩
      case measure => simp [intOf]; omega
    · obtain rfl : k = l.length := by omega
      go_wp2
      go_ret
      exact ⟨rfl, hB⟩

set_option maxRecDepth 100000 in
set_option maxHeartbeats 1600000 in
theorem eqM_same (w : World) (v1 v2 : Value) (l : List Mk) (h1 : SeesMk w v1 l) (h2 : SeesMk w v2 l) (hl : l.length ≤ 1048576) :
    Calls Try.prog 24 #[v1, v2] w (YesPost w) := by
  have H1 := Lib.hid h1
  have H2 := Lib.hid h2
  obtain ⟨A1, c1, rfl, _⟩ := h1
  obtain ⟨A2, c2, rfl, _⟩ := h2
  go_enter Try.func24, Try.ntmps24
  go_wp2
  go_loopw [5] (fun i wr => ∃ k : Nat, k ≤ l.length ∧ i = .int .i64 k ∧ Below w.heap.size w wr) (fun i _ => (l.length + 1 : Nat) - (intOf i).toNat)
  case atStart => exact ⟨0, by omega, rfl, Below.refl _ _⟩
  case round =>
    obtain ⟨k, hk, rfl, hB⟩ := hrel
    by_cases hkl : k < l.length
    · have hx : l[k]? = some l[k] := List.getElem?_eq_getElem hkl
      obtain ⟨g1, c1', e1, hg1, _, a0, a1, a2⟩ := mark_at (H1.out.later hB) hx
      obtain ⟨g2, c2', e2, hg2, _, b0, b1, b2⟩ := mark_at (H2.out.later hB) hx
      injection e1 with e1 _ q1
      injection e2 with e2 _ q2
      subst e1; subst e2; subst q1; subst q2
      generalize l[k] = y at a0 a1 a2 b0 b1 b2
      have hk0 : (0 : Int) ≤ (k : Int) := by omega
      have hk1 : (k : Int) < (l.length : Int) := by omega
      have HE := Lib.hid (fun V => eqMk_same y.f y.n y.u V)
      unfold mark at HE
      clear hx
      go_wp2_with fail
      go_region_held3 (fun w' => w'.cell? ⟨g1, k * 3, none⟩ = some (.int .i64 y.f) ∧ w'.cell? ⟨g1, k * 3 + 1, none⟩ = some (.int .i64 y.n) ∧ w'.cell? ⟨g1, k * 3 + 2, none⟩ = some (.int .i64 y.u) ∧ w'.cell? ⟨g2, k * 3, none⟩ = some (.int .i64 y.f) ∧ w'.cell? ⟨g2, k * 3 + 1, none⟩ = some (.int .i64 y.n) ∧ w'.cell? ⟨g2, k * 3 + 2, none⟩ = some (.int .i64 y.u)) (first | exact ⟨a0, a1, a2, b0, b1, b2⟩ | exact ⟨s0, s1, s2, r0, r1, r2⟩ | go_keep) ((go_at_call 49; refine (HE.out _).mono ?_; rintro e w2 ⟨rfl, hB2⟩; have s0 := (hB2.cell (p := ⟨g1, k * 3, none⟩) hg1).trans a0; have s1 := (hB2.cell (p := ⟨g1, k * 3 + 1, none⟩) hg1).trans a1; have s2 := (hB2.cell (p := ⟨g1, k * 3 + 2, none⟩) hg1).trans a2; have r0 := (hB2.cell (p := ⟨g2, k * 3, none⟩) hg2).trans b0; have r1 := (hB2.cell (p := ⟨g2, k * 3 + 1, none⟩) hg2).trans b1; have r2 := (hB2.cell (p := ⟨g2, k * 3 + 2, none⟩) hg2).trans b2))
      have R := Lib.hid (hB.drew.trans (hB2.mono hB.size))
      clear hB hB2 s0 s1 s2 r0 r1 r2 a0 a1 a2 b0 b1 b2
      go_wp2
      go_roundw
      case rel => exact ⟨k + 1, by omega, by go_num, R.out⟩
      case measure => simp [intOf]; omega
    · obtain rfl : k = l.length := by omega
      go_wp2
      go_ret
      exact ⟨rfl, hB⟩

/-- short lists -/
def Few (k : Kp) : Prop := k.held.length ≤ 1048576 ∧ k.marks.length ≤ 1048576 ∧ k.inbox.length ≤ 1048576

/-- the boxes of two keeps -/
structure EqB (w V : World) (k : Kp) (a b c a' b' c' : Value) : Prop where
  one : Blk V w.heap.size 25 #[.int .i64 k.id, .int .i64 k.time, .int .i64 k.next, a, b, c]
  two : Blk V (w.heap.size + 1) 25 #[.int .i64 k.id, .int .i64 k.time, .int .i64 k.next, a', b', c']
  bel : Below w.heap.size w V
theorem EqB.new (w : World) (k : Kp) (a b c a' b' c' : Value) : EqB w ((w.alloc (.cells #[.int .i64 k.id, .int .i64 k.time, .int .i64 k.next, a, b, c] 25)).alloc (.cells #[.int .i64 k.id, .int .i64 k.time, .int .i64 k.next, a', b', c'] 25)) k a b c a' b' c' := by
  have k1 := Blk.new (w.alloc (.cells #[.int .i64 k.id, .int .i64 k.time, .int .i64 k.next, a, b, c] 25)) 25 #[.int .i64 k.id, .int .i64 k.time, .int .i64 k.next, a', b', c']
  simp only [World.size_alloc] at k1
  exact ⟨(Blk.new w _ _).alloc _, k1, ((Below.refl _ w).alloc (Nat.le_refl _) _).alloc (by simp) _⟩
theorem EqB.later {w V V' : World} {k : Kp} {a b c a' b' c' : Value} (h : EqB w V k a b c a' b' c') (hb : Below V.heap.size V V') : EqB w V' k a b c a' b' c' := ⟨h.one.below hb h.one.lt, h.two.below hb h.two.lt, h.bel.trans (hb.mono h.bel.size)⟩
theorem EqB.cells {w V : World} {k : Kp} {a b c a' b' c' : Value} (h : EqB w V k a b c a' b' c') : V.cell? ⟨w.heap.size, 3, none⟩ = some a ∧ V.cell? ⟨w.heap.size, 4, none⟩ = some b ∧ V.cell? ⟨w.heap.size, 5, none⟩ = some c ∧ V.cell? ⟨w.heap.size + 1, 3, none⟩ = some a' ∧ V.cell? ⟨w.heap.size + 1, 4, none⟩ = some b' ∧ V.cell? ⟨w.heap.size + 1, 5, none⟩ = some c' :=
  ⟨h.one.cell 3, h.one.cell 4, h.one.cell 5, h.two.cell 3, h.two.cell 4, h.two.cell 5⟩

set_option maxRecDepth 100000 in
set_option maxHeartbeats 1600000 in
theorem eqK_same (w : World) (k : Kp) (a b c a' b' c' : Value) (h1 : SeesK w k a b c) (h2 : SeesK w k a' b' c') (hl : Few k) :
    Calls Try.prog 8 #[kpV k.id k.time k.next a b c, kpV k.id k.time k.next a' b' c'] w (YesPost w) := by
  obtain ⟨hl1, hl2, hl3⟩ := hl
  have hT := EqB.new w k a b c a' b' c'
  have s1 := h1.later hT.bel
  have s2 := h2.later hT.bel
  have HN1 := Lib.hid (fun V (p : SeesN V a k.held) (q : SeesN V a' k.held) => eqN_same V a a' k.held p q hl1)
  have HN2 := Lib.hid (fun V (p : SeesMk V b k.marks) (q : SeesMk V b' k.marks) => eqM_same V b b' k.marks p q hl2)
  have HN3 := Lib.hid (fun V (p : SeesN V c k.inbox) (q : SeesN V c' k.inbox) => eqN_same V c c' k.inbox p q hl3)
  clear hl1 hl2 hl3 h1 h2
  go_enter Try.func8, Try.ntmps8
  go_wp2_with fail
  generalize (w.alloc (.cells #[.int .i64 k.id, .int .i64 k.time, .int .i64 k.next, a, b, c] 25)).alloc (.cells #[.int .i64 k.id, .int .i64 k.time, .int .i64 k.next, a', b', c'] 25) = V at hT s1 s2 ⊢
  refine (HN1.out _ s1.held s2.held).mono ?_
  rintro e w1 ⟨rfl, hB1⟩
  have hT1 := hT.later hB1
  have s3 := s1.later hB1
  have s4 := s2.later hB1
  obtain ⟨_, d1, d2, _, d4, d5⟩ := hT1.cells
  clear hT s1 s2 hB1 HN1
  go_wp2_with fail
  refine (HN2.out _ s3.marks s4.marks).mono ?_
  rintro e w2 ⟨rfl, hB2⟩
  have hT2 := hT1.later hB2
  have s5 := s3.later hB2
  have s6 := s4.later hB2
  clear d1 d2 d4 d5 hT1 s3 s4 hB2 HN2
  obtain ⟨_, _, d2, _, _, d5⟩ := hT2.cells
  go_wp2_with fail
  refine (HN3.out _ s5.inbox s6.inbox).mono ?_
  rintro e w3 ⟨rfl, hB3⟩
  have HB := Lib.hid (hT2.later hB3).bel
  clear hT2 s5 s6 hB3 d2 d5
  go_wp2
  go_ret
  exact ⟨rfl, HB.out⟩

/-- the size of what came in -/
def SizeK (w : World) (k : Kp) (e : Ending) (w' : World) : Prop := ∃ r : Int, e = .returned (.int .i64 r) ∧ (0 ≤ r → Few k) ∧ Below w.heap.size w w'
set_option maxRecDepth 100000 in
set_option maxHeartbeats 1600000 in
theorem szK_any (w : World) (k : Kp) (a b c : Value) (h : InK w k a b c) :
    Calls Try.prog 11 #[kpV k.id k.time k.next a b c, .int .i64 1048576] w (SizeK w k) := by
  have k1 := Blk.new w 33 #[.int .i64 k.id, .int .i64 k.time, .int .i64 k.next, a, b, c]
  have hB0 := (Below.refl w.heap.size w).alloc (Nat.le_refl _) (.cells #[.int .i64 k.id, .int .i64 k.time, .int .i64 k.next, a, b, c] 33)
  have i1 := h.later hB0
  have HF := Lib.hid (fun (p : k.held.length ≤ 1048576) (q : k.marks.length ≤ 1048576) (r : k.inbox.length ≤ 1048576) => show Few k from ⟨p, q, r⟩)
  clear h
  go_enter Try.func11, Try.ntmps11
  go_wp2_with fail
  generalize w.heap.size = R at k1 ⊢
  generalize w.alloc (.cells #[.int .i64 k.id, .int .i64 k.time, .int .i64 k.next, a, b, c] 33) = V at k1 hB0 i1 ⊢
  refine (szN_any _ _ _ i1.held i1.heldS 1048576 (by omega) (by omega)).mono ?_
  rintro e w1 ⟨x, rfl, x0, x1, hx, hB1⟩
  have k2 := k1.below hB1 k1.lt
  have i2 := i1.later hB1
  have hB2 := hB0.trans (hB1.mono hB0.size)
  have d1 := k2.cell 4
  simp only [List.getElem?_toArray, List.getElem?_cons_zero, List.getElem?_cons_succ] at d1
  clear k1 i1 hB1 hB0
  by_cases hn : x < 0
  · go_wp2
    go_ret
    exact ⟨_, rfl, by omega, hB2⟩
  go_wp2_with fail
  refine (szM_any _ _ _ i2.marks x (by omega) (by omega)).mono ?_
  rintro e w2 ⟨y, rfl, y0, y1, hy, hB3⟩
  have k3 := k2.below hB3 k2.lt
  have i3 := i2.later hB3
  have hB4 := hB2.trans (hB3.mono hB2.size)
  clear d1
  have d2 := k3.cell 5
  simp only [List.getElem?_toArray, List.getElem?_cons_zero, List.getElem?_cons_succ] at d2
  clear k2 i2 hB3 hB2
  by_cases hn2 : y < 0
  · go_wp2
    go_ret
    exact ⟨_, rfl, by omega, hB4⟩
  go_wp2_with fail
  refine (szN_any _ _ _ i3.inbox i3.inboxS y (by omega) (by omega)).mono ?_
  rintro e w3 ⟨z, rfl, z0, z1, hz, hB5⟩
  have hB6 := hB4.trans (hB5.mono hB4.size)
  clear d2 k3 i3 hB4 hB5
  by_cases hn3 : z < 0
  · go_wp2
    go_ret
    exact ⟨_, rfl, by omega, hB6⟩
  · have HF2 := Lib.hid (HF.out (hx (by omega)) (hy (by omega)) (hz (by omega)))
    go_wp2
    go_ret
    exact ⟨_, rfl, fun _ => HF2.out, hB6⟩
end Go.Proofs.Ytgihbilpimempab.kp
