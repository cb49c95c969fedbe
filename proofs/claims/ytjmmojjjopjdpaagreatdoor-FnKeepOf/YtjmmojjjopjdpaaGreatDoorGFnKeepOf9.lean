/-
  Merged texts: KeepEq, KeepOwn, SPut, SFresh.
-/
import Derived.Test.YtjmmojjjopjdpaaGreatDoorGFnKeepOf8
import Derived.Deep.RegionHeld3
import Derived.OwnWalk
/-
  Contracts of the laws' own helpers over what a keeper has: eqMark, eqNoteS, eqMarkS, eqKeep (where both are the same); szKeep; toKeep.
-/
namespace Go.Proofs.YtjmmojjjopjdpaaGreatDoor.kp
open Go.ChangeShapes Go.WideShapes Go.ChangeAt Go.RowKit
open Go.Proofs.YtjmmojjjopjdpaaGreatDoor.wd Go.Proofs.YtjmmojjjopjdpaaGreatDoor.ow Go.Proofs.YtjmmojjjopjdpaaGreatDoor.rl Go.Proofs.YtjmmojjjopjdpaaGreatDoor.ok

def YesPost (w : World) (e : Ending) (w' : World) : Prop := e = .returned (.bool true) ∧ Below w.heap.size w w'

theorem eqMk_same (f n u : Int) (w : World) : Calls Tryz.prog 137 #[mark f n u, mark f n u] w (YesPost w) := by
  unfold mark
  go_enter Tryz.func137, Tryz.ntmps137
  go_wp2
  go_ret
  exact ⟨rfl, ((Below.refl _ _).alloc (Nat.le_refl _) _).alloc (by simp) _⟩
theorem eqNt_same (f n t u : Int) (s : ByteArray) (w : World) : Calls Tryz.prog 136 #[note f n t u s, note f n t u s] w (YesPost w) := ok.eq_same f n t u s w

set_option maxRecDepth 100000 in
set_option maxHeartbeats 1600000 in
theorem eqN_same (w : World) (v1 v2 : Value) (l : List Nt) (h1 : SeesN w v1 l) (h2 : SeesN w v2 l) (hl : l.length ≤ 1048576) :
    Calls Tryz.prog 68 #[v1, v2] w (YesPost w) := by
  have H1 := Lib.hid h1
  have H2 := Lib.hid h2
  obtain ⟨A1, c1, rfl, _⟩ := h1
  obtain ⟨A2, c2, rfl, _⟩ := h2
  go_enter Tryz.func68, Tryz.ntmps68
  go_wp2
  go_loopw [5] (fun i wr => ∃ k : Nat, k ≤ l.length ∧ i = .int .i64 k ∧ Below w.heap.size w wr) (fun i _ => (l.length + 1 : Nat) - (intOf i).toNat)
  case atStart => exact ⟨0, by omega, rfl, Below.refl _ _⟩
  case round =>
    obtain ⟨k, hk, rfl, hB⟩ := hrel
    by_cases hkl : k < l.length
    · have hx : l[k]? = some l[k] := List.getElem?_eq_getElem hkl
      obtain ⟨g1, c1', e1, hg1, _, a0, a1, a2, a3, a4⟩ := note_at (H1.out.later hB) hx
      obtain ⟨g2, c2', e2, hg2, _, b0, b1, b2, b3, b4⟩ := note_at (H2.out.later hB) hx
      injection e1 with e1 _ q1
      injection e2 with e2 _ q2
      subst e1; subst e2; subst q1; subst q2
      generalize l[k] = y at a0 a1 a2 a3 a4 b0 b1 b2 b3 b4
      have hk0 : (0 : Int) ≤ (k : Int) := by omega
      have hk1 : (k : Int) < (l.length : Int) := by omega
      have HE := Lib.hid (fun V => eqNt_same y.f y.n y.t y.u y.s V)
      unfold note at HE
      clear hx
      go_wp2_with fail
      go_region_held3 (fun w' => w'.cell? ⟨g1, k * 5, none⟩ = some (.int .i64 y.f) ∧ w'.cell? ⟨g1, k * 5 + 1, none⟩ = some (.int .i64 y.n) ∧ w'.cell? ⟨g1, k * 5 + 2, none⟩ = some (.int .i64 y.t) ∧ w'.cell? ⟨g1, k * 5 + 3, none⟩ = some (.int .i64 y.u) ∧ w'.cell? ⟨g1, k * 5 + 4, none⟩ = some (.string y.s) ∧ w'.cell? ⟨g2, k * 5, none⟩ = some (.int .i64 y.f) ∧ w'.cell? ⟨g2, k * 5 + 1, none⟩ = some (.int .i64 y.n) ∧ w'.cell? ⟨g2, k * 5 + 2, none⟩ = some (.int .i64 y.t) ∧ w'.cell? ⟨g2, k * 5 + 3, none⟩ = some (.int .i64 y.u) ∧ w'.cell? ⟨g2, k * 5 + 4, none⟩ = some (.string y.s)) (first | exact ⟨a0, a1, a2, a3, a4, b0, b1, b2, b3, b4⟩ | exact ⟨s0, s1, s2, s3, s4, r0, r1, r2, r3, r4⟩ | go_keep) ((go_at_call 136; refine (HE.out _).mono ?_; rintro e w2 ⟨rfl, hB2⟩; have s0 := (hB2.cell (p := ⟨g1, k * 5, none⟩) hg1).trans a0; have s1 := (hB2.cell (p := ⟨g1, k * 5 + 1, none⟩) hg1).trans a1; have s2 := (hB2.cell (p := ⟨g1, k * 5 + 2, none⟩) hg1).trans a2; have s3 := (hB2.cell (p := ⟨g1, k * 5 + 3, none⟩) hg1).trans a3; have s4 := (hB2.cell (p := ⟨g1, k * 5 + 4, none⟩) hg1).trans a4; have r0 := (hB2.cell (p := ⟨g2, k * 5, none⟩) hg2).trans b0; have r1 := (hB2.cell (p := ⟨g2, k * 5 + 1, none⟩) hg2).trans b1; have r2 := (hB2.cell (p := ⟨g2, k * 5 + 2, none⟩) hg2).trans b2; have r3 := (hB2.cell (p := ⟨g2, k * 5 + 3, none⟩) hg2).trans b3; have r4 := (hB2.cell (p := ⟨g2, k * 5 + 4, none⟩) hg2).trans b4))
      have R := Lib.hid (hB.drew.trans (hB2.mono hB.size))
      clear hB hB2 s0 s1 s2 s3 s4 r0 r1 r2 r3 r4 a0 a1 a2 a3 a4 b0 b1 b2 b3 b4
      go_wp2
      go_roundw
      case rel => exact ⟨k + 1, by omega, by go_num, R.out⟩
      case measure => simp [intOf]; omega
    · obtain rfl : k = l.length := by omega
      go_wp2
      go_ret
      exact ⟨rfl, hB⟩

set_option maxRecDepth 100000 in
set_option maxHeartbeats 1600000 in
theorem eqM_same (w : World) (v1 v2 : Value) (l : List Mk) (h1 : SeesMk w v1 l) (h2 : SeesMk w v2 l) (hl : l.length ≤ 1048576) :
    Calls Tryz.prog 69 #[v1, v2] w (YesPost w) := by
  have H1 := Lib.hid h1
  have H2 := Lib.hid h2
  obtain ⟨A1, c1, rfl, _⟩ := h1
  obtain ⟨A2, c2, rfl, _⟩ := h2
  go_enter Tryz.func69, Tryz.ntmps69
  go_wp2
  go_loopw [5] (fun i wr => ∃ k : Nat, k ≤ l.length ∧ i = .int .i64 k ∧ Below w.heap.size w wr) (fun i _ => (l.length + 1 : Nat) - (intOf i).toNat)
  case atStart => exact ⟨0, by omega, rfl, Below.refl _ _⟩
  case round =>
    obtain ⟨k, hk, rfl, hB⟩ := hrel
    by_cases hkl : k < l.length
    · have hx : l[k]? = some l[k] := List.getElem?_eq_getElem hkl
      obtain ⟨g1, c1', e1, hg1, _, a0, a1, a2⟩ := mark_at (H1.out.later hB) hx
      obtain ⟨g2, c2', e2, hg2, _, b0, b1, b2⟩ := mark_at (H2.out.later hB) hx
      injection e1 with e1 _ q1
      injection e2 with e2 _ q2
      subst e1; subst e2; subst q1; subst q2
      generalize l[k] = y at a0 a1 a2 b0 b1 b2
      have hk0 : (0 : Int) ≤ (k : Int) := by omega
      have hk1 : (k : Int) < (l.length : Int) := by omega
      have HE := Lib.hid (fun V => eqMk_same y.f y.n y.u V)
      unfold mark at HE
      clear hx
      go_wp2_with fail
      go_region_held3 (fun w' => w'.cell? ⟨g1, k * 3, none⟩ = some (.int .i64 y.f) ∧ w'.cell? ⟨g1, k * 3 + 1, none⟩ = some (.int .i64 y.n) ∧ w'.cell? ⟨g1, k * 3 + 2, none⟩ = some (.int .i64 y.u) ∧ w'.cell? ⟨g2, k * 3, none⟩ = some (.int .i64 y.f) ∧ w'.cell? ⟨g2, k * 3 + 1, none⟩ = some (.int .i64 y.n) ∧ w'.cell? ⟨g2, k * 3 + 2, none⟩ = some (.int .i64 y.u)) (first | exact ⟨a0, a1, a2, b0, b1, b2⟩ | exact ⟨s0, s1, s2, r0, r1, r2⟩ | go_keep) ((go_at_call 137; refine (HE.out _).mono ?_; rintro e w2 ⟨rfl, hB2⟩; have s0 := (hB2.cell (p := ⟨g1, k * 3, none⟩) hg1).trans a0; have s1 := (hB2.cell (p := ⟨g1, k * 3 + 1, none⟩) hg1).trans a1; have s2 := (hB2.cell (p := ⟨g1, k * 3 + 2, none⟩) hg1).trans a2; have r0 := (hB2.cell (p := ⟨g2, k * 3, none⟩) hg2).trans b0; have r1 := (hB2.cell (p := ⟨g2, k * 3 + 1, none⟩) hg2).trans b1; have r2 := (hB2.cell (p := ⟨g2, k * 3 + 2, none⟩) hg2).trans b2))
      have R := Lib.hid (hB.drew.trans (hB2.mono hB.size))
      clear hB hB2 s0 s1 s2 r0 r1 r2 a0 a1 a2 b0 b1 b2
      go_wp2
      go_roundw
      case rel => exact ⟨k + 1, by omega, by go_num, R.out⟩
      case measure => simp [intOf]; omega
    · obtain rfl : k = l.length := by omega
      go_wp2
      go_ret
      exact ⟨rfl, hB⟩

/-- short lists -/
def Few (k : Kp) : Prop := k.held.length ≤ 1048576 ∧ k.marks.length ≤ 1048576 ∧ k.inbox.length ≤ 1048576

/-- the boxes of two keeps -/
structure EqB (w V : World) (k : Kp) (a b c a' b' c' : Value) : Prop where
  one : Blk V w.heap.size 29 #[.int .i64 k.id, .int .i64 k.time, .int .i64 k.next, a, b, c]
  two : Blk V (w.heap.size + 1) 29 #[.int .i64 k.id, .int .i64 k.time, .int .i64 k.next, a', b', c']
  bel : Below w.heap.size w V
theorem EqB.new (w : World) (k : Kp) (a b c a' b' c' : Value) : EqB w ((w.alloc (.cells #[.int .i64 k.id, .int .i64 k.time, .int .i64 k.next, a, b, c] 29)).alloc (.cells #[.int .i64 k.id, .int .i64 k.time, .int .i64 k.next, a', b', c'] 29)) k a b c a' b' c' := by
  have k1 := Blk.new (w.alloc (.cells #[.int .i64 k.id, .int .i64 k.time, .int .i64 k.next, a, b, c] 29)) 29 #[.int .i64 k.id, .int .i64 k.time, .int .i64 k.next, a', b', c']
  simp only [World.size_alloc] at k1
  exact ⟨(Blk.new w _ _).alloc _, k1, ((Below.refl _ w).alloc (Nat.le_refl _) _).alloc (by simp) _⟩
theorem EqB.later {w V V' : World} {k : Kp} {a b c a' b' c' : Value} (h : EqB w V k a b c a' b' c') (hb : Below V.heap.size V V') : EqB w V' k a b c a' b' c' := ⟨h.one.below hb h.one.lt, h.two.below hb h.two.lt, h.bel.trans (hb.mono h.bel.size)⟩
theorem EqB.cells {w V : World} {k : Kp} {a b c a' b' c' : Value} (h : EqB w V k a b c a' b' c') : V.cell? ⟨w.heap.size, 3, none⟩ = some a ∧ V.cell? ⟨w.heap.size, 4, none⟩ = some b ∧ V.cell? ⟨w.heap.size, 5, none⟩ = some c ∧ V.cell? ⟨w.heap.size + 1, 3, none⟩ = some a' ∧ V.cell? ⟨w.heap.size + 1, 4, none⟩ = some b' ∧ V.cell? ⟨w.heap.size + 1, 5, none⟩ = some c' :=
  ⟨h.one.cell 3, h.one.cell 4, h.one.cell 5, h.two.cell 3, h.two.cell 4, h.two.cell 5⟩

set_option maxRecDepth 100000 in
set_option maxHeartbeats 1600000 in
theorem eqK_same (w : World) (k : Kp) (a b c a' b' c' : Value) (h1 : SeesK w k a b c) (h2 : SeesK w k a' b' c') (hl : Few k) :
    Calls Tryz.prog 25 #[kpV k.id k.time k.next a b c, kpV k.id k.time k.next a' b' c'] w (YesPost w) := by
  obtain ⟨hl1, hl2, hl3⟩ := hl
  have hT := EqB.new w k a b c a' b' c'
  have s1 := h1.later hT.bel
  have s2 := h2.later hT.bel
  have HN1 := Lib.hid (fun V (p : SeesN V a k.held) (q : SeesN V a' k.held) => eqN_same V a a' k.held p q hl1)
  have HN2 := Lib.hid (fun V (p : SeesMk V b k.marks) (q : SeesMk V b' k.marks) => eqM_same V b b' k.marks p q hl2)
  have HN3 := Lib.hid (fun V (p : SeesN V c k.inbox) (q : SeesN V c' k.inbox) => eqN_same V c c' k.inbox p q hl3)
  clear hl1 hl2 hl3 h1 h2
  go_enter Tryz.func25, Tryz.ntmps25
  go_wp2_with fail
  generalize (w.alloc (.cells #[.int .i64 k.id, .int .i64 k.time, .int .i64 k.next, a, b, c] 29)).alloc (.cells #[.int .i64 k.id, .int .i64 k.time, .int .i64 k.next, a', b', c'] 29) = V at hT s1 s2 ⊢
  refine (HN1.out _ s1.held s2.held).mono ?_
  rintro e w1 ⟨rfl, hB1⟩
  have hT1 := hT.later hB1
  have s3 := s1.later hB1
  have s4 := s2.later hB1
  obtain ⟨_, d1, d2, _, d4, d5⟩ := hT1.cells
  clear hT s1 s2 hB1 HN1
  go_wp2_with fail
  refine (HN2.out _ s3.marks s4.marks).mono ?_
  rintro e w2 ⟨rfl, hB2⟩
  have hT2 := hT1.later hB2
  have s5 := s3.later hB2
  have s6 := s4.later hB2
  clear d1 d2 d4 d5 hT1 s3 s4 hB2 HN2
  obtain ⟨_, _, d2, _, _, d5⟩ := hT2.cells
  go_wp2_with fail
  refine (HN3.out _ s5.inbox s6.inbox).mono ?_
  rintro e w3 ⟨rfl, hB3⟩
  have HB := Lib.hid (hT2.later hB3).bel
  clear hT2 s5 s6 hB3 d2 d5
  go_wp2
  go_ret
  exact ⟨rfl, HB.out⟩

end Go.Proofs.YtjmmojjjopjdpaaGreatDoor.kp

/-
  Words: what a keeper has, of the call's own: its three lists lie apart. Contract of laws.toKeep.
-/
namespace Go.Proofs.YtjmmojjjopjdpaaGreatDoor.kp
open Go.ChangeShapes Go.WideShapes Go.ChangeAt Go.RowKit
open Go.Proofs.YtjmmojjjopjdpaaGreatDoor.wd Go.Proofs.YtjmmojjjopjdpaaGreatDoor.ow Go.Proofs.YtjmmojjjopjdpaaGreatDoor.rl Go.Proofs.YtjmmojjjopjdpaaGreatDoor.ok

def Apart (u v : Value) : Prop := ∀ g, u.ownBlock = some g → v.ownBlock = some g → False
theorem Apart.symm {u v : Value} (h : Apart u v) : Apart v u := fun g a b => h g b a
structure OwnK (w0 w : World) (k : Kp) (vh vm vi : Value) : Prop where
  held : OwnR ntS 131 w0 w vh k.held
  marks : OwnR mkS 164 w0 w vm k.marks
  inbox : OwnR ntS 131 w0 w vi k.inbox
  hm : Apart vh vm
  hi : Apart vh vi
  mi : Apart vm vi
section
variable {w0 w w1 : World} {k : Kp} {vh vm vi : Value}
theorem OwnK.later (h : OwnK w0 w k vh vm vi) (hb : Below w.heap.size w w1) : OwnK w0 w1 k vh vm vi := ⟨h.held.later hb, h.marks.later hb, h.inbox.later hb, h.hm, h.hi, h.mi⟩
theorem OwnK.from_ (h : OwnK w w1 k vh vm vi) (hb : Below w0.heap.size w0 w) : OwnK w0 w1 k vh vm vi := ⟨h.held.from_ hb, h.marks.from_ hb, h.inbox.from_ hb, h.hm, h.hi, h.mi⟩
theorem OwnK.sees (h : OwnK w0 w k vh vm vi) : SeesK w k vh vm vi := ⟨h.held.sees, h.marks.sees, h.inbox.sees⟩
theorem OwnK.bel (h : OwnK w0 w k vh vm vi) : Below w0.heap.size w0 w := h.held.2
end
/-- a list that was made later lies apart -/
theorem apart_of {α β : Type} {S : Shape α} {S' : Shape β} {t t' : TypeId} {w0 w w' w2 : World} {u v : Value} {l : List α} {l' : List β} (h : OwnR S t w0 w u l) (h' : OwnR S' t' w' w2 v l') (hw : w.heap.size ≤ w'.heap.size) : Apart u v := fun g a b => by
  have h1 := (h.lt a).2
  have h2 := (h'.lt b).1
  omega
theorem OwnR.form {α : Type} {S : Shape α} {t : TypeId} {w0 w : World} {v : Value} {l : List α} (h : OwnR S t w0 w v l) : ∃ A c, v = .slice A l.length c := by
  obtain ⟨A, c, e, _⟩ := h.sees
  exact ⟨A, c, e⟩
def KeepPost (w : World) (k : Kp) (e : Ending) (w' : World) : Prop := ∃ vh vm vi, e = .returned (kpV k.id k.time k.next vh vm vi) ∧ OwnK w w' k vh vm vi

/-- a list of the call's own, in whatever block that is not one of those that are written -/
def OwnAt {α : Type} (S : Shape α) (t : TypeId) (B : Nat) (W : World) (v : Value) (l : List α) : Prop := W.ownsRow B t S.n v l.length (l.flatMap S.f)
theorem OwnAt.set {α : Type} {S : Shape α} {t : TypeId} {B : Nat} {W : World} {v : Value} {l : List α} (h : OwnAt S t B W v l) {p : Addr} (hp : p.block < B) (x : Value) : OwnAt S t B (W.setCell p x) v l := by
  refine h.kept (row := some p.block) ⟨rfl, rfl, rfl, by simp, fun k _ hne => Below.heap_setCell W p x k (fun e => hne (by rw [e]))⟩ ?_
  cases hv : v.ownBlock with
  | none => exact .inl rfl
  | some k => exact .inr (fun e => by have := (h.lt k hv).1; injection e; omega)
theorem OwnAt.later {α : Type} {S : Shape α} {t : TypeId} {B : Nat} {W W' : World} {v : Value} {l : List α} (h : OwnAt S t B W v l) (hb : Below W.heap.size W W') : OwnAt S t B W' v l := by
  refine World.ownsRow.kept h (row := none) ⟨hb.os, hb.tape, hb.output, hb.size, fun i hi _ => hb.block i hi⟩ ?_
  cases hv : v.ownBlock with
  | none => exact .inl rfl
  | some k => exact .inr (by simp)
theorem OwnAt.down {α : Type} {S : Shape α} {t : TypeId} {B B' : Nat} {W : World} {v : Value} {l : List α} (h : OwnAt S t B W v l) (hB : B' ≤ B) : OwnAt S t B' W v l := by
  refine ⟨h.1, ?_⟩
  rcases h.2 with h' | ⟨g, cap, cur, h1, h2, h3⟩
  · exact .inl h'
  · exact .inr ⟨g, cap, cur, h1, by omega, h3⟩

/-- a result's block of a keep, before it is written -/
theorem res_cells {V : World} {R : Nat} {a b c d e f : Value} (h : Blk V R 29 #[a, b, c, d, e, f]) : V.cell? ⟨R, 0, none⟩ = some a ∧ V.cell? ⟨R, 1, none⟩ = some b ∧ V.cell? ⟨R, 2, none⟩ = some c ∧ V.cell? ⟨R, 3, none⟩ = some d ∧ V.cell? ⟨R, 4, none⟩ = some e ∧ V.cell? ⟨R, 5, none⟩ = some f ∧
    V.frozen? ⟨R, 0, none⟩ = false ∧ V.frozen? ⟨R, 1, none⟩ = false ∧ V.frozen? ⟨R, 2, none⟩ = false ∧ V.frozen? ⟨R, 3, none⟩ = false ∧ V.frozen? ⟨R, 4, none⟩ = false ∧ V.frozen? ⟨R, 5, none⟩ = false :=
  ⟨h.cell 0, h.cell 1, h.cell 2, h.cell 3, h.cell 4, h.cell 5, h.frozen 0, h.frozen 1, h.frozen 2, h.frozen 3, h.frozen 4, h.frozen 5⟩
/-- a keep stored into a block -/
abbrev put6 (V : World) (R : Nat) (a b c d e f : Value) : World := (((((V.setCell ⟨R, 0, none⟩ a).setCell ⟨R, 1, none⟩ b).setCell ⟨R, 2, none⟩ c).setCell ⟨R, 3, none⟩ d).setCell ⟨R, 4, none⟩ e).setCell ⟨R, 5, none⟩ f
theorem put6_blk {V : World} {R : Nat} {a b c d e f a' b' c' d' e' f' : Value} (h : Blk V R 29 #[a, b, c, d, e, f]) : Blk (put6 V R a' b' c' d' e' f') R 29 #[a', b', c', d', e', f'] :=
  (((((h.put 0 a').put 1 b').put 2 c').put 3 d').put 4 e').put 5 f'
theorem put6_below {w V : World} {B R : Nat} (hR : B ≤ R) (h : Below B w V) (a b c d e f : Value) : Below B w (put6 V R a b c d e f) :=
  (((((h.setCell (p := ⟨R, 0, none⟩) hR a).setCell (p := ⟨R, 1, none⟩) hR b).setCell (p := ⟨R, 2, none⟩) hR c).setCell (p := ⟨R, 3, none⟩) hR d).setCell (p := ⟨R, 4, none⟩) hR e).setCell (p := ⟨R, 5, none⟩) hR f
theorem OwnAt.put6 {α : Type} {S : Shape α} {t : TypeId} {B : Nat} {W : World} {v : Value} {l : List α} (h : OwnAt S t B W v l) {R : Nat} (hR : R < B) (a b c d e f : Value) : OwnAt S t B (put6 W R a b c d e f) v l :=
  (((((h.set (p := ⟨R, 0, none⟩) hR a).set (p := ⟨R, 1, none⟩) hR b).set (p := ⟨R, 2, none⟩) hR c).set (p := ⟨R, 3, none⟩) hR d).set (p := ⟨R, 4, none⟩) hR e).set (p := ⟨R, 5, none⟩) hR f

theorem OwnAt.same {α : Type} {S : Shape α} {t : TypeId} {B : Nat} {W W' : World} {v : Value} {l : List α} (h : OwnAt S t B W v l) (hs : ∀ g, v.ownBlock = some g → W'.heap[g]? = W.heap[g]?) : OwnAt S t B W' v l := by
  refine ⟨h.1, ?_⟩
  rcases h.2 with h' | ⟨g, cap, cur, rfl, h2, h3, h4⟩
  · exact .inl h'
  · exact .inr ⟨g, cap, cur, rfl, h2, (hs g rfl).trans h3, h4⟩
theorem OwnAt.lt {α : Type} {S : Shape α} {t : TypeId} {B : Nat} {W : World} {v : Value} {l : List α} (h : OwnAt S t B W v l) {g : Nat} (hg : v.ownBlock = some g) : B ≤ g ∧ g < W.heap.size := World.ownsRow.lt h g hg
theorem OwnAt.sees {α : Type} {S : Shape α} {t : TypeId} {B : Nat} {W : World} {v : Value} {l : List α} (h : OwnAt S t B W v l) : SeesR S W v l := by
  rcases h.2 with ⟨rfl, hn⟩ | ⟨g, cap, cur, rfl, hb, hh, hn, hm, hs, ht⟩
  · exact ⟨none, 0, by rw [hn], .inl ⟨rfl, rfl, List.eq_nil_of_length_eq_zero hn⟩⟩
  · refine ⟨_, cap, rfl, .inr ⟨g, rfl, (h.lt rfl).2, fun i x hx j u hu => ?_⟩⟩
    have hj : j < S.n := by have := (List.getElem?_eq_some_iff.1 hu).1; rwa [S.len] at this
    have hf := flat_at S.len l i x hx j hj
    rw [hu] at hf
    have hi := (List.getElem?_eq_some_iff.1 hf).1
    rw [World.ownsRow.cellAt (g := g) (cap := cap) h _ (by rwa [flat_len S.len] at hi), hf]
end Go.Proofs.YtjmmojjjopjdpaaGreatDoor.kp

/-
  Contracts of spec.l12PutNote, l12PutMark: a message, a mark is put among the others, in order.
-/
namespace Go.Proofs.YtjmmojjjopjdpaaGreatDoor.kp
open Go.ChangeShapes Go.WideShapes Go.ChangeAt Go.RowKit
open Go.Proofs.YtjmmojjjopjdpaaGreatDoor.wd Go.Proofs.YtjmmojjjopjdpaaGreatDoor.ow Go.Proofs.YtjmmojjjopjdpaaGreatDoor.rl Go.Proofs.YtjmmojjjopjdpaaGreatDoor.ok Go.Proofs.YtjmmojjjopjdpaaGreatDoor.nb

/-- a list of the call's own that has grown by an append -/
theorem OwnAt.grew {α : Type} {S : Shape α} {t : TypeId} {B : Nat} {W : World} {v : Value} {l : List α} {y : α} {n : Nat} (h : W.ownsRow B t S.n v n (l.flatMap S.f ++ [y].flatMap S.f)) (hn : n = l.length + 1) : OwnAt S t B W v (l ++ [y]) := by
  subst hn
  unfold OwnAt
  rw [List.flatMap_append, List.length_append]
  exact h
theorem part_one {α : Type} {S : Shape α} {t : TypeId} (W : World) (y : α) {cs : Array Value} (hc : cs.toList = S.f y) : PartR S (W.alloc (.cells cs t)) (some ⟨W.heap.size, 0, none⟩) 1 [y] := by
  refine .inr ⟨W.heap.size, 0, rfl, fun j u hu => ?_⟩
  rw [List.flatMap_cons, List.flatMap_nil, List.append_nil, ← hc] at hu
  rw [Nat.zero_add, (Blk.new W t cs).cell j]
  simpa using hu
theorem ownAt_new {α : Type} {S : Shape α} {t : TypeId} {B : Nat} (W : World) (hB : B ≤ W.heap.size) : OwnAt S t B (W.alloc (.cells #[] t)) (.slice (some ⟨W.heap.size, 0, none⟩) 0 0) ([] : List α) :=
  World.ownsRow_lit W #[] 0 hB (by unfold maxLen; omega) (by simp)
theorem OwnAt.keepBlk {α : Type} {S : Shape α} {t t' : TypeId} {B g : Nat} {W W' : World} {v : Value} {l : List α} {cs : Array Value} (h : OwnAt S t B W v l) (hG : W.grownBy W' v.ownBlock) (hb : Blk W g t' cs) (hg : g < B) : Blk W' g t' cs :=
  (hG.block g hb.lt (fun e => by have := (World.ownsRow.lt h g e.symm).1; omega)).trans hb
theorem OwnAt.below {α : Type} {S : Shape α} {t : TypeId} {B : Nat} {W W' : World} {v : Value} {l : List α} (h : OwnAt S t B W v l) (hG : W.grownBy W' v.ownBlock) (hB : B ≤ W.heap.size) : Below B W W' :=
  ⟨hG.os, hG.tape, hG.output, hG.size, fun k hk => hG.block k (by omega) (fun e => by have := (World.ownsRow.lt h k e.symm).1; omega)⟩
theorem OwnAt.alloc {α : Type} {S : Shape α} {t : TypeId} {B : Nat} {W : World} {v : Value} {l : List α} (h : OwnAt S t B W v l) (o : Obj) : OwnAt S t B (W.alloc o) v l := World.ownsRow.alloc h o

/-- while a message is put: its box, the list so far -/
structure PBN (w V : World) (x : Nt) (v : Value) (out : List Nt) : Prop where
  box : Blk V w.heap.size 131 #[.int .i64 x.f, .int .i64 x.n, .int .i64 x.t, .int .i64 x.u, .string x.s]
  own : OwnAt ntS 131 (w.heap.size + 1) V v out
  bel : Below w.heap.size w V
  sz : w.heap.size + 1 ≤ V.heap.size
section
variable {w V V' : World} {x y : Nt} {v v' : Value} {out : List Nt}
theorem PBN.new (w : World) (x : Nt) : PBN w ((w.alloc (.cells #[.int .i64 x.f, .int .i64 x.n, .int .i64 x.t, .int .i64 x.u, .string x.s] 131)).alloc (.cells #[] 131)) x (.slice (some ⟨w.heap.size + 1, 0, none⟩) 0 0) [] := by
  have h1 := ownAt_new (S := ntS) (t := 131) (B := w.heap.size + 1) (w.alloc (.cells #[.int .i64 x.f, .int .i64 x.n, .int .i64 x.t, .int .i64 x.u, .string x.s] 131)) (by simp)
  simp only [World.size_alloc] at h1
  exact ⟨(Blk.new w _ _).alloc _, h1, ((Below.refl _ w).alloc (Nat.le_refl _) _).alloc (by simp) _, by simp⟩
theorem PBN.drewN (h : PBN w V x v out) (q : Nat) : PBN w (V.drewN q) x v out := ⟨h.box, h.own, below_drewN' h.bel q, h.sz⟩
theorem PBN.more {n : Nat} {o : Obj} (h : PBN w V x v out) (h1 : V'.ownsRow (w.heap.size + 1) 131 (ntS).n v' n (out.flatMap (ntS).f ++ [y].flatMap (ntS).f)) (hn : n = out.length + 1) (hg : (V.alloc o).grownBy V' v.ownBlock) : PBN w V' x v' (out ++ [y]) := by
  have hO := h.own.alloc o
  have hz : (V.alloc o).heap.size = V.heap.size + 1 := by simp
  have hB := hO.below hg (by have := h.sz; omega)
  exact ⟨hO.keepBlk hg (h.box.alloc o) (by omega), OwnAt.grew h1 hn, (h.bel.alloc h.bel.size o).trans (hB.mono (by omega)), by have := h.sz; have := hg.size; omega⟩
theorem PBN.done (h : PBN w V x v out) : OwnR ntS 131 w V v out := ⟨OwnAt.down h.own (by omega), h.bel⟩
end

set_option maxRecDepth 100000 in
set_option maxHeartbeats 1600000 in
theorem putN_any (w : World) (v : Value) (l : List Nt) (x : Nt) (h : SeesN w v l) (hl : l.length ≤ 1048576) :
    Calls Tryz.prog 174 #[v, ntV x] w (ListN w (putN l x)) := by
  obtain ⟨i0, hi, hz0, hz1, hz2⟩ := info_parts infoNote
  have HS := Lib.hid h
  obtain ⟨A, c, rfl, _⟩ := h
  have hP := PBN.new w x
  have HE := Lib.hid (show putN l x = putL (fun y => less x.f x.n y.f y.n) l x from rfl)
  unfold ntV note
  go_enter Tryz.func174, Tryz.ntmps174
  go_wp2
  have HP := Lib.hid hP
  clear hP
  go_loopw [5, 6, 7] (fun ov dv i wr => ∃ (k : Nat) (b : Bool) (out : List Nt), k ≤ l.length ∧ i = .int .i64 k ∧ dv = .bool b ∧ Hid (Putting (fun y => less x.f x.n y.f y.n) l x k b out) ∧ Hid (PBN w wr x ov out)) (fun _ _ i _ => (l.length + 1 : Nat) - (intOf i).toNat)
  case atStart => exact ⟨0, false, [], by omega, rfl, rfl, put_start, HP.out⟩
  case round =>
    obtain ⟨k, bb, out, hk, rfl, rfl, HQ, HP1⟩ := hrel
    clear HP
    have hlen := put_len HQ.out
    have hsz := HP1.out.sz
    by_cases hkl : k < l.length
    · have hx : l[k]? = some l[k] := List.getElem?_eq_getElem hkl
      have hc := note_at (HS.out.later HP1.out.bel) hx
      generalize l[k] = y at hx hc
      obtain ⟨g, c', e, hg, _, t0, t1, t2, t3, t4⟩ := hc
      injection e with e1 e2 e3
      subst e1; subst e3
      have hk0 : (0 : Int) ≤ (k : Int) := by omega
      have hk1 : (k : Int) < (l.length : Int) := by omega
      obtain ⟨n0, n1, n2, n3, n4⟩ := nt_cells HP1.out.box
      have HL := Lib.hid (fun V => (less_any x.f x.n y.f y.n V).mono (R' := fun e w' => e = .returned (.bool (less x.f x.n y.f y.n)) ∧ w' = V) fun _ _ h => ⟨h.1, h.2.symm⟩)
      cases bb with
      | true =>
        have HQ2 := Lib.hid (put_on HQ.out hx)
        clear hx
        go_wp2_with fail
        go_quiet (fail)
        go_wp2_with (at_builtin; refine wpList_append_recs ntS (by decide) rfl _ _ 26 rfl (w.heap.size + 1) 131 i0 _ 48 Tryz.underlying26 hi hz0 hz1 hz2 rfl _ _ _ rfl ((HP1.out.drewN nq).own.alloc _) (some ⟨(wr.drewN nq).heap.size, 0, none⟩) 1 1 [y] rfl rfl (part_one (wr.drewN nq) y rfl) ?e3 ?e4 ?e5 ?_)
        case e3 => (show out.length + 1 ≤ maxLen); unfold maxLen; omega
        case e4 => (show (out.length + 1) * 48 ≤ 140737488355328); omega
        case e5 => first | omega | (simp; omega)
        intro v8 w8 hown hgrow
        have HP8 := Lib.hid ((HP1.out.drewN nq).more hown rfl hgrow)
        clear hown hgrow
        go_wp2
        go_roundw
        case rel => first | exact ⟨k + 1, true, _, by omega, by go_num, rfl, HQ2.out, HP8.out⟩ | ((repeat apply Exists.intro); refine And.intro ?_ rfl; exact ⟨k + 1, true, _, by omega, by go_num, rfl, HQ2.out, HP8.out⟩)
        case measure => simp [intOf]; omega
      | false =>
        cases hls : less x.f x.n y.f y.n with
        | true =>
          have HQ2 := Lib.hid (put_here HQ.out hx hls)
          have HX := Lib.hid hx
          rw [hls] at HL
          clear hx hls
          go_wp2_with fail
          go_quiet ((go_at_call 227; with_reducible exact Calls.quiet_of_same (HL.out _)))
          go_wp2_with (at_builtin; refine wpList_append_recs ntS (by decide) rfl _ _ 26 rfl (w.heap.size + 1) 131 i0 _ 48 Tryz.underlying26 hi hz0 hz1 hz2 rfl _ _ _ rfl ((HP1.out.drewN nq).own.alloc _) (some ⟨(wr.drewN nq).heap.size, 0, none⟩) 1 1 [x] rfl rfl (part_one (wr.drewN nq) x rfl) ?e3 ?e4 ?e5 ?_)
          case e3 => (show out.length + 1 ≤ maxLen); unfold maxLen; omega
          case e4 => (show (out.length + 1) * 48 ≤ 140737488355328); omega
          case e5 => first | omega | (simp; omega)
          intro v8 w8 hown hgrow
          have HP8 := Lib.hid ((HP1.out.drewN nq).more hown rfl hgrow)
          clear hown hgrow
          have hl8 : (out ++ [x]).length ≤ k + 2 := by simp; omega
          generalize out ++ [x] = o2 at HP8 HQ2 hl8
          have hs8 := HP8.out.sz
          have hc8 := note_at (HS.out.later HP8.out.bel) HX.out
          obtain ⟨g8, c8, e8, _, _, r0, r1, r2, r3, r4⟩ := hc8
          injection e8 with e8 _ e9
          injection e8 with e8
          injection e8 with e8
          subst e8
          subst e9
          clear t0 t1 t2 t3 t4 n0 n1 n2 n3 n4
          go_wp2_with (at_builtin; refine wpList_append_recs ntS (by decide) rfl _ _ 26 rfl (w.heap.size + 1) 131 i0 _ 48 Tryz.underlying26 hi hz0 hz1 hz2 rfl _ _ _ rfl (HP8.out.own.alloc _) (some ⟨w8.heap.size, 0, none⟩) 1 1 [y] rfl rfl (part_one w8 y rfl) ?e3 ?e4 ?e5 ?_)
          case e3 => (show o2.length + 1 ≤ maxLen); unfold maxLen; omega
          case e4 => (show (o2.length + 1) * 48 ≤ 140737488355328); omega
          case e5 => first | omega | (simp; omega)
          intro v9 w9 hown hgrow
          have HP9 := Lib.hid (HP8.out.more hown rfl hgrow)
          clear hown hgrow
          go_wp2
          go_roundw
          case rel => first | exact ⟨k + 1, true, _, by omega, by go_num, rfl, HQ2.out, HP9.out⟩ | ((repeat apply Exists.intro); refine And.intro ?_ rfl; exact ⟨k + 1, true, _, by omega, by go_num, rfl, HQ2.out, HP9.out⟩)
          case measure => simp [intOf]; omega
        | false =>
          have HQ2 := Lib.hid (put_skip HQ.out hx hls)
          rw [hls] at HL
          clear hx hls
          go_wp2_with fail
          go_quiet ((go_at_call 227; with_reducible exact Calls.quiet_of_same (HL.out _)))
          go_wp2_with (at_builtin; refine wpList_append_recs ntS (by decide) rfl _ _ 26 rfl (w.heap.size + 1) 131 i0 _ 48 Tryz.underlying26 hi hz0 hz1 hz2 rfl _ _ _ rfl ((HP1.out.drewN nq).own.alloc _) (some ⟨(wr.drewN nq).heap.size, 0, none⟩) 1 1 [y] rfl rfl (part_one (wr.drewN nq) y rfl) ?e3 ?e4 ?e5 ?_)
          case e3 => (show out.length + 1 ≤ maxLen); unfold maxLen; omega
          case e4 => (show (out.length + 1) * 48 ≤ 140737488355328); omega
          case e5 => first | omega | (simp; omega)
          intro v8 w8 hown hgrow
          have HP8 := Lib.hid ((HP1.out.drewN nq).more hown rfl hgrow)
          clear hown hgrow
          go_wp2
          go_roundw
          case rel => first | exact ⟨k + 1, false, _, by omega, by go_num, rfl, HQ2.out, HP8.out⟩ | ((repeat apply Exists.intro); refine And.intro ?_ rfl; exact ⟨k + 1, false, _, by omega, by go_num, rfl, HQ2.out, HP8.out⟩)
          case measure => simp [intOf]; omega
    · obtain ⟨n0, n1, n2, n3, n4⟩ := nt_cells HP1.out.box
      cases bb with
      | true =>
        have HR := Lib.hid (put_end HQ.out (by omega))
        go_wp2
        go_ret
        exact ⟨_, rfl, by rw [HE.out, ← HR.out]; exact HP1.out.done⟩
      | false =>
        have HR := Lib.hid (put_last HQ.out (by omega))
        go_wp2_with (at_builtin; refine wpList_append_recs ntS (by decide) rfl _ _ 26 rfl (w.heap.size + 1) 131 i0 _ 48 Tryz.underlying26 hi hz0 hz1 hz2 rfl _ _ _ rfl (HP1.out.own.alloc _) (some ⟨wr.heap.size, 0, none⟩) 1 1 [x] rfl rfl (part_one wr x rfl) ?e3 ?e4 ?e5 ?_)
        case e3 => (show out.length + 1 ≤ maxLen); unfold maxLen; omega
        case e4 => (show (out.length + 1) * 48 ≤ 140737488355328); omega
        case e5 => first | omega | (simp; omega)
        intro v8 w8 hown hgrow
        have HP8 := Lib.hid (HP1.out.more hown rfl hgrow)
        clear hown hgrow
        go_wp2
        go_ret
        exact ⟨_, rfl, by rw [HE.out, ← HR.out]; exact HP8.out.done⟩

/-- while a mark is put: its box, the list so far -/
structure PBM (w V : World) (x : Mk) (v : Value) (out : List Mk) : Prop where
  box : Blk V w.heap.size 164 #[.int .i64 x.f, .int .i64 x.n, .int .i64 x.u]
  own : OwnAt mkS 164 (w.heap.size + 1) V v out
  bel : Below w.heap.size w V
  sz : w.heap.size + 1 ≤ V.heap.size
section
variable {w V V' : World} {x y : Mk} {v v' : Value} {out : List Mk}
theorem PBM.new (w : World) (x : Mk) : PBM w ((w.alloc (.cells #[.int .i64 x.f, .int .i64 x.n, .int .i64 x.u] 164)).alloc (.cells #[] 164)) x (.slice (some ⟨w.heap.size + 1, 0, none⟩) 0 0) [] := by
  have h1 := ownAt_new (S := mkS) (t := 164) (B := w.heap.size + 1) (w.alloc (.cells #[.int .i64 x.f, .int .i64 x.n, .int .i64 x.u] 164)) (by simp)
  simp only [World.size_alloc] at h1
  exact ⟨(Blk.new w _ _).alloc _, h1, ((Below.refl _ w).alloc (Nat.le_refl _) _).alloc (by simp) _, by simp⟩
theorem PBM.drewN (h : PBM w V x v out) (q : Nat) : PBM w (V.drewN q) x v out := ⟨h.box, h.own, below_drewN' h.bel q, h.sz⟩
theorem PBM.more {n : Nat} {o : Obj} (h : PBM w V x v out) (h1 : V'.ownsRow (w.heap.size + 1) 164 (mkS).n v' n (out.flatMap (mkS).f ++ [y].flatMap (mkS).f)) (hn : n = out.length + 1) (hg : (V.alloc o).grownBy V' v.ownBlock) : PBM w V' x v' (out ++ [y]) := by
  have hO := h.own.alloc o
  have hz : (V.alloc o).heap.size = V.heap.size + 1 := by simp
  have hB := hO.below hg (by have := h.sz; omega)
  exact ⟨hO.keepBlk hg (h.box.alloc o) (by omega), OwnAt.grew h1 hn, (h.bel.alloc h.bel.size o).trans (hB.mono (by omega)), by have := h.sz; have := hg.size; omega⟩
theorem PBM.done (h : PBM w V x v out) : OwnR mkS 164 w V v out := ⟨OwnAt.down h.own (by omega), h.bel⟩
end

set_option maxRecDepth 100000 in
set_option maxHeartbeats 1600000 in
theorem putM_any (w : World) (v : Value) (l : List Mk) (x : Mk) (h : SeesMk w v l) (hl : l.length ≤ 1048576) :
    Calls Tryz.prog 178 #[v, mkV x] w (ListM w (putM l x)) := by
  obtain ⟨i0, hi, hz0, hz1, hz2⟩ := info_parts infoMark
  have HS := Lib.hid h
  obtain ⟨A, c, rfl, _⟩ := h
  have hP := PBM.new w x
  have HE := Lib.hid (show putM l x = putL (fun y => less x.f x.n y.f y.n) l x from rfl)
  unfold mkV mark
  go_enter Tryz.func178, Tryz.ntmps178
  go_wp2
  have HP := Lib.hid hP
  clear hP
  go_loopw [5, 6, 7] (fun ov dv i wr => ∃ (k : Nat) (b : Bool) (out : List Mk), k ≤ l.length ∧ i = .int .i64 k ∧ dv = .bool b ∧ Hid (Putting (fun y => less x.f x.n y.f y.n) l x k b out) ∧ Hid (PBM w wr x ov out)) (fun _ _ i _ => (l.length + 1 : Nat) - (intOf i).toNat)
  case atStart => exact ⟨0, false, [], by omega, rfl, rfl, put_start, HP.out⟩
  case round =>
    obtain ⟨k, bb, out, hk, rfl, rfl, HQ, HP1⟩ := hrel
    clear HP
    have hlen := put_len HQ.out
    have hsz := HP1.out.sz
    by_cases hkl : k < l.length
    · have hx : l[k]? = some l[k] := List.getElem?_eq_getElem hkl
      have hc := mark_at (HS.out.later HP1.out.bel) hx
      generalize l[k] = y at hx hc
      obtain ⟨g, c', e, hg, _, t0, t1, t2⟩ := hc
      injection e with e1 e2 e3
      subst e1; subst e3
      have hk0 : (0 : Int) ≤ (k : Int) := by omega
      have hk1 : (k : Int) < (l.length : Int) := by omega
      obtain ⟨n0, n1, n2⟩ := mk_cells HP1.out.box
      have HL := Lib.hid (fun V => (less_any x.f x.n y.f y.n V).mono (R' := fun e w' => e = .returned (.bool (less x.f x.n y.f y.n)) ∧ w' = V) fun _ _ h => ⟨h.1, h.2.symm⟩)
      cases bb with
      | true =>
        have HQ2 := Lib.hid (put_on HQ.out hx)
        clear hx
        go_wp2_with fail
        go_quiet (fail)
        go_wp2_with (at_builtin; refine wpList_append_recs mkS (by decide) rfl _ _ 27 rfl (w.heap.size + 1) 164 i0 _ 24 Tryz.underlying27 hi hz0 hz1 hz2 rfl _ _ _ rfl ((HP1.out.drewN nq).own.alloc _) (some ⟨(wr.drewN nq).heap.size, 0, none⟩) 1 1 [y] rfl rfl (part_one (wr.drewN nq) y rfl) ?e3 ?e4 ?e5 ?_)
        case e3 => (show out.length + 1 ≤ maxLen); unfold maxLen; omega
        case e4 => (show (out.length + 1) * 24 ≤ 140737488355328); omega
        case e5 => first | omega | (simp; omega)
        intro v8 w8 hown hgrow
        have HP8 := Lib.hid ((HP1.out.drewN nq).more hown rfl hgrow)
        clear hown hgrow
        go_wp2
        go_roundw
        case rel => first | exact ⟨k + 1, true, _, by omega, by go_num, rfl, HQ2.out, HP8.out⟩ | ((repeat apply Exists.intro); refine And.intro ?_ rfl; exact ⟨k + 1, true, _, by omega, by go_num, rfl, HQ2.out, HP8.out⟩)
        case measure => simp [intOf]; omega
      | false =>
        cases hls : less x.f x.n y.f y.n with
        | true =>
          have HQ2 := Lib.hid (put_here HQ.out hx hls)
          have HX := Lib.hid hx
          rw [hls] at HL
          clear hx hls
          go_wp2_with fail
          go_quiet ((go_at_call 227; with_reducible exact Calls.quiet_of_same (HL.out _)))
          go_wp2_with (at_builtin; refine wpList_append_recs mkS (by decide) rfl _ _ 27 rfl (w.heap.size + 1) 164 i0 _ 24 Tryz.underlying27 hi hz0 hz1 hz2 rfl _ _ _ rfl ((HP1.out.drewN nq).own.alloc _) (some ⟨(wr.drewN nq).heap.size, 0, none⟩) 1 1 [x] rfl rfl (part_one (wr.drewN nq) x rfl) ?e3 ?e4 ?e5 ?_)
          case e3 => (show out.length + 1 ≤ maxLen); unfold maxLen; omega
          case e4 => (show (out.length + 1) * 24 ≤ 140737488355328); omega
          case e5 => first | omega | (simp; omega)
          intro v8 w8 hown hgrow
          have HP8 := Lib.hid ((HP1.out.drewN nq).more hown rfl hgrow)
          clear hown hgrow
          have hl8 : (out ++ [x]).length ≤ k + 2 := by simp; omega
          generalize out ++ [x] = o2 at HP8 HQ2 hl8
          have hs8 := HP8.out.sz
          have hc8 := mark_at (HS.out.later HP8.out.bel) HX.out
          obtain ⟨g8, c8, e8, _, _, r0, r1, r2⟩ := hc8
          injection e8 with e8 _ e9
          injection e8 with e8
          injection e8 with e8
          subst e8
          subst e9
          clear t0 t1 t2 n0 n1 n2
          go_wp2_with (at_builtin; refine wpList_append_recs mkS (by decide) rfl _ _ 27 rfl (w.heap.size + 1) 164 i0 _ 24 Tryz.underlying27 hi hz0 hz1 hz2 rfl _ _ _ rfl (HP8.out.own.alloc _) (some ⟨w8.heap.size, 0, none⟩) 1 1 [y] rfl rfl (part_one w8 y rfl) ?e3 ?e4 ?e5 ?_)
          case e3 => (show o2.length + 1 ≤ maxLen); unfold maxLen; omega
          case e4 => (show (o2.length + 1) * 24 ≤ 140737488355328); omega
          case e5 => first | omega | (simp; omega)
          intro v9 w9 hown hgrow
          have HP9 := Lib.hid (HP8.out.more hown rfl hgrow)
          clear hown hgrow
          go_wp2
          go_roundw
          case rel => first | exact ⟨k + 1, true, _, by omega, by go_num, rfl, HQ2.out, HP9.out⟩ | ((repeat apply Exists.intro); refine And.intro ?_ rfl; exact ⟨k + 1, true, _, by omega, by go_num, rfl, HQ2.out, HP9.out⟩)
          case measure => simp [intOf]; omega
        | false =>
          have HQ2 := Lib.hid (put_skip HQ.out hx hls)
          rw [hls] at HL
          clear hx hls
          go_wp2_with fail
          go_quiet ((go_at_call 227; with_reducible exact Calls.quiet_of_same (HL.out _)))
          go_wp2_with (at_builtin; refine wpList_append_recs mkS (by decide) rfl _ _ 27 rfl (w.heap.size + 1) 164 i0 _ 24 Tryz.underlying27 hi hz0 hz1 hz2 rfl _ _ _ rfl ((HP1.out.drewN nq).own.alloc _) (some ⟨(wr.drewN nq).heap.size, 0, none⟩) 1 1 [y] rfl rfl (part_one (wr.drewN nq) y rfl) ?e3 ?e4 ?e5 ?_)
          case e3 => (show out.length + 1 ≤ maxLen); unfold maxLen; omega
          case e4 => (show (out.length + 1) * 24 ≤ 140737488355328); omega
          case e5 => first | omega | (simp; omega)
          intro v8 w8 hown hgrow
          have HP8 := Lib.hid ((HP1.out.drewN nq).more hown rfl hgrow)
          clear hown hgrow
          go_wp2
          go_roundw
          case rel => first | exact ⟨k + 1, false, _, by omega, by go_num, rfl, HQ2.out, HP8.out⟩ | ((repeat apply Exists.intro); refine And.intro ?_ rfl; exact ⟨k + 1, false, _, by omega, by go_num, rfl, HQ2.out, HP8.out⟩)
          case measure => simp [intOf]; omega
    · obtain ⟨n0, n1, n2⟩ := mk_cells HP1.out.box
      cases bb with
      | true =>
        have HR := Lib.hid (put_end HQ.out (by omega))
        go_wp2
        go_ret
        exact ⟨_, rfl, by rw [HE.out, ← HR.out]; exact HP1.out.done⟩
      | false =>
        have HR := Lib.hid (put_last HQ.out (by omega))
        go_wp2_with (at_builtin; refine wpList_append_recs mkS (by decide) rfl _ _ 27 rfl (w.heap.size + 1) 164 i0 _ 24 Tryz.underlying27 hi hz0 hz1 hz2 rfl _ _ _ rfl (HP1.out.own.alloc _) (some ⟨wr.heap.size, 0, none⟩) 1 1 [x] rfl rfl (part_one wr x rfl) ?e3 ?e4 ?e5 ?_)
        case e3 => (show out.length + 1 ≤ maxLen); unfold maxLen; omega
        case e4 => (show (out.length + 1) * 24 ≤ 140737488355328); omega
        case e5 => first | omega | (simp; omega)
        intro v8 w8 hown hgrow
        have HP8 := Lib.hid (HP1.out.more hown rfl hgrow)
        clear hown hgrow
        go_wp2
        go_ret
        exact ⟨_, rfl, by rw [HE.out, ← HR.out]; exact HP8.out.done⟩
end Go.Proofs.YtjmmojjjopjdpaaGreatDoor.kp

/-
  Contract of spec.l12Fresh: whether a message is neither over, nor held, nor remembered, nor in the inbox.
-/
namespace Go.Proofs.YtjmmojjjopjdpaaGreatDoor.kp
open Go.ChangeShapes Go.WideShapes Go.ChangeAt Go.RowKit
open Go.Proofs.YtjmmojjjopjdpaaGreatDoor.wd Go.Proofs.YtjmmojjjopjdpaaGreatDoor.ow Go.Proofs.YtjmmojjjopjdpaaGreatDoor.rl Go.Proofs.YtjmmojjjopjdpaaGreatDoor.ok Go.Proofs.YtjmmojjjopjdpaaGreatDoor.nb

def fresh (k : Kp) (x : Nt) : Bool := okNt x && decide (k.time < x.u) && !hasN k.held x.f x.n && !hasM k.marks x.f x.n && !hasN k.inbox x.f x.n
theorem fresh_f {k : Kp} {x : Nt} (h : okNt x = false ∨ ¬ k.time < x.u ∨ hasN k.held x.f x.n = true ∨ hasM k.marks x.f x.n = true ∨ hasN k.inbox x.f x.n = true) : fresh k x = false := by
  unfold fresh
  rcases h with h | h | h | h | h
  · simp [h]
  · rw [decide_eq_false h]; simp
  · simp [h]
  · simp [h]
  · simp [h]
theorem fresh_t {k : Kp} {x : Nt} (h1 : okNt x = true) (h2 : k.time < x.u) (h3 : hasN k.held x.f x.n = false) (h4 : hasM k.marks x.f x.n = false) (h5 : hasN k.inbox x.f x.n = false) : fresh k x = true := by
  unfold fresh
  rw [h1, decide_eq_true h2, h3, h4, h5]
  rfl

/-- the boxes of a keep and a message -/
structure FB (w V : World) (k : Kp) (a b c : Value) (x : Nt) : Prop where
  box : Blk V w.heap.size 29 #[.int .i64 k.id, .int .i64 k.time, .int .i64 k.next, a, b, c]
  nt : Blk V (w.heap.size + 1) 131 #[.int .i64 x.f, .int .i64 x.n, .int .i64 x.t, .int .i64 x.u, .string x.s]
  bel : Below w.heap.size w V
section
variable {w V V' : World} {k : Kp} {a b c : Value} {x : Nt}
theorem FB.new (w : World) (k : Kp) (a b c : Value) (x : Nt) : FB w ((w.alloc (.cells #[.int .i64 k.id, .int .i64 k.time, .int .i64 k.next, a, b, c] 29)).alloc (.cells #[.int .i64 x.f, .int .i64 x.n, .int .i64 x.t, .int .i64 x.u, .string x.s] 131)) k a b c x := by
  have k1 := Blk.new (w.alloc (.cells #[.int .i64 k.id, .int .i64 k.time, .int .i64 k.next, a, b, c] 29)) 131 #[.int .i64 x.f, .int .i64 x.n, .int .i64 x.t, .int .i64 x.u, .string x.s]
  simp only [World.size_alloc] at k1
  exact ⟨(Blk.new w _ _).alloc _, k1, ((Below.refl _ w).alloc (Nat.le_refl _) _).alloc (by simp) _⟩
theorem FB.later (h : FB w V k a b c x) (hb : Below V.heap.size V V') : FB w V' k a b c x := ⟨h.box.below hb h.box.lt, h.nt.below hb h.nt.lt, h.bel.trans (hb.mono h.bel.size)⟩
theorem FB.cells (h : FB w V k a b c x) : V.cell? ⟨w.heap.size, 1, none⟩ = some (.int .i64 k.time) ∧ V.cell? ⟨w.heap.size, 3, none⟩ = some a ∧ V.cell? ⟨w.heap.size, 4, none⟩ = some b ∧ V.cell? ⟨w.heap.size, 5, none⟩ = some c := ⟨h.box.cell 1, h.box.cell 3, h.box.cell 4, h.box.cell 5⟩
end

set_option maxRecDepth 100000 in
set_option maxHeartbeats 1600000 in
theorem fresh_any (w : World) (k : Kp) (a b c : Value) (x : Nt) (h : SeesK w k a b c) (hl : k.held.length ≤ 1048576 ∧ k.marks.length ≤ 1048576 ∧ k.inbox.length ≤ 1048576) (hx : x.s.size ≤ maxLen) :
    Calls Tryz.prog 228 #[kpV k.id k.time k.next a b c, ntV x] w (BoolK w (fresh k x)) := by
  obtain ⟨hl1, hl2, hl3⟩ := hl
  have hT := FB.new w k a b c x
  have H1 := Lib.hid (fun V => ok.sok_any x.f x.n x.t x.u x.s V hx)
  have H2 := Lib.hid (fun V (hV : Below w.heap.size w V) => ixN_any V a k.held x.f x.n (h.held.later hV) hl1)
  have H3 := Lib.hid (fun V (hV : Below w.heap.size w V) => ixM_any V b k.marks x.f x.n (h.marks.later hV) hl2)
  have H4 := Lib.hid (fun V (hV : Below w.heap.size w V) => ixN_any V c k.inbox x.f x.n (h.inbox.later hV) hl3)
  unfold ok.BoolPost note at H1
  unfold IsI at H2 H3 H4
  unfold ntV note
  clear h
  go_enter Tryz.func228, Tryz.ntmps228
  go_wp2_with fail
  generalize (w.alloc (.cells #[.int .i64 k.id, .int .i64 k.time, .int .i64 k.next, a, b, c] 29)).alloc (.cells #[.int .i64 x.f, .int .i64 x.n, .int .i64 x.t, .int .i64 x.u, .string x.s] 131) = V at hT ⊢
  refine (H1.out _).mono ?_
  rintro e w1 ⟨rfl, hB1⟩
  have hT1 := hT.later hB1
  obtain ⟨c1, c3, c4, c5⟩ := hT1.cells
  obtain ⟨n0, n1, n2, n3, n4⟩ := nt_cells hT1.nt
  have HT := Lib.hid hT1
  clear hT hT1 hB1 H1
  cases hb : okNt x with
  | false =>
    have HR := Lib.hid (fresh_f (k := k) (.inl hb))
    unfold okNt at hb
    rw [hb]
    go_wp2
    go_ret
    exact ⟨nb.ret_bool HR.out.symm, HT.out.bel⟩
  | true =>
  have HB := Lib.hid hb
  unfold okNt at hb
  rw [hb]
  clear hb
  by_cases hu : k.time < x.u
  · go_wp2_with fail
    with_reducible refine (H2.out _ HT.out.bel).mono ?_
    rintro e w2 ⟨rfl, rfl⟩
    rcases ixN_cases k.held x.f x.n with ⟨hm, hi⟩ | ⟨hm, i, y, hi, _, _, _⟩
    · rw [hi]
      clear hi
      go_wp2_with fail
      with_reducible refine (H3.out _ HT.out.bel).mono ?_
      rintro e w2 ⟨rfl, rfl⟩
      rcases ixM_cases k.marks x.f x.n with ⟨hm2, hi⟩ | ⟨hm2, i, y, hi, _, _, _⟩
      · rw [hi]
        clear hi
        go_wp2_with fail
        with_reducible refine (H4.out _ HT.out.bel).mono ?_
        rintro e w2 ⟨rfl, rfl⟩
        rcases ixN_cases k.inbox x.f x.n with ⟨hm3, hi⟩ | ⟨hm3, i, y, hi, _, _, _⟩
        · have HR := Lib.hid (fresh_t HB.out hu hm hm2 hm3)
          rw [hi]
          clear hi
          go_wp2
          go_ret
          exact ⟨nb.ret_bool HR.out.symm, HT.out.bel⟩
        · have HR := Lib.hid (fresh_f (k := k) (x := x) (.inr (.inr (.inr (.inr hm3)))))
          rw [hi]
          have i9 : ¬ ((i : Nat) : Int) < 0 := by omega
          clear hi
          go_wp2
          go_ret
          exact ⟨nb.ret_bool HR.out.symm, HT.out.bel⟩
      · have HR := Lib.hid (fresh_f (k := k) (x := x) (.inr (.inr (.inr (.inl hm2)))))
        rw [hi]
        have i9 : ¬ ((i : Nat) : Int) < 0 := by omega
        clear hi
        go_wp2
        go_ret
        exact ⟨nb.ret_bool HR.out.symm, HT.out.bel⟩
    · have HR := Lib.hid (fresh_f (k := k) (x := x) (.inr (.inr (.inl hm))))
      rw [hi]
      have i9 : ¬ ((i : Nat) : Int) < 0 := by omega
      clear hi
      go_wp2
      go_ret
      exact ⟨nb.ret_bool HR.out.symm, HT.out.bel⟩
  · have HR := Lib.hid (fresh_f (k := k) (x := x) (.inr (.inl hu)))
    go_wp2
    go_ret
    exact ⟨nb.ret_bool HR.out.symm, HT.out.bel⟩
end Go.Proofs.YtjmmojjjopjdpaaGreatDoor.kp

