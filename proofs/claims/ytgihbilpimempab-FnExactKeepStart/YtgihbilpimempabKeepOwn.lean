/-
  Words: what a keeper has, of the call's own: its three lists lie apart. Contract of laws.toKeep.
-/
import Derived.Test.YtgihbilpimempabKeepEq
namespace Go.Proofs.Ytgihbilpimempab.kp
open Go.ChangeShapes Go.WideShapes Go.ChangeAt Go.RowKit
open Go.Proofs.Ytgihbilpimempab.wd Go.Proofs.Ytgihbilpimempab.ow Go.Proofs.Ytgihbilpimempab.rl Go.Proofs.Ytgihbilpimempab.ok

def Apart (u v : Value) : Prop := ∀ g, u.ownBlock = some g → v.ownBlock = some g → False
theorem Apart.symm {u v : Value} (h : Apart u v) : Apart v u := fun g a b => h g b a
structure OwnK (w0 w : World) (k : Kp) (vh vm vi : Value) : Prop where
  held : OwnR ntS 56 w0 w vh k.held
  marks : OwnR mkS 60 w0 w vm k.marks
  inbox : OwnR ntS 56 w0 w vi k.inbox
  hm : Apart vh vm
  hi : Apart vh vi
  mi : Apart vm vi
section
variable {w0 w w1 : World} {k : Kp} {vh vm vi : Value}
theorem OwnK.later (h : OwnK w0 w k vh vm vi) (hb : Below w.heap.size w w1) : OwnK w0 w1 k vh vm vi := ⟨h.held.later hb, h.marks.later hb, h.inbox.later hb, h.hm, h.hi, h.mi⟩
theorem OwnK.from_ (h : OwnK w w1 k vh vm vi) (hb : Below w0.heap.size w0 w) : OwnK w0 w1 k vh vm vi := ⟨h.held.from_ hb, h.marks.from_ hb, h.inbox.from_ hb, h.hm, h.hi, h.mi⟩
theorem OwnK.sees (h : OwnK w0 w k vh vm vi) : SeesK w k vh vm vi := ⟨h.held.sees, h.marks.sees, h.inbox.sees⟩
theorem OwnK.bel (h : OwnK w0 w k vh vm vi) : Below w0.heap.size w0 w := h.held.2
end
/-- a list that was made later lies apart -/
theorem apart_of {α β : Type} {S : Shape α} {S' : Shape β} {t t' : TypeId} {w0 w w' w2 : World} {u v : Value} {l : List α} {l' : List β} (h : OwnR S t w0 w u l) (h' : OwnR S' t' w' w2 v l') (hw : w.heap.size ≤ w'.heap.size) : Apart u v := fun g a b => by
  have h1 := (h.lt a).2
  have h2 := (h'.lt b).1
  omega
theorem OwnR.form {α : Type} {S : Shape α} {t : TypeId} {w0 w : World} {v : Value} {l : List α} (h : OwnR S t w0 w v l) : ∃ A c, v = .slice A l.length c := by
  obtain ⟨A, c, e, _⟩ := h.sees
  exact ⟨A, c, e⟩
def KeepPost (w : World) (k : Kp) (e : Ending) (w' : World) : Prop := ∃ vh vm vi, e = .returned (kpV k.id k.time k.next vh vm vi) ∧ OwnK w w' k vh vm vi

/-- a list of the call's own, in whatever block that is not one of those that are written -/
def OwnAt {α : Type} (S : Shape α) (t : TypeId) (B : Nat) (W : World) (v : Value) (l : List α) : Prop := W.ownsRow B t S.n v l.length (l.flatMap S.f)
theorem OwnAt.set {α : Type} {S : Shape α} {t : TypeId} {B : Nat} {W : World} {v : Value} {l : List α} (h : OwnAt S t B W v l) {p : Addr} (hp : p.block < B) (x : Value) : OwnAt S t B (W.setCell p x) v l := by
  refine h.kept (row := some p.block) ⟨rfl, rfl, rfl, by simp, fun k _ hne => Below.heap_setCell W p x k (fun e => hne (by rw [e]))⟩ ?_
  cases hv : v.ownBlock with
  | none => exact .inl rfl
  | some k => exact .inr (fun e => by have := (h.lt k hv).1; injection e; omega)
theorem OwnAt.later {α : Type} {S : Shape α} {t : TypeId} {B : Nat} {W W' : World} {v : Value} {l : List α} (h : OwnAt S t B W v l) (hb : Below W.heap.size W W') : OwnAt S t B W' v l := by
  refine World.ownsRow.kept h (row := none) ⟨hb.os, hb.tape, hb.output, hb.size, fun i hi _ => hb.block i hi⟩ ?_
  cases hv : v.ownBlock with
  | none => exact .inl rfl
  | some k => exact .inr (by simp)
theorem OwnAt.down {α : Type} {S : Shape α} {t : TypeId} {B B' : Nat} {W : World} {v : Value} {l : List α} (h : OwnAt S t B W v l) (hB : B' ≤ B) : OwnAt S t B' W v l := by
  refine ⟨h.1, ?_⟩
  rcases h.2 with h' | ⟨g, cap, cur, h1, h2, h3⟩
  · exact .inl h'
  · exact .inr ⟨g, cap, cur, h1, by omega, h3⟩

/-- the blocks of toKeep: the argument's box, the result's block, the local's -/
structure ToB (w V : World) (k : Kp) (ih im ii vh vm vi : Value) : Prop where
  arg : Blk V w.heap.size 33 #[.int .i64 k.id, .int .i64 k.time, .int .i64 k.next, ih, im, ii]
  res : Blk V (w.heap.size + 1) 25 #[.int .i64 0, .int .i64 0, .int .i64 0, .slice none 0 0, .slice none 0 0, .slice none 0 0]
  out : Blk V (w.heap.size + 1 + 1) 25 #[.int .i64 k.id, .int .i64 k.time, .int .i64 k.next, vh, vm, vi]
  bel : Below w.heap.size w V
section
variable {w V V' : World} {k : Kp} {ih im ii vh vm vi : Value}
theorem ToB.new (w : World) (k : Kp) (ih im ii : Value) : ToB w (((w.alloc (.cells #[.int .i64 k.id, .int .i64 k.time, .int .i64 k.next, ih, im, ii] 33)).alloc (.cells #[.int .i64 0, .int .i64 0, .int .i64 0, .slice none 0 0, .slice none 0 0, .slice none 0 0] 25)).alloc (.cells #[.int .i64 k.id, .int .i64 k.time, .int .i64 k.next, .slice none 0 0, .slice none 0 0, .slice none 0 0] 25)) k ih im ii (.slice none 0 0) (.slice none 0 0) (.slice none 0 0) := by
  have k1 := Blk.new (w.alloc (.cells #[.int .i64 k.id, .int .i64 k.time, .int .i64 k.next, ih, im, ii] 33)) 25 #[.int .i64 0, .int .i64 0, .int .i64 0, .slice none 0 0, .slice none 0 0, .slice none 0 0]
  have k2 := Blk.new ((w.alloc (.cells #[.int .i64 k.id, .int .i64 k.time, .int .i64 k.next, ih, im, ii] 33)).alloc (.cells #[.int .i64 0, .int .i64 0, .int .i64 0, .slice none 0 0, .slice none 0 0, .slice none 0 0] 25)) 25 #[.int .i64 k.id, .int .i64 k.time, .int .i64 k.next, .slice none 0 0, .slice none 0 0, .slice none 0 0]
  simp only [World.size_alloc] at k1 k2
  exact ⟨((Blk.new w _ _).alloc _).alloc _, k1.alloc _, k2, (((Below.refl _ w).alloc (Nat.le_refl _) _).alloc (by simp) _).alloc (by simp; omega) _⟩
theorem ToB.later (h : ToB w V k ih im ii vh vm vi) (hb : Below V.heap.size V V') : ToB w V' k ih im ii vh vm vi := ⟨h.arg.below hb h.arg.lt, h.res.below hb h.res.lt, h.out.below hb h.out.lt, h.bel.trans (hb.mono h.bel.size)⟩
theorem ToB.put3 (h : ToB w V k ih im ii vh vm vi) (x : Value) : ToB w (V.setCell ⟨w.heap.size + 1 + 1, 3, none⟩ x) k ih im ii x vm vi :=
  ⟨h.arg.far (p := ⟨w.heap.size + 1 + 1, 3, none⟩) (by show w.heap.size ≠ w.heap.size + 1 + 1; omega) _, h.res.far (p := ⟨w.heap.size + 1 + 1, 3, none⟩) (by show w.heap.size + 1 ≠ w.heap.size + 1 + 1; omega) _, h.out.put 3 x, h.bel.setCell (p := ⟨w.heap.size + 1 + 1, 3, none⟩) (by show w.heap.size ≤ w.heap.size + 1 + 1; omega) _⟩
theorem ToB.put4 (h : ToB w V k ih im ii vh vm vi) (x : Value) : ToB w (V.setCell ⟨w.heap.size + 1 + 1, 4, none⟩ x) k ih im ii vh x vi :=
  ⟨h.arg.far (p := ⟨w.heap.size + 1 + 1, 4, none⟩) (by show w.heap.size ≠ w.heap.size + 1 + 1; omega) _, h.res.far (p := ⟨w.heap.size + 1 + 1, 4, none⟩) (by show w.heap.size + 1 ≠ w.heap.size + 1 + 1; omega) _, h.out.put 4 x, h.bel.setCell (p := ⟨w.heap.size + 1 + 1, 4, none⟩) (by show w.heap.size ≤ w.heap.size + 1 + 1; omega) _⟩
theorem ToB.put5 (h : ToB w V k ih im ii vh vm vi) (x : Value) : ToB w (V.setCell ⟨w.heap.size + 1 + 1, 5, none⟩ x) k ih im ii vh vm x :=
  ⟨h.arg.far (p := ⟨w.heap.size + 1 + 1, 5, none⟩) (by show w.heap.size ≠ w.heap.size + 1 + 1; omega) _, h.res.far (p := ⟨w.heap.size + 1 + 1, 5, none⟩) (by show w.heap.size + 1 ≠ w.heap.size + 1 + 1; omega) _, h.out.put 5 x, h.bel.setCell (p := ⟨w.heap.size + 1 + 1, 5, none⟩) (by show w.heap.size ≤ w.heap.size + 1 + 1; omega) _⟩
theorem ToB.acells (h : ToB w V k ih im ii vh vm vi) : V.cell? ⟨w.heap.size, 3, none⟩ = some ih ∧ V.cell? ⟨w.heap.size, 4, none⟩ = some im ∧ V.cell? ⟨w.heap.size, 5, none⟩ = some ii := ⟨h.arg.cell 3, h.arg.cell 4, h.arg.cell 5⟩
theorem ToB.ocells (h : ToB w V k ih im ii vh vm vi) : V.cell? ⟨w.heap.size + 1 + 1, 0, none⟩ = some (.int .i64 k.id) ∧ V.cell? ⟨w.heap.size + 1 + 1, 1, none⟩ = some (.int .i64 k.time) ∧ V.cell? ⟨w.heap.size + 1 + 1, 2, none⟩ = some (.int .i64 k.next) ∧ V.cell? ⟨w.heap.size + 1 + 1, 3, none⟩ = some vh ∧ V.cell? ⟨w.heap.size + 1 + 1, 4, none⟩ = some vm ∧ V.cell? ⟨w.heap.size + 1 + 1, 5, none⟩ = some vi ∧
    V.frozen? ⟨w.heap.size + 1 + 1, 3, none⟩ = false ∧ V.frozen? ⟨w.heap.size + 1 + 1, 4, none⟩ = false ∧ V.frozen? ⟨w.heap.size + 1 + 1, 5, none⟩ = false := ⟨h.out.cell 0, h.out.cell 1, h.out.cell 2, h.out.cell 3, h.out.cell 4, h.out.cell 5, h.out.frozen 3, h.out.frozen 4, h.out.frozen 5⟩
end
/-- a result's block of a keep, before it is written -/
theorem res_cells {V : World} {R : Nat} {a b c d e f : Value} (h : Blk V R 25 #[a, b, c, d, e, f]) : V.cell? ⟨R, 0, none⟩ = some a ∧ V.cell? ⟨R, 1, none⟩ = some b ∧ V.cell? ⟨R, 2, none⟩ = some c ∧ V.cell? ⟨R, 3, none⟩ = some d ∧ V.cell? ⟨R, 4, none⟩ = some e ∧ V.cell? ⟨R, 5, none⟩ = some f ∧
    V.frozen? ⟨R, 0, none⟩ = false ∧ V.frozen? ⟨R, 1, none⟩ = false ∧ V.frozen? ⟨R, 2, none⟩ = false ∧ V.frozen? ⟨R, 3, none⟩ = false ∧ V.frozen? ⟨R, 4, none⟩ = false ∧ V.frozen? ⟨R, 5, none⟩ = false :=
  ⟨h.cell 0, h.cell 1, h.cell 2, h.cell 3, h.cell 4, h.cell 5, h.frozen 0, h.frozen 1, h.frozen 2, h.frozen 3, h.frozen 4, h.frozen 5⟩
/-- a keep stored into a block -/
abbrev put6 (V : World) (R : Nat) (a b c d e f : Value) : World := (((((V.setCell ⟨R, 0, none⟩ a).setCell ⟨R, 1, none⟩ b).setCell ⟨R, 2, none⟩ c).setCell ⟨R, 3, none⟩ d).setCell ⟨R, 4, none⟩ e).setCell ⟨R, 5, none⟩ f
theorem put6_blk {V : World} {R : Nat} {a b c d e f a' b' c' d' e' f' : Value} (h : Blk V R 25 #[a, b, c, d, e, f]) : Blk (put6 V R a' b' c' d' e' f') R 25 #[a', b', c', d', e', f'] :=
  (((((h.put 0 a').put 1 b').put 2 c').put 3 d').put 4 e').put 5 f'
theorem put6_below {w V : World} {B R : Nat} (hR : B ≤ R) (h : Below B w V) (a b c d e f : Value) : Below B w (put6 V R a b c d e f) :=
  (((((h.setCell (p := ⟨R, 0, none⟩) hR a).setCell (p := ⟨R, 1, none⟩) hR b).setCell (p := ⟨R, 2, none⟩) hR c).setCell (p := ⟨R, 3, none⟩) hR d).setCell (p := ⟨R, 4, none⟩) hR e).setCell (p := ⟨R, 5, none⟩) hR f
theorem OwnAt.put6 {α : Type} {S : Shape α} {t : TypeId} {B : Nat} {W : World} {v : Value} {l : List α} (h : OwnAt S t B W v l) {R : Nat} (hR : R < B) (a b c d e f : Value) : OwnAt S t B (put6 W R a b c d e f) v l :=
  (((((h.set (p := ⟨R, 0, none⟩) hR a).set (p := ⟨R, 1, none⟩) hR b).set (p := ⟨R, 2, none⟩) hR c).set (p := ⟨R, 3, none⟩) hR d).set (p := ⟨R, 4, none⟩) hR e).set (p := ⟨R, 5, none⟩) hR f

set_option maxRecDepth 100000 in
set_option maxHeartbeats 1600000 in
theorem toK_any (w : World) (k : Kp) (a b c : Value) (h : InK w k a b c) (hl : Few k) :
    Calls Try.prog 13 #[kpV k.id k.time k.next a b c] w (KeepPost w k) := by
  obtain ⟨hl1, hl2, hl3⟩ := hl
  have hT := ToB.new w k a b c
  have HI := Lib.hid h
  have HL1 := Lib.hid hl1
  have HL2 := Lib.hid hl2
  have HL3 := Lib.hid hl3
  have hz : w.heap.size + 3 ≤ (((w.alloc (.cells #[.int .i64 k.id, .int .i64 k.time, .int .i64 k.next, a, b, c] 33)).alloc (.cells #[.int .i64 0, .int .i64 0, .int .i64 0, .slice none 0 0, .slice none 0 0, .slice none 0 0] 25)).alloc (.cells #[.int .i64 k.id, .int .i64 k.time, .int .i64 k.next, .slice none 0 0, .slice none 0 0, .slice none 0 0] 25)).heap.size := by simp
  clear hl1 hl2 hl3 h
  go_enter Try.func13, Try.ntmps13
  go_wp2_with fail
  generalize ((w.alloc (.cells #[.int .i64 k.id, .int .i64 k.time, .int .i64 k.next, a, b, c] 33)).alloc (.cells #[.int .i64 0, .int .i64 0, .int .i64 0, .slice none 0 0, .slice none 0 0, .slice none 0 0] 25)).alloc (.cells #[.int .i64 k.id, .int .i64 k.time, .int .i64 k.next, .slice none 0 0, .slice none 0 0, .slice none 0 0] 25) = V at hT hz ⊢
  refine (toN_any _ _ _ (HI.out.later hT.bel).held HL1.out).mono ?_
  rintro e w1 ⟨vh, rfl, hO1⟩
  obtain ⟨Ah, ch, hvh⟩ := OwnR.form hO1
  obtain ⟨nh, hnh⟩ : ∃ n, n = k.held.length := ⟨_, rfl⟩
  rw [← hnh] at hvh
  subst hvh
  clear hnh
  have hT1 := hT.later hO1.2
  have n1 := hO1.2.size
  have A1 : OwnAt ntS 56 (w.heap.size + 3) w1 (.slice Ah nh ch) k.held := OwnAt.down (B := V.heap.size) hO1.1 hz
  have L1 : ∀ g, (Value.slice Ah nh ch).ownBlock = some g → g < w1.heap.size := fun g hg => (hO1.lt hg).2
  have hT2 := hT1.put3 (.slice Ah nh ch)
  have A2 := A1.set (p := ⟨w.heap.size + 1 + 1, 3, none⟩) (by show w.heap.size + 1 + 1 < w.heap.size + 3; omega) (.slice Ah nh ch)
  obtain ⟨_, _, _, o3, _, _, f3, _, _⟩ := hT1.ocells
  obtain ⟨_, a1, _⟩ := hT1.acells
  have z1 : (w1.setCell ⟨w.heap.size + 1 + 1, 3, none⟩ (.slice Ah nh ch)).heap.size = w1.heap.size := by simp
  have HT := Lib.hid hT2
  have HA := Lib.hid A2
  have HZ := Lib.hid z1
  have HL := Lib.hid L1
  clear hT hT1 hT2 A1 A2 hO1 z1 L1
  go_wp2_with fail
  generalize w1.setCell ⟨w.heap.size + 1 + 1, 3, none⟩ (.slice Ah nh ch) = V1 at HT HA HZ ⊢
  refine (toM_any _ _ _ (HI.out.later HT.out.bel).marks HL2.out).mono ?_
  rintro e w2 ⟨vm, rfl, hO2⟩
  obtain ⟨Am, cm, hvm⟩ := OwnR.form hO2
  obtain ⟨nm, hnm⟩ : ∃ n, n = k.marks.length := ⟨_, rfl⟩
  rw [← hnm] at hvm
  subst hvm
  clear hnm
  have hT3 := HT.out.later hO2.2
  have A3 := HA.out.later hO2.2
  have n2 := hO2.2.size
  rw [HZ.out] at n2
  have B1 : OwnAt mkS 60 (w.heap.size + 3) w2 (.slice Am nm cm) k.marks := OwnAt.down (B := V1.heap.size) hO2.1 (by rw [HZ.out]; omega)
  have P1 : Apart (.slice Ah nh ch) (.slice Am nm cm) := fun g p q => by
    have h1 := HL.out g p
    have h2 := (hO2.lt q).1
    rw [HZ.out] at h2
    omega
  have L2 : ∀ g, (Value.slice Ah nh ch).ownBlock = some g ∨ (Value.slice Am nm cm).ownBlock = some g → g < w2.heap.size := fun g hg => by
    rcases hg with hg | hg
    · have := HL.out g hg; omega
    · exact (hO2.lt hg).2
  have hT4 := hT3.put4 (.slice Am nm cm)
  have A4 := A3.set (p := ⟨w.heap.size + 1 + 1, 4, none⟩) (by show w.heap.size + 1 + 1 < w.heap.size + 3; omega) (.slice Am nm cm)
  have B2 := B1.set (p := ⟨w.heap.size + 1 + 1, 4, none⟩) (by show w.heap.size + 1 + 1 < w.heap.size + 3; omega) (.slice Am nm cm)
  clear o3 f3 a1
  obtain ⟨_, _, _, _, o4, _, _, f4, _⟩ := hT3.ocells
  obtain ⟨_, _, a2⟩ := hT3.acells
  have z2 : (w2.setCell ⟨w.heap.size + 1 + 1, 4, none⟩ (.slice Am nm cm)).heap.size = w2.heap.size := by simp
  clear HT HA HZ HL hT3 A3 B1 hO2
  have HT := Lib.hid hT4
  have HA := Lib.hid A4
  have HB := Lib.hid B2
  have HZ := Lib.hid z2
  have HL := Lib.hid L2
  have HP := Lib.hid P1
  clear hT4 A4 B2 z2 L2 P1
  go_wp2_with fail
  generalize w2.setCell ⟨w.heap.size + 1 + 1, 4, none⟩ (.slice Am nm cm) = V2 at HT HA HB HZ ⊢
  refine (toN_any _ _ _ (HI.out.later HT.out.bel).inbox HL3.out).mono ?_
  rintro e w3 ⟨vi, rfl, hO3⟩
  obtain ⟨Ai, ci, hvi⟩ := OwnR.form hO3
  obtain ⟨ni, hni⟩ : ∃ n, n = k.inbox.length := ⟨_, rfl⟩
  rw [← hni] at hvi
  subst hvi
  clear hni
  have hT5 := HT.out.later hO3.2
  have A5 := HA.out.later hO3.2
  have B3 := HB.out.later hO3.2
  have C1 : OwnAt ntS 56 (w.heap.size + 3) w3 (.slice Ai ni ci) k.inbox := OwnAt.down (B := V2.heap.size) hO3.1 (by rw [HZ.out]; omega)
  have P2 : Apart (.slice Ah nh ch) (.slice Ai ni ci) := fun g p q => by
    have h1 := HL.out g (.inl p)
    have h2 := (hO3.lt q).1
    rw [HZ.out] at h2
    omega
  have P3 : Apart (.slice Am nm cm) (.slice Ai ni ci) := fun g p q => by
    have h1 := HL.out g (.inr p)
    have h2 := (hO3.lt q).1
    rw [HZ.out] at h2
    omega
  have hT6 := hT5.put5 (.slice Ai ni ci)
  have A6 := A5.set (p := ⟨w.heap.size + 1 + 1, 5, none⟩) (by show w.heap.size + 1 + 1 < w.heap.size + 3; omega) (.slice Ai ni ci)
  have B4 := B3.set (p := ⟨w.heap.size + 1 + 1, 5, none⟩) (by show w.heap.size + 1 + 1 < w.heap.size + 3; omega) (.slice Ai ni ci)
  have C2 := C1.set (p := ⟨w.heap.size + 1 + 1, 5, none⟩) (by show w.heap.size + 1 + 1 < w.heap.size + 3; omega) (.slice Ai ni ci)
  clear o4 f4 a2
  obtain ⟨_, _, _, _, _, o5, _, _, f5⟩ := hT5.ocells
  obtain ⟨p0, p1, p2, p3, p4, p5, _, _, _⟩ := hT6.ocells
  obtain ⟨r0, r1, r2, r3, r4, r5, g0, g1, g2, g3, g4, g5⟩ := res_cells hT6.res
  have HC := Lib.hid (put6_blk (a' := .int .i64 k.id) (b' := .int .i64 k.time) (c' := .int .i64 k.next) (d' := (.slice Ah nh ch)) (e' := (.slice Am nm cm)) (f' := (.slice Ai ni ci)) hT6.res)
  have HE := Lib.hid (put6_below (B := w.heap.size) (R := w.heap.size + 1) (Nat.le_succ _) hT6.bel (.int .i64 k.id) (.int .i64 k.time) (.int .i64 k.next) (.slice Ah nh ch) (.slice Am nm cm) (.slice Ai ni ci))
  have HA2 := Lib.hid (A6.put6 (R := w.heap.size + 1) (by omega) (.int .i64 k.id) (.int .i64 k.time) (.int .i64 k.next) (.slice Ah nh ch) (.slice Am nm cm) (.slice Ai ni ci))
  have HB2 := Lib.hid (B4.put6 (R := w.heap.size + 1) (by omega) (.int .i64 k.id) (.int .i64 k.time) (.int .i64 k.next) (.slice Ah nh ch) (.slice Am nm cm) (.slice Ai ni ci))
  have HC2 := Lib.hid (C2.put6 (R := w.heap.size + 1) (by omega) (.int .i64 k.id) (.int .i64 k.time) (.int .i64 k.next) (.slice Ah nh ch) (.slice Am nm cm) (.slice Ai ni ci))
  have HQ := Lib.hid (show Apart (.slice Ah nh ch) (.slice Ai ni ci) ∧ Apart (.slice Am nm cm) (.slice Ai ni ci) from ⟨P2, P3⟩)
  clear hT5 hT6 A5 A6 B3 B4 C1 C2 P2 P3 hO3 HT HA HB HZ HL
  go_wp2
  have x0 := HC.out.cell 0
  have x1 := HC.out.cell 1
  have x2 := HC.out.cell 2
  have x3 := HC.out.cell 3
  have x4 := HC.out.cell 4
  have x5 := HC.out.cell 5
  refine bodyPost_ret (v := kpV k.id k.time k.next (.slice Ah nh ch) (.slice Am nm cm) (.slice Ai ni ci)) (by simp [results, Try.results13, go_sem, x0, x1, x2, x3, x4, x5]) rfl ⟨(.slice Ah nh ch), (.slice Am nm cm), (.slice Ai ni ci), rfl, ⟨OwnAt.down HA2.out (by omega), HE.out⟩, ⟨OwnAt.down HB2.out (by omega), HE.out⟩, ⟨OwnAt.down HC2.out (by omega), HE.out⟩, HP.out, HQ.out.1, HQ.out.2⟩

theorem OwnAt.same {α : Type} {S : Shape α} {t : TypeId} {B : Nat} {W W' : World} {v : Value} {l : List α} (h : OwnAt S t B W v l) (hs : ∀ g, v.ownBlock = some g → W'.heap[g]? = W.heap[g]?) : OwnAt S t B W' v l := by
  refine ⟨h.1, ?_⟩
  rcases h.2 with h' | ⟨g, cap, cur, rfl, h2, h3, h4⟩
  · exact .inl h'
  · exact .inr ⟨g, cap, cur, rfl, h2, (hs g rfl).trans h3, h4⟩
theorem OwnAt.lt {α : Type} {S : Shape α} {t : TypeId} {B : Nat} {W : World} {v : Value} {l : List α} (h : OwnAt S t B W v l) {g : Nat} (hg : v.ownBlock = some g) : B ≤ g ∧ g < W.heap.size := World.ownsRow.lt h g hg
theorem OwnAt.sees {α : Type} {S : Shape α} {t : TypeId} {B : Nat} {W : World} {v : Value} {l : List α} (h : OwnAt S t B W v l) : SeesR S W v l := by
  rcases h.2 with ⟨rfl, hn⟩ | ⟨g, cap, cur, rfl, hb, hh, hn, hm, hs, ht⟩
  · exact ⟨none, 0, by rw [hn], .inl ⟨rfl, rfl, List.eq_nil_of_length_eq_zero hn⟩⟩
  · refine ⟨_, cap, rfl, .inr ⟨g, rfl, (h.lt rfl).2, fun i x hx j u hu => ?_⟩⟩
    have hj : j < S.n := by have := (List.getElem?_eq_some_iff.1 hu).1; rwa [S.len] at this
    have hf := flat_at S.len l i x hx j hj
    rw [hu] at hf
    have hi := (List.getElem?_eq_some_iff.1 hf).1
    rw [World.ownsRow.cellAt (g := g) (cap := cap) h _ (by rwa [flat_len S.len] at hi), hf]
end Go.Proofs.Ytgihbilpimempab.kp
