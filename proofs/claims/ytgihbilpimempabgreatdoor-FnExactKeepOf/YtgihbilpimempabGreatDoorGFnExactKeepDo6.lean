/-
  Merged texts: KeepOwn, StrLists.
-/
import Derived.Test.YtgihbilpimempabGreatDoorGFnExactKeepDo5
import Derived.Test.YtgihbilpimempabGreatDoorGFnExactKeepDo3
import Derived.Deep.QuietTactic
import Derived.BigQuiet
import Derived.Deep.RegionHeld3
/-
  Words: what a keeper has, of the call's own: its three lists lie apart. Contract of laws.toKeep.
-/
namespace Go.Proofs.YtgihbilpimempabGreatDoor.kp
open Go.ChangeShapes Go.WideShapes Go.ChangeAt Go.RowKit
open Go.Proofs.YtgihbilpimempabGreatDoor.wd Go.Proofs.YtgihbilpimempabGreatDoor.ow Go.Proofs.YtgihbilpimempabGreatDoor.rl Go.Proofs.YtgihbilpimempabGreatDoor.ok

def Apart (u v : Value) : Prop := ∀ g, u.ownBlock = some g → v.ownBlock = some g → False
theorem Apart.symm {u v : Value} (h : Apart u v) : Apart v u := fun g a b => h g b a
structure OwnK (w0 w : World) (k : Kp) (vh vm vi : Value) : Prop where
  held : OwnR ntS 74 w0 w vh k.held
  marks : OwnR mkS 88 w0 w vm k.marks
  inbox : OwnR ntS 74 w0 w vi k.inbox
  hm : Apart vh vm
  hi : Apart vh vi
  mi : Apart vm vi
section
variable {w0 w w1 : World} {k : Kp} {vh vm vi : Value}
theorem OwnK.later (h : OwnK w0 w k vh vm vi) (hb : Below w.heap.size w w1) : OwnK w0 w1 k vh vm vi := ⟨h.held.later hb, h.marks.later hb, h.inbox.later hb, h.hm, h.hi, h.mi⟩
theorem OwnK.from_ (h : OwnK w w1 k vh vm vi) (hb : Below w0.heap.size w0 w) : OwnK w0 w1 k vh vm vi := ⟨h.held.from_ hb, h.marks.from_ hb, h.inbox.from_ hb, h.hm, h.hi, h.mi⟩
theorem OwnK.sees (h : OwnK w0 w k vh vm vi) : SeesK w k vh vm vi := ⟨h.held.sees, h.marks.sees, h.inbox.sees⟩
theorem OwnK.bel (h : OwnK w0 w k vh vm vi) : Below w0.heap.size w0 w := h.held.2
end
/-- a list that was made later lies apart -/
theorem apart_of {α β : Type} {S : Shape α} {S' : Shape β} {t t' : TypeId} {w0 w w' w2 : World} {u v : Value} {l : List α} {l' : List β} (h : OwnR S t w0 w u l) (h' : OwnR S' t' w' w2 v l') (hw : w.heap.size ≤ w'.heap.size) : Apart u v := fun g a b => by
  have h1 := (h.lt a).2
  have h2 := (h'.lt b).1
  omega
theorem OwnR.form {α : Type} {S : Shape α} {t : TypeId} {w0 w : World} {v : Value} {l : List α} (h : OwnR S t w0 w v l) : ∃ A c, v = .slice A l.length c := by
  obtain ⟨A, c, e, _⟩ := h.sees
  exact ⟨A, c, e⟩
def KeepPost (w : World) (k : Kp) (e : Ending) (w' : World) : Prop := ∃ vh vm vi, e = .returned (kpV k.id k.time k.next vh vm vi) ∧ OwnK w w' k vh vm vi

/-- a list of the call's own, in whatever block that is not one of those that are written -/
def OwnAt {α : Type} (S : Shape α) (t : TypeId) (B : Nat) (W : World) (v : Value) (l : List α) : Prop := W.ownsRow B t S.n v l.length (l.flatMap S.f)
theorem OwnAt.set {α : Type} {S : Shape α} {t : TypeId} {B : Nat} {W : World} {v : Value} {l : List α} (h : OwnAt S t B W v l) {p : Addr} (hp : p.block < B) (x : Value) : OwnAt S t B (W.setCell p x) v l := by
  refine h.kept (row := some p.block) ⟨rfl, rfl, rfl, by simp, fun k _ hne => Below.heap_setCell W p x k (fun e => hne (by rw [e]))⟩ ?_
  cases hv : v.ownBlock with
  | none => exact .inl rfl
  | some k => exact .inr (fun e => by have := (h.lt k hv).1; injection e; omega)
theorem OwnAt.later {α : Type} {S : Shape α} {t : TypeId} {B : Nat} {W W' : World} {v : Value} {l : List α} (h : OwnAt S t B W v l) (hb : Below W.heap.size W W') : OwnAt S t B W' v l := by
  refine World.ownsRow.kept h (row := none) ⟨hb.os, hb.tape, hb.output, hb.size, fun i hi _ => hb.block i hi⟩ ?_
  cases hv : v.ownBlock with
  | none => exact .inl rfl
  | some k => exact .inr (by simp)
theorem OwnAt.down {α : Type} {S : Shape α} {t : TypeId} {B B' : Nat} {W : World} {v : Value} {l : List α} (h : OwnAt S t B W v l) (hB : B' ≤ B) : OwnAt S t B' W v l := by
  refine ⟨h.1, ?_⟩
  rcases h.2 with h' | ⟨g, cap, cur, h1, h2, h3⟩
  · exact .inl h'
  · exact .inr ⟨g, cap, cur, h1, by omega, h3⟩

/-- the blocks of toKeep: the argument's box, the result's block, the local's -/
structure ToB (w V : World) (k : Kp) (ih im ii vh vm vi : Value) : Prop where
  arg : Blk V w.heap.size 39 #[.int .i64 k.id, .int .i64 k.time, .int .i64 k.next, ih, im, ii]
  res : Blk V (w.heap.size + 1) 29 #[.int .i64 0, .int .i64 0, .int .i64 0, .slice none 0 0, .slice none 0 0, .slice none 0 0]
  out : Blk V (w.heap.size + 1 + 1) 29 #[.int .i64 k.id, .int .i64 k.time, .int .i64 k.next, vh, vm, vi]
  bel : Below w.heap.size w V
section
variable {w V V' : World} {k : Kp} {ih im ii vh vm vi : Value}
theorem ToB.new (w : World) (k : Kp) (ih im ii : Value) : ToB w (((w.alloc (.cells #[.int .i64 k.id, .int .i64 k.time, .int .i64 k.next, ih, im, ii] 39)).alloc (.cells #[.int .i64 0, .int .i64 0, .int .i64 0, .slice none 0 0, .slice none 0 0, .slice none 0 0] 29)).alloc (.cells #[.int .i64 k.id, .int .i64 k.time, .int .i64 k.next, .slice none 0 0, .slice none 0 0, .slice none 0 0] 29)) k ih im ii (.slice none 0 0) (.slice none 0 0) (.slice none 0 0) := by
  have k1 := Blk.new (w.alloc (.cells #[.int .i64 k.id, .int .i64 k.time, .int .i64 k.next, ih, im, ii] 39)) 29 #[.int .i64 0, .int .i64 0, .int .i64 0, .slice none 0 0, .slice none 0 0, .slice none 0 0]
  have k2 := Blk.new ((w.alloc (.cells #[.int .i64 k.id, .int .i64 k.time, .int .i64 k.next, ih, im, ii] 39)).alloc (.cells #[.int .i64 0, .int .i64 0, .int .i64 0, .slice none 0 0, .slice none 0 0, .slice none 0 0] 29)) 29 #[.int .i64 k.id, .int .i64 k.time, .int .i64 k.next, .slice none 0 0, .slice none 0 0, .slice none 0 0]
  simp only [World.size_alloc] at k1 k2
  exact ⟨((Blk.new w _ _).alloc _).alloc _, k1.alloc _, k2, (((Below.refl _ w).alloc (Nat.le_refl _) _).alloc (by simp) _).alloc (by simp; omega) _⟩
theorem ToB.later (h : ToB w V k ih im ii vh vm vi) (hb : Below V.heap.size V V') : ToB w V' k ih im ii vh vm vi := ⟨h.arg.below hb h.arg.lt, h.res.below hb h.res.lt, h.out.below hb h.out.lt, h.bel.trans (hb.mono h.bel.size)⟩
theorem ToB.put3 (h : ToB w V k ih im ii vh vm vi) (x : Value) : ToB w (V.setCell ⟨w.heap.size + 1 + 1, 3, none⟩ x) k ih im ii x vm vi :=
  ⟨h.arg.far (p := ⟨w.heap.size + 1 + 1, 3, none⟩) (by show w.heap.size ≠ w.heap.size + 1 + 1; omega) _, h.res.far (p := ⟨w.heap.size + 1 + 1, 3, none⟩) (by show w.heap.size + 1 ≠ w.heap.size + 1 + 1; omega) _, h.out.put 3 x, h.bel.setCell (p := ⟨w.heap.size + 1 + 1, 3, none⟩) (by show w.heap.size ≤ w.heap.size + 1 + 1; omega) _⟩
theorem ToB.put4 (h : ToB w V k ih im ii vh vm vi) (x : Value) : ToB w (V.setCell ⟨w.heap.size + 1 + 1, 4, none⟩ x) k ih im ii vh x vi :=
  ⟨h.arg.far (p := ⟨w.heap.size + 1 + 1, 4, none⟩) (by show w.heap.size ≠ w.heap.size + 1 + 1; omega) _, h.res.far (p := ⟨w.heap.size + 1 + 1, 4, none⟩) (by show w.heap.size + 1 ≠ w.heap.size + 1 + 1; omega) _, h.out.put 4 x, h.bel.setCell (p := ⟨w.heap.size + 1 + 1, 4, none⟩) (by show w.heap.size ≤ w.heap.size + 1 + 1; omega) _⟩
theorem ToB.put5 (h : ToB w V k ih im ii vh vm vi) (x : Value) : ToB w (V.setCell ⟨w.heap.size + 1 + 1, 5, none⟩ x) k ih im ii vh vm x :=
  ⟨h.arg.far (p := ⟨w.heap.size + 1 + 1, 5, none⟩) (by show w.heap.size ≠ w.heap.size + 1 + 1; omega) _, h.res.far (p := ⟨w.heap.size + 1 + 1, 5, none⟩) (by show w.heap.size + 1 ≠ w.heap.size + 1 + 1; omega) _, h.out.put 5 x, h.bel.setCell (p := ⟨w.heap.size + 1 + 1, 5, none⟩) (by show w.heap.size ≤ w.heap.size + 1 + 1; omega) _⟩
theorem ToB.acells (h : ToB w V k ih im ii vh vm vi) : V.cell? ⟨w.heap.size, 3, none⟩ = some ih ∧ V.cell? ⟨w.heap.size, 4, none⟩ = some im ∧ V.cell? ⟨w.heap.size, 5, none⟩ = some ii := ⟨h.arg.cell 3, h.arg.cell 4, h.arg.cell 5⟩
theorem ToB.ocells (h : ToB w V k ih im ii vh vm vi) : V.cell? ⟨w.heap.size + 1 + 1, 0, none⟩ = some (.int .i64 k.id) ∧ V.cell? ⟨w.heap.size + 1 + 1, 1, none⟩ = some (.int .i64 k.time) ∧ V.cell? ⟨w.heap.size + 1 + 1, 2, none⟩ = some (.int .i64 k.next) ∧ V.cell? ⟨w.heap.size + 1 + 1, 3, none⟩ = some vh ∧ V.cell? ⟨w.heap.size + 1 + 1, 4, none⟩ = some vm ∧ V.cell? ⟨w.heap.size + 1 + 1, 5, none⟩ = some vi ∧
    V.frozen? ⟨w.heap.size + 1 + 1, 3, none⟩ = false ∧ V.frozen? ⟨w.heap.size + 1 + 1, 4, none⟩ = false ∧ V.frozen? ⟨w.heap.size + 1 + 1, 5, none⟩ = false := ⟨h.out.cell 0, h.out.cell 1, h.out.cell 2, h.out.cell 3, h.out.cell 4, h.out.cell 5, h.out.frozen 3, h.out.frozen 4, h.out.frozen 5⟩
end
/-- a result's block of a keep, before it is written -/
theorem res_cells {V : World} {R : Nat} {a b c d e f : Value} (h : Blk V R 29 #[a, b, c, d, e, f]) : V.cell? ⟨R, 0, none⟩ = some a ∧ V.cell? ⟨R, 1, none⟩ = some b ∧ V.cell? ⟨R, 2, none⟩ = some c ∧ V.cell? ⟨R, 3, none⟩ = some d ∧ V.cell? ⟨R, 4, none⟩ = some e ∧ V.cell? ⟨R, 5, none⟩ = some f ∧
    V.frozen? ⟨R, 0, none⟩ = false ∧ V.frozen? ⟨R, 1, none⟩ = false ∧ V.frozen? ⟨R, 2, none⟩ = false ∧ V.frozen? ⟨R, 3, none⟩ = false ∧ V.frozen? ⟨R, 4, none⟩ = false ∧ V.frozen? ⟨R, 5, none⟩ = false :=
  ⟨h.cell 0, h.cell 1, h.cell 2, h.cell 3, h.cell 4, h.cell 5, h.frozen 0, h.frozen 1, h.frozen 2, h.frozen 3, h.frozen 4, h.frozen 5⟩
/-- a keep stored into a block -/
abbrev put6 (V : World) (R : Nat) (a b c d e f : Value) : World := (((((V.setCell ⟨R, 0, none⟩ a).setCell ⟨R, 1, none⟩ b).setCell ⟨R, 2, none⟩ c).setCell ⟨R, 3, none⟩ d).setCell ⟨R, 4, none⟩ e).setCell ⟨R, 5, none⟩ f
theorem put6_blk {V : World} {R : Nat} {a b c d e f a' b' c' d' e' f' : Value} (h : Blk V R 29 #[a, b, c, d, e, f]) : Blk (put6 V R a' b' c' d' e' f') R 29 #[a', b', c', d', e', f'] :=
  (((((h.put 0 a').put 1 b').put 2 c').put 3 d').put 4 e').put 5 f'
theorem put6_below {w V : World} {B R : Nat} (hR : B ≤ R) (h : Below B w V) (a b c d e f : Value) : Below B w (put6 V R a b c d e f) :=
  (((((h.setCell (p := ⟨R, 0, none⟩) hR a).setCell (p := ⟨R, 1, none⟩) hR b).setCell (p := ⟨R, 2, none⟩) hR c).setCell (p := ⟨R, 3, none⟩) hR d).setCell (p := ⟨R, 4, none⟩) hR e).setCell (p := ⟨R, 5, none⟩) hR f
theorem OwnAt.put6 {α : Type} {S : Shape α} {t : TypeId} {B : Nat} {W : World} {v : Value} {l : List α} (h : OwnAt S t B W v l) {R : Nat} (hR : R < B) (a b c d e f : Value) : OwnAt S t B (put6 W R a b c d e f) v l :=
  (((((h.set (p := ⟨R, 0, none⟩) hR a).set (p := ⟨R, 1, none⟩) hR b).set (p := ⟨R, 2, none⟩) hR c).set (p := ⟨R, 3, none⟩) hR d).set (p := ⟨R, 4, none⟩) hR e).set (p := ⟨R, 5, none⟩) hR f

set_option maxRecDepth 100000 in
set_option maxHeartbeats 1600000 in
theorem toK_any (w : World) (k : Kp) (a b c : Value) (h : InK w k a b c) (hl : Few k) :
    Calls Tryz.prog 15 #[kpV k.id k.time k.next a b c] w (KeepPost w k) := by
  obtain ⟨hl1, hl2, hl3⟩ := hl
  have hT := ToB.new w k a b c
  have HI := Lib.hid h
  have HL1 := Lib.hid hl1
  have HL2 := Lib.hid hl2
  have HL3 := Lib.hid hl3
  have hz : w.heap.size + 3 ≤ (((w.alloc (.cells #[.int .i64 k.id, .int .i64 k.time, .int .i64 k.next, a, b, c] 39)).alloc (.cells #[.int .i64 0, .int .i64 0, .int .i64 0, .slice none 0 0, .slice none 0 0, .slice none 0 0] 29)).alloc (.cells #[.int .i64 k.id, .int .i64 k.time, .int .i64 k.next, .slice none 0 0, .slice none 0 0, .slice none 0 0] 29)).heap.size := by simp
  clear hl1 hl2 hl3 h
  go_enter Tryz.func15, Tryz.ntmps15
  go_wp2_with fail
  generalize ((w.alloc (.cells #[.int .i64 k.id, .int .i64 k.time, .int .i64 k.next, a, b, c] 39)).alloc (.cells #[.int .i64 0, .int .i64 0, .int .i64 0, .slice none 0 0, .slice none 0 0, .slice none 0 0] 29)).alloc (.cells #[.int .i64 k.id, .int .i64 k.time, .int .i64 k.next, .slice none 0 0, .slice none 0 0, .slice none 0 0] 29) = V at hT hz ⊢
  refine (toN_any _ _ _ (HI.out.later hT.bel).held HL1.out).mono ?_
  rintro e w1 ⟨vh, rfl, hO1⟩
  obtain ⟨Ah, ch, hvh⟩ := OwnR.form hO1
  obtain ⟨nh, hnh⟩ : ∃ n, n = k.held.length := ⟨_, rfl⟩
  rw [← hnh] at hvh
  subst hvh
  clear hnh
  have hT1 := hT.later hO1.2
  have n1 := hO1.2.size
  have A1 : OwnAt ntS 74 (w.heap.size + 3) w1 (.slice Ah nh ch) k.held := OwnAt.down (B := V.heap.size) hO1.1 hz
  have L1 : ∀ g, (Value.slice Ah nh ch).ownBlock = some g → g < w1.heap.size := fun g hg => (hO1.lt hg).2
  have hT2 := hT1.put3 (.slice Ah nh ch)
  have A2 := A1.set (p := ⟨w.heap.size + 1 + 1, 3, none⟩) (by show w.heap.size + 1 + 1 < w.heap.size + 3; omega) (.slice Ah nh ch)
  obtain ⟨_, _, _, o3, _, _, f3, _, _⟩ := hT1.ocells
  obtain ⟨_, a1, _⟩ := hT1.acells
  have z1 : (w1.setCell ⟨w.heap.size + 1 + 1, 3, none⟩ (.slice Ah nh ch)).heap.size = w1.heap.size := by simp
  have HT := Lib.hid hT2
  have HA := Lib.hid A2
  have HZ := Lib.hid z1
  have HL := Lib.hid L1
  clear hT hT1 hT2 A1 A2 hO1 z1 L1
  go_wp2_with fail
  generalize w1.setCell ⟨w.heap.size + 1 + 1, 3, none⟩ (.slice Ah nh ch) = V1 at HT HA HZ ⊢
  refine (toM_any _ _ _ (HI.out.later HT.out.bel).marks HL2.out).mono ?_
  rintro e w2 ⟨vm, rfl, hO2⟩
  obtain ⟨Am, cm, hvm⟩ := OwnR.form hO2
  obtain ⟨nm, hnm⟩ : ∃ n, n = k.marks.length := ⟨_, rfl⟩
  rw [← hnm] at hvm
  subst hvm
  clear hnm
  have hT3 := HT.out.later hO2.2
  have A3 := HA.out.later hO2.2
  have n2 := hO2.2.size
  rw [HZ.out] at n2
  have B1 : OwnAt mkS 88 (w.heap.size + 3) w2 (.slice Am nm cm) k.marks := OwnAt.down (B := V1.heap.size) hO2.1 (by rw [HZ.out]; omega)
  have P1 : Apart (.slice Ah nh ch) (.slice Am nm cm) := fun g p q => by
    have h1 := HL.out g p
    have h2 := (hO2.lt q).1
    rw [HZ.out] at h2
    omega
  have L2 : ∀ g, (Value.slice Ah nh ch).ownBlock = some g ∨ (Value.slice Am nm cm).ownBlock = some g → g < w2.heap.size := fun g hg => by
    rcases hg with hg | hg
    · have := HL.out g hg; omega
    · exact (hO2.lt hg).2
  have hT4 := hT3.put4 (.slice Am nm cm)
  have A4 := A3.set (p := ⟨w.heap.size + 1 + 1, 4, none⟩) (by show w.heap.size + 1 + 1 < w.heap.size + 3; omega) (.slice Am nm cm)
  have B2 := B1.set (p := ⟨w.heap.size + 1 + 1, 4, none⟩) (by show w.heap.size + 1 + 1 < w.heap.size + 3; omega) (.slice Am nm cm)
  clear o3 f3 a1
  obtain ⟨_, _, _, _, o4, _, _, f4, _⟩ := hT3.ocells
  obtain ⟨_, _, a2⟩ := hT3.acells
  have z2 : (w2.setCell ⟨w.heap.size + 1 + 1, 4, none⟩ (.slice Am nm cm)).heap.size = w2.heap.size := by simp
  clear HT HA HZ HL hT3 A3 B1 hO2
  have HT := Lib.hid hT4
  have HA := Lib.hid A4
  have HB := Lib.hid B2
  have HZ := Lib.hid z2
  have HL := Lib.hid L2
  have HP := Lib.hid P1
  clear hT4 A4 B2 z2 L2 P1
  go_wp2_with fail
  generalize w2.setCell ⟨w.heap.size + 1 + 1, 4, none⟩ (.slice Am nm cm) = V2 at HT HA HB HZ ⊢
  refine (toN_any _ _ _ (HI.out.later HT.out.bel).inbox HL3.out).mono ?_
  rintro e w3 ⟨vi, rfl, hO3⟩
  obtain ⟨Ai, ci, hvi⟩ := OwnR.form hO3
  obtain ⟨ni, hni⟩ : ∃ n, n = k.inbox.length := ⟨_, rfl⟩
  rw [← hni] at hvi
  subst hvi
  clear hni
  have hT5 := HT.out.later hO3.2
  have A5 := HA.out.later hO3.2
  have B3 := HB.out.later hO3.2
  have C1 : OwnAt ntS 74 (w.heap.size + 3) w3 (.slice Ai ni ci) k.inbox := OwnAt.down (B := V2.heap.size) hO3.1 (by rw [HZ.out]; omega)
  have P2 : Apart (.slice Ah nh ch) (.slice Ai ni ci) := fun g p q => by
    have h1 := HL.out g (.inl p)
    have h2 := (hO3.lt q).1
    rw [HZ.out] at h2
    omega
  have P3 : Apart (.slice Am nm cm) (.slice Ai ni ci) := fun g p q => by
    have h1 := HL.out g (.inr p)
    have h2 := (hO3.lt q).1
    rw [HZ.out] at h2
    omega
  have hT6 := hT5.put5 (.slice Ai ni ci)
  have A6 := A5.set (p := ⟨w.heap.size + 1 + 1, 5, none⟩) (by show w.heap.size + 1 + 1 < w.heap.size + 3; omega) (.slice Ai ni ci)
  have B4 := B3.set (p := ⟨w.heap.size + 1 + 1, 5, none⟩) (by show w.heap.size + 1 + 1 < w.heap.size + 3; omega) (.slice Ai ni ci)
  have C2 := C1.set (p := ⟨w.heap.size + 1 + 1, 5, none⟩) (by show w.heap.size + 1 + 1 < w.heap.size + 3; omega) (.slice Ai ni ci)
  clear o4 f4 a2
  obtain ⟨_, _, _, _, _, o5, _, _, f5⟩ := hT5.ocells
  obtain ⟨p0, p1, p2, p3, p4, p5, _, _, _⟩ := hT6.ocells
  obtain ⟨r0, r1, r2, r3, r4, r5, g0, g1, g2, g3, g4, g5⟩ := res_cells hT6.res
  have HC := Lib.hid (put6_blk (a' := .int .i64 k.id) (b' := .int .i64 k.time) (c' := .int .i64 k.next) (d' := (.slice Ah nh ch)) (e' := (.slice Am nm cm)) (f' := (.slice Ai ni ci)) hT6.res)
  have HE := Lib.hid (put6_below (B := w.heap.size) (R := w.heap.size + 1) (Nat.le_succ _) hT6.bel (.int .i64 k.id) (.int .i64 k.time) (.int .i64 k.next) (.slice Ah nh ch) (.slice Am nm cm) (.slice Ai ni ci))
  have HA2 := Lib.hid (A6.put6 (R := w.heap.size + 1) (by omega) (.int .i64 k.id) (.int .i64 k.time) (.int .i64 k.next) (.slice Ah nh ch) (.slice Am nm cm) (.slice Ai ni ci))
  have HB2 := Lib.hid (B4.put6 (R := w.heap.size + 1) (by omega) (.int .i64 k.id) (.int .i64 k.time) (.int .i64 k.next) (.slice Ah nh ch) (.slice Am nm cm) (.slice Ai ni ci))
  have HC2 := Lib.hid (C2.put6 (R := w.heap.size + 1) (by omega) (.int .i64 k.id) (.int .i64 k.time) (.int .i64 k.next) (.slice Ah nh ch) (.slice Am nm cm) (.slice Ai ni ci))
  have HQ := Lib.hid (show Apart (.slice Ah nh ch) (.slice Ai ni ci) ∧ Apart (.slice Am nm cm) (.slice Ai ni ci) from ⟨P2, P3⟩)
  clear hT5 hT6 A5 A6 B3 B4 C1 C2 P2 P3 hO3 HT HA HB HZ HL
  go_wp2
  have x0 := HC.out.cell 0
  have x1 := HC.out.cell 1
  have x2 := HC.out.cell 2
  have x3 := HC.out.cell 3
  have x4 := HC.out.cell 4
  have x5 := HC.out.cell 5
  refine bodyPost_ret (v := kpV k.id k.time k.next (.slice Ah nh ch) (.slice Am nm cm) (.slice Ai ni ci)) (by simp [results, Tryz.results15, go_sem, x0, x1, x2, x3, x4, x5]) rfl ⟨(.slice Ah nh ch), (.slice Am nm cm), (.slice Ai ni ci), rfl, ⟨OwnAt.down HA2.out (by omega), HE.out⟩, ⟨OwnAt.down HB2.out (by omega), HE.out⟩, ⟨OwnAt.down HC2.out (by omega), HE.out⟩, HP.out, HQ.out.1, HQ.out.2⟩

theorem OwnAt.same {α : Type} {S : Shape α} {t : TypeId} {B : Nat} {W W' : World} {v : Value} {l : List α} (h : OwnAt S t B W v l) (hs : ∀ g, v.ownBlock = some g → W'.heap[g]? = W.heap[g]?) : OwnAt S t B W' v l := by
  refine ⟨h.1, ?_⟩
  rcases h.2 with h' | ⟨g, cap, cur, rfl, h2, h3, h4⟩
  · exact .inl h'
  · exact .inr ⟨g, cap, cur, rfl, h2, (hs g rfl).trans h3, h4⟩
theorem OwnAt.lt {α : Type} {S : Shape α} {t : TypeId} {B : Nat} {W : World} {v : Value} {l : List α} (h : OwnAt S t B W v l) {g : Nat} (hg : v.ownBlock = some g) : B ≤ g ∧ g < W.heap.size := World.ownsRow.lt h g hg
theorem OwnAt.sees {α : Type} {S : Shape α} {t : TypeId} {B : Nat} {W : World} {v : Value} {l : List α} (h : OwnAt S t B W v l) : SeesR S W v l := by
  rcases h.2 with ⟨rfl, hn⟩ | ⟨g, cap, cur, rfl, hb, hh, hn, hm, hs, ht⟩
  · exact ⟨none, 0, by rw [hn], .inl ⟨rfl, rfl, List.eq_nil_of_length_eq_zero hn⟩⟩
  · refine ⟨_, cap, rfl, .inr ⟨g, rfl, (h.lt rfl).2, fun i x hx j u hu => ?_⟩⟩
    have hj : j < S.n := by have := (List.getElem?_eq_some_iff.1 hu).1; rwa [S.len] at this
    have hf := flat_at S.len l i x hx j hj
    rw [hu] at hf
    have hi := (List.getElem?_eq_some_iff.1 hf).1
    rw [World.ownsRow.cellAt (g := g) (cap := cap) h _ (by rwa [flat_len S.len] at hi), hf]
end Go.Proofs.YtgihbilpimempabGreatDoor.kp

/-
  Contracts of the laws' own loops over lists of texts: lbTexts, eqStringS (where both lists are one), markText, markStringS, heldStringS.
-/
namespace Go.Proofs.YtgihbilpimempabGreatDoor.sl
open Go.ChangeShapes Go.WideShapes Go.ChangeAt Go.RowKit
open Go.Proofs.YtgihbilpimempabGreatDoor.wd Go.Proofs.YtgihbilpimempabGreatDoor.cp Go.Proofs.YtgihbilpimempabGreatDoor.ow

/-- a slice that reads as a list of texts -/
def SeesS (w : World) (v : Value) (l : List ByteArray) : Prop :=
  ∃ A c, v = .slice A l.length c ∧ (0 < l.length → ∃ g, A = some ⟨g, 0, none⟩ ∧ g < w.heap.size ∧ ∀ i x, l[i]? = some x → w.cell? ⟨g, i, none⟩ = some (.string x))

theorem sees_of_own {w0 w : World} {v : Value} {l : List ByteArray} (h : Own 9 w0 w v (l.map Value.string)) : SeesS w v l := by
  obtain ⟨A, c, rfl, hc⟩ := h.form
  rw [List.length_map] at hc ⊢
  refine ⟨A, c, rfl, fun hn => ?_⟩
  obtain ⟨g, rfl, _, hg, hcell⟩ := hc hn
  exact ⟨g, rfl, hg, fun i x hx => hcell i _ (by simp [hx])⟩
theorem SeesS.later {w w' : World} {v : Value} {l : List ByteArray} (h : SeesS w v l) (hB : Below w.heap.size w w') : SeesS w' v l := by
  obtain ⟨A, c, rfl, hc⟩ := h
  refine ⟨A, c, rfl, fun hn => ?_⟩
  obtain ⟨g, rfl, hg, hcell⟩ := hc hn
  exact ⟨g, rfl, Nat.lt_of_lt_of_le hg hB.size, fun i x hx => (hB.cell (p := ⟨g, i, none⟩) hg).trans (hcell i x hx)⟩
theorem SeesS.drewN {w : World} {v : Value} {l : List ByteArray} (h : SeesS w v l) (q : Nat) : SeesS (w.drewN q) v l := h

def TruePost (w : World) (e : Ending) (w' : World) : Prop := e = .returned (.bool true) ∧ ∃ q, w' = w.drewN q

set_option maxHeartbeats 400000 in
theorem eq_same (w : World) (v1 v2 : Value) (l : List ByteArray) (h1 : SeesS w v1 l) (h2 : SeesS w v2 l) (hl : l.length ≤ 1048576) :
    Calls Tryz.prog 21 #[v1, v2] w (TruePost w) := by
  obtain ⟨A1, c1, rfl, r1⟩ := h1
  obtain ⟨A2, c2, rfl, r2⟩ := h2
  go_enter Tryz.func21, Tryz.ntmps21
  go_wp2
  go_loopw [5] (fun i wr => ∃ k : Nat, k ≤ l.length ∧ i = .int .i64 k ∧ ∃ q, wr = w.drewN q) (fun i _ => (l.length + 1 : Nat) - (intOf i).toNat)
  case atStart => exact ⟨0, by omega, rfl, 0, rfl⟩
  case round =>
    obtain ⟨k, hk, rfl, q, rfl⟩ := hrel
    by_cases hkl : k < l.length
    · obtain ⟨g1, rfl, _, k1⟩ := r1 (by omega)
      obtain ⟨g2, rfl, _, k2⟩ := r2 (by omega)
      have e1 := k1 k l[k] (List.getElem?_eq_getElem hkl)
      have e2 := k2 k l[k] (List.getElem?_eq_getElem hkl)
      clear k1 k2 r1 r2
      generalize l[k] = x at e1 e2
      go_wp2
      go_quiet (fail)
      go_wp2
      go_roundw
      case rel => exact ⟨k + 1, by omega, by go_num, _, rfl⟩
      case measure => simp [intOf]; omega
    · go_wp2
      go_ret
      exact ⟨rfl, q, rfl⟩

/-- the digits of a number ahead of a text -/
def dg : Nat → Nat → ByteArray → ByteArray
  | 0, _, out => out
  | f + 1, k, out => if k = 0 then out else dg f (k / 10) ((⟨#[UInt8.ofNat (48 + k % 10)]⟩ : ByteArray) ++ out)
theorem dg_zero (f : Nat) (out : ByteArray) : dg f 0 out = out := by cases f <;> simp [dg]
theorem dg_on {f k : Nat} {out : ByteArray} (h : 0 < k) : dg (f + 1) k out = dg f (k / 10) ((⟨#[UInt8.ofNat (48 + k % 10)]⟩ : ByteArray) ++ out) := by
  simp only [dg]; rw [if_neg (by omega)]
/-- what a mark is written as -/
def mt (k : Nat) : ByteArray := (⟨#[109]⟩ : ByteArray) ++ dg 8 k ⟨#[]⟩

theorem conv_one (w : World) (n : Nat) (h : n < 256) :
    (convert 22 9 (.slice (some ⟨w.heap.size, 0, none⟩) 1 1)).run Tryz.prog (w.alloc (.cells #[.int .u8 (n : Int)] 5)) = .ok (.string ⟨#[UInt8.ofNat n]⟩) (w.alloc (.cells #[.int .u8 (n : Int)] 5)) := by
  refine run_convert_bytes_back (P := Tryz.prog) _ 22 9 5 ⟨w.heap.size, 0, none⟩ 1 [UInt8.ofNat n] Tryz.underlying22 Tryz.underlying5 Tryz.underlying9 (fun j hj => ?_)
  have : j = 0 := by simpa using hj
  subst this
  have e : (⟨w.heap.size, 0, none⟩ : Addr).add 0 = ⟨w.heap.size, 0, none⟩ := by unfold Addr.add; split <;> simp_all
  rw [e, (Blk.new w 5 #[.int .u8 (n : Int)]).cell 0]
  simp
  omega

theorem size_cat (a b : ByteArray) : (a ++ b).size = a.size + b.size := by simp

set_option maxRecDepth 100000 in
set_option maxHeartbeats 400000 in
theorem mark_text (k : Nat) (h0 : 1 ≤ k) (h1 : k < 100000000) (w : World) : Calls Tryz.prog 47 #[.int .i64 k] w (StrPost w (mt k)) := by
  have H := Lib.hid (show mt k = (⟨#[109]⟩ : ByteArray) ++ dg 8 k ⟨#[]⟩ from rfl)
  go_enter Tryz.func47, Tryz.ntmps47
  go_wp2
  go_loopw [0, 3] (fun i s wr => ∃ (m f : Nat) (out : ByteArray), i = .int .i64 m ∧ s = .string out ∧ Hid (m < 10 ^ f) ∧ out.size + f ≤ 8 ∧ m < 100000000 ∧ Hid (dg 8 k ⟨#[]⟩ = dg f m out) ∧ Below w.heap.size w wr) (fun i _ _ => (intOf i).toNat)
  case atStart => exact ⟨k, 8, ⟨#[]⟩, rfl, rfl, h1, by decide, h1, rfl, Below.refl _ _⟩
  case round =>
    obtain ⟨m, f, out, rfl, rfl, HF, hs, hm, HD, hB⟩ := hrel
    have hz := hB.size
    by_cases hm0 : 0 < m
    · obtain ⟨f, rfl⟩ : ∃ f', f = f' + 1 := ⟨f - 1, by
        rcases Nat.eq_zero_or_pos f with rfl | h
        · have := HF.out; omega
        · omega⟩
      have HN : Hid (m / 10 < 10 ^ f) := Nat.div_lt_of_lt_mul (by have := HF.out; rw [Nat.pow_succ] at this; omega)
      have HD' := Lib.hid (HD.out.trans (dg_on hm0))
      have HZ := Lib.hid (size_cat ⟨#[UInt8.ofNat (48 + m % 10)]⟩ out)
      have hcv := conv_one wr (48 + m % 10) (by omega)
      rw [show ((48 + m % 10 : Nat) : Int) = 48 + (m : Int) % 10 by omega] at hcv
      generalize UInt8.ofNat (48 + m % 10) = ch at hcv HD' HZ
      have hso : (out.size : Int) ≤ 8388608 := by omega
      clear HF HD
      go_wp2
      go_roundw
      case rel => exact ⟨m / 10, f, _, by go_num, rfl, HN.out, by rw [HZ.out]; show 1 + out.size + f ≤ 8; omega, by omega, HD'.out, hB.alloc hz _⟩
      case measure => simp [intOf]; omega
    · obtain rfl : m = 0 := by omega
      have HE := Lib.hid (HD.out.trans (dg_zero f out))
      have hso : (out.size : Int) ≤ 8388608 := by omega
      go_wp2
      go_ret
      exact ⟨by rw [H.out, HE.out]; rfl, hB⟩

/-- the marks from k on, n of them -/
def mts (k n : Nat) : List ByteArray := (List.range n).map fun i => mt (k + i)
theorem mts_len (k n : Nat) : (mts k n).length = n := by simp [mts]
theorem mts_at {k n i : Nat} (h : i < n) : (mts k n)[i]? = some (mt (k + i)) := by simp [mts, h]

/-- nothing old has changed but the slice's own block -/
def Touched (v : Value) (w w' : World) : Prop :=
  w'.os = w.os ∧ w'.tape = w.tape ∧ w'.output = w.output ∧ w.heap.size ≤ w'.heap.size ∧ ∀ b, b < w.heap.size → some b ≠ v.ownBlock → w'.heap[b]? = w.heap[b]?
theorem Touched.refl (v : Value) (w : World) : Touched v w w := ⟨rfl, rfl, rfl, Nat.le_refl _, fun _ _ _ => rfl⟩
theorem Touched.below {v : Value} {w w' : World} (h : Touched v w w') {B : Nat} (hB : ∀ g, v.ownBlock = some g → B ≤ g) (hw : B ≤ w.heap.size) : Below B w w' :=
  ⟨h.1, h.2.1, h.2.2.1, h.2.2.2.1, fun k hk => h.2.2.2.2 k (by omega) (fun e => by have := hB k e.symm; omega)⟩
theorem Touched.on {v : Value} {w w1 w2 : World} (h : Touched v w w1) (hb : Below w1.heap.size w1 w2) : Touched v w w2 :=
  ⟨hb.os.trans h.1, hb.tape.trans h.2.1, hb.output.trans h.2.2.1, Nat.le_trans h.2.2.2.1 hb.size, fun b hlt hne => (hb.block b (Nat.lt_of_lt_of_le hlt h.2.2.2.1)).trans (h.2.2.2.2 b hlt hne)⟩
theorem Touched.set {g n cap : Nat} {w w1 : World} (h : Touched (.slice (some ⟨g, 0, none⟩) n cap) w w1) (i : Nat) (x : Value) : Touched (.slice (some ⟨g, 0, none⟩) n cap) w (w1.setCell ⟨g, i, none⟩ x) :=
  ⟨h.1, h.2.1, h.2.2.1, by simpa using h.2.2.2.1, fun b hlt hne => (Below.heap_setCell w1 ⟨g, i, none⟩ x b (fun e => hne (by subst e; rfl))).trans (h.2.2.2.2 b hlt hne)⟩

def MarkPost (w : World) (v : Value) (k n : Nat) (e : Ending) (w' : World) : Prop :=
  e = .returned (.int .i64 ((k + n : Nat) : Int)) ∧ SeesS w' v (mts k n) ∧ Touched v w w'

def MRel (w : World) (g n cap k i : Nat) (wr : World) : Prop :=
  (∃ cur, Blk wr g 9 cur ∧ cur.size = cap ∧ ∀ j, j < i → cur[j]? = some (.string (mt (k + j)))) ∧ Touched (.slice (some ⟨g, 0, none⟩) n cap) w wr
theorem mrel_on {w : World} {g n cap k i : Nat} {wr w2 : World} (h : MRel w g n cap k i wr) (hi : i < cap) (hb : Below wr.heap.size wr w2) : MRel w g n cap k (i + 1) (w2.setCell ⟨g, i, none⟩ (.string (mt (k + i)))) := by
  obtain ⟨⟨cur, hB, hs, hc⟩, t⟩ := h
  refine ⟨⟨_, (hB.below hb hB.lt).put i _, by simpa using hs, fun j hj => ?_⟩, (t.on hb).set i _⟩
  by_cases e : j = i
  · subst e; rw [Array.getElem?_setIfInBounds]; simp; omega
  · rw [Array.getElem?_setIfInBounds]; rw [if_neg (fun h => e h.symm)]; exact hc j (by omega)

set_option maxRecDepth 100000 in
set_option maxHeartbeats 400000 in
theorem mark_any {w0 w : World} {v : Value} {xs : List Value} (h : Own 9 w0 w v xs) (k : Nat) (hn : xs.length ≤ 1000000) (k0 : 1 ≤ k) (k1 : k ≤ 1000) :
    Calls Tryz.prog 22 #[v, .int .i64 k] w (MarkPost w v k xs.length) := by
  generalize hN : xs.length = n at hn ⊢
  rcases h.1.2 with ⟨rfl, h0⟩ | ⟨g, cap, cur, rfl, hb, hh, hnc, hm, hs, ht⟩
  · obtain rfl : n = 0 := by omega
    clear h h0
    go_enter Tryz.func22, Tryz.ntmps22
    go_wp2
    go_loop [1, 5] (fun a i => i = .int .i64 0 ∧ a = .int .i64 k) (fun _ _ => 0)
    case atStart => exact ⟨rfl, rfl⟩
    case round =>
      obtain ⟨rfl, rfl⟩ := hrel
      go_wp2
      go_ret
      exact ⟨by simp, ⟨none, 0, rfl, fun h => absurd h (by simp [mts])⟩, Touched.refl _ _⟩
  · rw [hN] at hnc ⊢
    have hR : MRel w g n cap k 0 w := ⟨⟨cur, hh, by omega, fun j hj => absurd hj (by omega)⟩, Touched.refl _ _⟩
    clear h ht hh hs hb hN
    have hm' : cap ≤ 9223372036854775807 := hm
    clear hm
    go_enter Tryz.func22, Tryz.ntmps22
    go_wp2
    go_loopw [1, 5] (fun a i wr => ∃ j : Nat, j ≤ n ∧ i = .int .i64 j ∧ a = .int .i64 ((k + j : Nat) : Int) ∧ MRel w g n cap k j wr) (fun _ i _ => (n + 1 : Nat) - (intOf i).toNat)
    case atStart => exact ⟨0, by omega, rfl, by go_num, hR⟩
    case round =>
      obtain ⟨j, hj, rfl, rfl, hM⟩ := hrel
      clear hR
      by_cases hjn : j < n
      · have HM := Lib.hid hM
        go_wp2_with fail
        refine (mark_text (k + j) (by omega) (by omega) _).mono ?_
        rintro e w2 ⟨rfl, hB2⟩
        have R := Lib.hid (mrel_on HM.out (by omega) hB2)
        obtain ⟨⟨cur', hB, hs, hc⟩, hT⟩ := HM.out
        have hB' := hB.below hB2 hB.lt
        have fj := hB'.frozen j
        obtain ⟨x, hx⟩ : ∃ x, w2.cell? ⟨g, j, none⟩ = some x := ⟨cur'[j]'(by omega), by rw [hB'.cell j]; exact Array.getElem?_eq_getElem (by omega)⟩
        clear hB hs hc hT hM HM hB' hB2
        go_wp2
        go_roundw
        case rel => exact ⟨j + 1, by omega, by go_num, by go_num, R.out⟩
        case measure => simp [intOf]; omega
      · obtain rfl : j = n := by omega
        obtain ⟨⟨cur', hB, hs, hc⟩, t⟩ := hM
        have P : Hid (SeesS wr (.slice (some ⟨g, 0, none⟩) j cap) (mts k j)) :=
          ⟨_, cap, by rw [mts_len], fun _ => ⟨g, rfl, hB.lt, fun i x hx => by
            have hi : i < j := by have := (List.getElem?_eq_some_iff.1 hx).1; rwa [mts_len] at this
            rw [mts_at hi] at hx
            rw [hB.cell i, hc i hi]
            injection hx with hx
            rw [hx]⟩⟩
        have T := Lib.hid t
        clear hB hs hc t
        go_wp2
        go_ret
        exact ⟨rfl, P.out, T.out⟩

end Go.Proofs.YtgihbilpimempabGreatDoor.sl

