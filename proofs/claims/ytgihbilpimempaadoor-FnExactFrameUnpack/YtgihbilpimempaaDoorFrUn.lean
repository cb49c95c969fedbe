/-
  Contracts of the program's reading of a frame: (*impl.frameCursor).fail, next, readBytes, readPair, readBlock.
-/
import Derived.Test.YtgihbilpimempaaDoorFrUnPlain
import Derived.Test.YtgihbilpimempaaDoorIPack
import Derived.Deep.QuietTactic
import Derived.BigQuiet
import Derived.Laws.BitsAllLaws
import Derived.Deep.Cut
namespace Go.Proofs.YtgihbilpimempaaDoor.fr
open Go.ChangeShapes Go.WideShapes Go.ChangeAt Go.RowKit
open Go.Proofs.YtgihbilpimempaaDoor.nb Go.Proofs.YtgihbilpimempaaDoor.wd Go.Proofs.YtgihbilpimempaaDoor.cp Go.Proofs.YtgihbilpimempaaDoor.ow

/-- a slice that reads as bytes, in memory below B -/
def RowU (B : Nat) (w : World) (A : Option Addr) (l : List UInt8) : Prop := 0 < l.length → ∃ g o, A = some ⟨g, o, none⟩ ∧ g < B ∧ ∀ j, j < l.length → w.cell? ⟨g, o + j, none⟩ = some (.int .u8 (vl l j))
/-- the program's three errors are laid, in memory below B -/
def FErr (B : Nat) (w : World) : Prop := 3 ≤ B ∧ ∀ k, k < 3 → ∃ t p, w.cell? ⟨k, 0, none⟩ = some (.iface t p)
section
variable {B z : Nat} {w w' : World} {A : Option Addr} {l : List UInt8}
theorem RowU.but (h : RowU z w A l) (hb : But B z w w') (hz : z ≤ B) : RowU z w' A l := fun hp => by
  obtain ⟨g, o, e, hg, hc⟩ := h hp
  exact ⟨g, o, e, hg, fun j hj => (hb.cell (by omega) (by omega)).trans (hc j hj)⟩
theorem FErr.but (h : FErr z w) (hb : But B z w w') (hz : z ≤ B) : FErr z w' := ⟨h.1, fun k hk => by
  obtain ⟨t, p, hc⟩ := h.2 k hk
  exact ⟨t, p, (hb.cell (by have := h.1; omega) (by have := h.1; omega)).trans hc⟩⟩
theorem RowU.of (h : RowB w A l) : RowU w.heap.size w A l := h
theorem RowU.less {B' : Nat} (h : RowU B w A l) (hb : B ≤ B') : RowU B' w A l := fun hp => by
  obtain ⟨g, o, e, hg, hc⟩ := h hp
  exact ⟨g, o, e, by omega, hc⟩
theorem RowU.below (h : RowU B w A l) (hb : Below B w w') : RowU B w' A l := fun hp => by
  obtain ⟨g, o, e, hg, hc⟩ := h hp
  exact ⟨g, o, e, hg, fun j hj => (hb.cell (p := ⟨g, o + j, none⟩) hg).trans (hc j hj)⟩
theorem FErr.below (h : FErr B w) (hb : Below B w w') : FErr B w' := ⟨h.1, fun k hk => by
  obtain ⟨t, p, hc⟩ := h.2 k hk
  exact ⟨t, p, (hb.cell (p := ⟨k, 0, none⟩) (by have := h.1; show k < B; omega)).trans hc⟩⟩
theorem FErr.less {B' : Nat} (h : FErr B w) (hb : B ≤ B') : FErr B' w := ⟨by have := h.1; omega, h.2⟩
end

/-- the cursor in block b, i bytes on -/
def Cu (w : World) (b : Nat) (A : Option Addr) (c : Nat) (l : List UInt8) (i : Nat) : Prop :=
  ∃ flt, Blk w b 49 #[.slice A l.length c, .int .i64 ((min i l.length : Nat) : Int), flt] ∧ (i ≤ l.length ∧ flt = .nilIface ∨ l.length < i ∧ ∃ t p, flt = .iface t p)
theorem three {w : World} {g : Nat} {T : TypeId} {a b c : Value} (h : Blk w g T #[a, b, c]) : w.cell? ⟨g, 0, none⟩ = some a ∧ w.cell? ⟨g, 1, none⟩ = some b ∧ w.cell? ⟨g, 2, none⟩ = some c := ⟨h.cell 0, h.cell 1, h.cell 2⟩

def FailPost (b : Nat) (w : World) (s n f : Value) (e : Ending) (w' : World) : Prop := e = .returned (.tuple #[]) ∧ Blk w' b 49 #[s, n, f] ∧ But w.heap.size b w w' ∧ w'.heap.size = w.heap.size
theorem but_set (w : World) (b i : Nat) (v : Value) : But w.heap.size b w (w.setCell ⟨b, i, none⟩ v) := ⟨rfl, rfl, rfl, by simp, fun k _ hk => Below.heap_setCell w ⟨b, i, none⟩ v k hk⟩

theorem fail_set (w : World) (b : Nat) (s n : Value) (t : TypeId) (p : Value) (h : Blk w b 49 #[s, n, .nilIface]) :
    Calls Tryd.prog 54 #[.pointer (some ⟨b, 0, none⟩), .iface t p] w (FailPost b w s n (.iface t p)) := by
  obtain ⟨c0, c1, c2⟩ := three h
  have f2 := h.frozen 2
  have H := Lib.hid h
  clear h
  go_enter Tryd.func54, Tryd.ntmps54
  go_wp2
  go_end0
  exact ⟨rfl, by simpa using H.out.put 2 (.iface t p), but_set _ _ _ _, by simp⟩
theorem fail_keep (w : World) (b : Nat) (s n : Value) (t t' : TypeId) (p p' : Value) (h : Blk w b 49 #[s, n, .iface t' p']) :
    Calls Tryd.prog 54 #[.pointer (some ⟨b, 0, none⟩), .iface t p] w (FailPost b w s n (.iface t' p')) := by
  obtain ⟨c0, c1, c2⟩ := three h
  have H := Lib.hid h
  clear h
  go_enter Tryd.func54, Tryd.ntmps54
  go_wp2
  go_end0
  exact ⟨rfl, H.out, But.refl _ _ _, rfl⟩

/-- a byte was read -/
def NextPost (w : World) (b : Nat) (A : Option Addr) (c : Nat) (l : List UInt8) (i : Nat) (e : Ending) (w' : World) : Prop :=
  e = .returned (.int .u8 (vl l i)) ∧ Cu w' b A c l (i + 1) ∧ But w.heap.size b w w' ∧ w'.heap.size = w.heap.size

set_option maxRecDepth 100000 in
set_option maxHeartbeats 2000000 in
theorem next_in (w : World) (b : Nat) (A : Option Addr) (c : Nat) (l : List UInt8) (i : Nat) (h : Cu w b A c l i) (hr : RowU b w A l) (hi : i < l.length) (hl : l.length ≤ 1048576) :
    Calls Tryd.prog 62 #[.pointer (some ⟨b, 0, none⟩)] w (NextPost w b A c l i) := by
  obtain ⟨flt, hb, hf⟩ := h
  have hfn : flt = .nilIface := by rcases hf with ⟨_, e⟩ | ⟨h, _⟩; exact e; omega
  subst hfn
  obtain ⟨g, o, rfl, hg, hc⟩ := hr (by omega)
  have t0 := hc i hi
  rw [show min i l.length = i by omega] at hb
  have hgb : g ≠ b := by omega
  have HG := Lib.hid hgb
  obtain ⟨c0, c1, c2⟩ := three hb
  have f1 := hb.frozen 1
  have hne : ((i : Int) == (l.length : Int)) = false := beq_eq_false_iff_ne.2 (by omega)
  have HB := Lib.hid hb
  have HM := Lib.hid (show min (i + 1) l.length = i + 1 by omega)
  have hi0 : (0 : Int) ≤ (i : Int) := by omega
  have hi1 : (i : Int) < (l.length : Int) := by omega
  have hw1 : IntKind.i64.wrap ((i : Int) + 1 - 1) = (i : Int) := by rw [IntKind.wrap_i64]; omega
  obtain ⟨y, hy⟩ : ∃ y, y = vl l i := ⟨_, rfl⟩
  rw [← hy] at t0
  have HY := Lib.hid hy
  clear hc hf hb hgb hy
  go_enter Tryd.func62, Tryd.ntmps62
  go_upto_region 1 with (fail)
  go_quiet (fail)
  go_upto_region 6 with (fail)
  have hV : Blk ((w.drewN nq).setCell ⟨b, 1, none⟩ (.int .i64 ((i : Int) + 1))) b 49 #[.slice (some ⟨g, o, none⟩) l.length c, .int .i64 ((i : Int) + 1), .nilIface] := (HB.out.drewN nq).put 1 (.int .i64 ((i : Int) + 1))
  have tV : ((w.drewN nq).setCell ⟨b, 1, none⟩ (.int .i64 ((i : Int) + 1))).cell? ⟨g, o + i, none⟩ = some (.int .u8 y) := (World.cell?_of_block (Below.heap_setCell (w.drewN nq) ⟨b, 1, none⟩ _ g HG.out)).trans t0
  have hBt : But w.heap.size b w ((w.drewN nq).setCell ⟨b, 1, none⟩ (.int .i64 ((i : Int) + 1))) := but_set (w.drewN nq) b 1 _
  have hsz : ((w.drewN nq).setCell ⟨b, 1, none⟩ (.int .i64 ((i : Int) + 1))).heap.size = w.heap.size := by simp [World.drewN]
  have HBt := Lib.hid hBt
  have HSz := Lib.hid hsz
  have HV := Lib.hid hV
  clear c0 c1 c2 f1 t0 hBt hsz
  obtain ⟨c0, c1, c2⟩ := three hV
  clear hV HB
  generalize (w.drewN nq).setCell ⟨b, 1, none⟩ (.int .i64 ((i : Int) + 1)) = V at c0 c1 c2 tV HBt HSz HV ⊢
  go_quiet (fail)
  go_wp2
  go_ret
  refine ⟨by rw [← HY.out]; rfl, ⟨.nilIface, ?_, .inl ⟨by omega, rfl⟩⟩, HBt.out, HSz.out⟩
  rw [HM.out]
  exact HV.out

set_option maxRecDepth 100000 in
set_option maxHeartbeats 2000000 in
theorem next_out (w : World) (b : Nat) (A : Option Addr) (c : Nat) (l : List UInt8) (i : Nat) (h : Cu w b A c l i) (hE : FErr b w) (hi : l.length ≤ i) :
    Calls Tryd.prog 62 #[.pointer (some ⟨b, 0, none⟩)] w (NextPost w b A c l i) := by
  obtain ⟨flt, hb, hf⟩ := h
  rw [show min i l.length = l.length by omega] at hb
  have HM := Lib.hid (show min (i + 1) l.length = l.length by omega)
  have HY := Lib.hid (vl_out hi)
  obtain ⟨e2, p2, hg2⟩ := hE.2 2 (by omega)
  obtain ⟨c0, c1, c2⟩ := three hb
  have hb2 : (2 : Nat) < b := by have := hE.1; omega
  have HB := Lib.hid hb
  have heq : ((l.length : Int) == (l.length : Int)) = true := by simp
  -- what 'fail' leaves, whatever the fault was
  have HFail : Hid (∀ V, Blk V b 49 #[.slice A l.length c, .int .i64 (l.length : Int), flt] → Calls Tryd.prog 54 #[.pointer (some ⟨b, 0, none⟩), .iface e2 p2] V (fun e w' => ∃ t p, FailPost b V (.slice A l.length c) (.int .i64 (l.length : Int)) (.iface t p) e w')) := fun V hV => by
    rcases hf with ⟨_, e⟩ | ⟨_, t, p, e⟩
    · subst e
      exact (fail_set V b _ _ e2 p2 hV).mono fun _ _ h => ⟨_, _, h⟩
    · subst e
      exact (fail_keep V b _ _ e2 t p2 p hV).mono fun _ _ h => ⟨_, _, h⟩
  clear hf hb
  go_enter Tryd.func62, Tryd.ntmps62
  go_upto_region 1 with (fail)
  go_quiet (fail)
  have HB' : Hid (Blk (w.drewN nq) b 49 #[.slice A l.length c, .int .i64 (l.length : Int), flt]) := HB.out
  have HBt : Hid (But w.heap.size b w (w.drewN nq)) := (But.refl _ _ _).drewN nq
  have HSz : Hid ((w.drewN nq).heap.size = w.heap.size) := rfl
  have g2 : (w.drewN nq).cell? ⟨2, 0, none⟩ = some (.iface e2 p2) := hg2
  clear c0 c1 c2 HB hg2
  generalize w.drewN nq = V at HB' HBt HSz g2 ⊢
  go_wp2_with fail
  refine (HFail.out _ HB'.out).mono ?_
  rintro e W ⟨t, p, rfl, hW, hBW, hsW⟩
  obtain ⟨c0, c1, c2⟩ := three hW
  have HW := Lib.hid hW
  have HBW := Lib.hid (HBt.out.trans (by rw [← HSz.out]; exact hBW))
  have HSW := Lib.hid (hsW.trans HSz.out)
  clear hW hBW hsW HFail HB' HBt HSz g2
  go_wp2
  go_ret
  refine ⟨by rw [HY.out]; rfl, ⟨.iface t p, ?_, .inr ⟨by omega, t, p, rfl⟩⟩, HBW.out, HSW.out⟩
  rw [HM.out]
  exact HW.out

theorem next_any (w : World) (b : Nat) (A : Option Addr) (c : Nat) (l : List UInt8) (i : Nat) (h : Cu w b A c l i) (hr : RowU b w A l) (hE : FErr b w) (hl : l.length ≤ 1048576) :
    Calls Tryd.prog 62 #[.pointer (some ⟨b, 0, none⟩)] w (NextPost w b A c l i) := by
  rcases Nat.lt_or_ge i l.length with hi | hi
  · exact next_in w b A c l i h hr hi hl
  · exact next_out w b A c l i h hE hi

theorem or_pair {a b : Int} (a0 : 0 ≤ a) (a1 : a ≤ 255) (b0 : 0 ≤ b) (b1 : b ≤ 255) : bits .or .i64 (a * 256) b = a * 256 + b := by
  obtain ⟨x, rfl⟩ := Int.eq_ofNat_of_zero_le a0
  obtain ⟨y, rfl⟩ := Int.eq_ofNat_of_zero_le b0
  have hor : (x * 256) ||| y = x * 256 + y := by
    have := Nat.shiftLeft_add_eq_or_of_lt (a := x) (b := y) (i := 8) (by omega)
    rw [Nat.shiftLeft_eq] at this
    exact this.symm
  show IntKind.i64.wrap ((BitVec.ofInt 64 ((x : Int) * 256) ||| BitVec.ofInt 64 (y : Int)).toNat : Int) = _
  rw [show (x : Int) * 256 = ((x * 256 : Nat) : Int) by omega, BitVec.toNat_or, ofInt_u64 (x * 256) (by omega), ofInt_u64 y (by omega), hor]
  rw [IntKind.wrap_i64]
  omega

/-- a number of two bytes was read -/
def PairPost (w : World) (b : Nat) (A : Option Addr) (c : Nat) (l : List UInt8) (i : Nat) (e : Ending) (w' : World) : Prop :=
  e = .returned (.int .i64 (vl l i * 256 + vl l (i + 1))) ∧ Cu w' b A c l (i + 2) ∧ But w.heap.size b w w' ∧ w'.heap.size = w.heap.size

set_option maxRecDepth 100000 in
set_option maxHeartbeats 1000000 in
theorem pair_any (w : World) (b : Nat) (A : Option Addr) (c : Nat) (l : List UInt8) (i : Nat) (h : Cu w b A c l i) (hr : RowU b w A l) (hE : FErr b w) (hl : l.length ≤ 1048576) (hb : b < w.heap.size) :
    Calls Tryd.prog 52 #[.pointer (some ⟨b, 0, none⟩)] w (PairPost w b A c l i) := by
  have x0 := vl_lo l i
  have x1 := vl_hi l i
  have y0 := vl_lo l (i + 1)
  have y1 := vl_hi l (i + 1)
  have HO := Lib.hid (or_pair x0 x1 y0 y1)
  have HN := Lib.hid (next_any w b A c l i h hr hE hl)
  have HR := Lib.hid hr
  have HE := Lib.hid hE
  clear h hr hE
  unfold NextPost at HN
  have HP : Hid (∀ e w', PairPost w b A c l i e w' ↔ (e = .returned (.int .i64 (vl l i * 256 + vl l (i + 1))) ∧ Cu w' b A c l (i + 2) ∧ But w.heap.size b w w' ∧ w'.heap.size = w.heap.size)) := fun _ _ => Iff.rfl
  have HN2 := Lib.hid (fun V (hc : Cu V b A c l (i + 1)) hr hE => next_any V b A c l (i + 1) hc hr hE hl)
  unfold NextPost at HN2
  generalize vl l i = X at x0 x1 HO HN HP
  generalize vl l (i + 1) = Y at y0 y1 HO HN2 HP
  go_enter Tryd.func52, Tryd.ntmps52
  go_wp2_with fail
  refine HN.out.mono ?_
  rintro e V ⟨rfl, hC, hB, hs⟩
  have HR1 := Lib.hid (HR.out.but hB (by omega))
  have HE1 := Lib.hid (HE.out.but hB (by omega))
  have HC := Lib.hid hC
  have HB := Lib.hid hB
  have HS := Lib.hid hs
  clear hC hB hs HN HR HE
  go_wp2_with fail
  refine (HN2.out _ HC.out HR1.out HE1.out).mono ?_
  rintro e W ⟨rfl, hC2, hB2, hs2⟩
  have HC2 := Lib.hid hC2
  have HB2 := Lib.hid (HB.out.trans (by rw [← HS.out]; exact hB2))
  have HS2 := Lib.hid (hs2.trans HS.out)
  clear hC2 hB2 hs2 HN2 HC HB HS HR1 HE1
  go_wp2
  go_ret
  exact (HP.out _ _).2 ⟨by rw [← HO.out]; rfl, HC2.out, HB2.out, HS2.out⟩
end Go.Proofs.YtgihbilpimempaaDoor.fr
