/-
  Merged texts: IAcc0, IMK.
-/
import Derived.Test.YtjmmojjjopjdpaaGreatDoorGFnKeepOf27
import Derived.Test.YtjmmojjjopjdpaaGreatDoorGFnKeepOf20
/-
  A keep under the program's hand: its block, its lists; contract of (*impl.Keep).hasNote.
-/
namespace Go.Proofs.YtjmmojjjopjdpaaGreatDoor.kp
open Go.ChangeShapes Go.WideShapes Go.ChangeAt Go.RowKit
open Go.Proofs.YtjmmojjjopjdpaaGreatDoor.wd Go.Proofs.YtjmmojjjopjdpaaGreatDoor.ow Go.Proofs.YtjmmojjjopjdpaaGreatDoor.rl Go.Proofs.YtjmmojjjopjdpaaGreatDoor.ok Go.Proofs.YtjmmojjjopjdpaaGreatDoor.nb Go.Proofs.YtjmmojjjopjdpaaGreatDoor.nx

/-- a keep in block g, its lists the call's own from B on -/
structure MK (B : Nat) (W : World) (g : Nat) (k : Kp) (a b c : Value) : Prop where
  box : KBox W g k a b c
  own : Own3 B W k a b c
  off : Off g a b c
  gB : B ≤ g
  bW : B ≤ W.heap.size
section
variable {B g : Nat} {W W' : World} {k : Kp} {a b c : Value}
theorem MK.sees (h : MK B W g k a b c) : SeesK W k a b c := ⟨h.own.held.sees, h.own.marks.sees, h.own.inbox.sees⟩
theorem MK.later (h : MK B W g k a b c) (hb : Below W.heap.size W W') : MK B W' g k a b c := ⟨h.box.below hb h.box.lt, h.own.later hb, h.off, h.gB, Nat.le_trans h.bW hb.size⟩
end

set_option maxRecDepth 100000 in
set_option maxHeartbeats 1600000 in
theorem hasNote_any (W : World) (g : Nat) (k : Kp) (a b c : Value) (x : Nt) (hb : KBox W g k a b c) (h : SeesK W k a b c) (hl : k.held.length ≤ 1048576 ∧ k.marks.length ≤ 1048576 ∧ k.inbox.length ≤ 1048576) :
    Calls Tryz.prog 191 #[.pointer (some ⟨g, 0, none⟩), ntV x] W (BoolK W (hasN k.held x.f x.n || hasN k.inbox x.f x.n)) := by
  have hB0 := (Below.refl W.heap.size W).alloc (Nat.le_refl _) (.cells #[.int .i64 x.f, .int .i64 x.n, .int .i64 x.t, .int .i64 x.u, .string x.s] 131)
  have k2 := Blk.new W 131 #[.int .i64 x.f, .int .i64 x.n, .int .i64 x.t, .int .i64 x.u, .string x.s]
  have k3 : KBox _ g k a b c := Blk.alloc (w := W) hb (.cells #[.int .i64 x.f, .int .i64 x.n, .int .i64 x.t, .int .i64 x.u, .string x.s] 131)
  have HN := Lib.hid (fun V => nmark_any x.f x.n x.t x.u x.s V)
  unfold AggPost mark note at HN
  have H1 := Lib.hid (fun V (hV : Below W.heap.size W V) => hasN_any V a k.held (h.held.later hV) hl.1 x.f x.n x.u)
  have H2 := Lib.hid (fun V (hV : Below W.heap.size W V) => hasN_any V c k.inbox (h.inbox.later hV) hl.2.2 x.f x.n x.u)
  unfold BoolK mark at H1 H2
  have HE := Lib.hid (show (hasN k.held x.f x.n || hasN k.inbox x.f x.n) = (hasN k.held x.f x.n || hasN k.inbox x.f x.n) from rfl)
  generalize hasN k.held x.f x.n = p1 at H1 HE ⊢
  generalize hasN k.inbox x.f x.n = p2 at H2 HE ⊢
  obtain ⟨Aa, ca, rfl, _⟩ := h.held
  obtain ⟨Ab, cb, rfl, _⟩ := h.marks
  obtain ⟨Ac, cc, rfl, _⟩ := h.inbox
  clear hb h hl HE
  unfold ntV note
  cases p1 with
  | true =>
    go_enter Tryz.func191, Tryz.ntmps191
    go_upto_region 1 with (fail)
    generalize W.alloc (.cells #[.int .i64 x.f, .int .i64 x.n, .int .i64 x.t, .int .i64 x.u, .string x.s] 131) = V at hB0 k2 k3 ⊢
    obtain ⟨c0, c1, c2, c3, c4⟩ := qa.five k2
    obtain ⟨d0, d1, d2, d3, d4, d5⟩ := qa.six k3
    have HB := Lib.hid hB0
    clear k2 k3 hB0
    refine qa.region (by kernel_rfl) (by kernel_rfl) ?_
    repeat (go_big_quiet_step (first | (go_at_call 181; exact qa.of_below (HN.out _)) | (go_at_call 241; with_reducible exact qa.of_below (H1.out _ (HB.out.trans ((qa.After.h _).mono HB.out.size))))))
    refine wpQuiet_nil ?_
    rintro _ ⟨p, rfl⟩
    have HB2 := Lib.hid (HB.out.trans (p.h.mono HB.out.size))
    clear c0 c1 c2 c3 c4 d0 d1 d2 d3 d4 d5
    go_wp2
    go_ret
    exact ⟨rfl, HB2.out⟩
  | false =>
    go_enter Tryz.func191, Tryz.ntmps191
    go_upto_region 1 with (fail)
    generalize W.alloc (.cells #[.int .i64 x.f, .int .i64 x.n, .int .i64 x.t, .int .i64 x.u, .string x.s] 131) = V at hB0 k2 k3 ⊢
    obtain ⟨c0, c1, c2, c3, c4⟩ := qa.five k2
    obtain ⟨d0, d1, d2, d3, d4, d5⟩ := qa.six k3
    have HB := Lib.hid hB0
    clear k2 k3 hB0
    refine qa.region (by kernel_rfl) (by kernel_rfl) ?_
    repeat (go_big_quiet_step (first | (go_at_call 181; exact qa.of_below (HN.out _)) | (go_at_call 241; with_reducible exact qa.of_below (H1.out _ (HB.out.trans ((qa.After.h _).mono HB.out.size)))) | (go_at_call 241; with_reducible exact qa.of_below (H2.out _ (HB.out.trans ((qa.After.h _).mono HB.out.size))))))
    refine wpQuiet_nil ?_
    rintro _ ⟨p, rfl⟩
    have HB2 := Lib.hid (HB.out.trans (p.h.mono HB.out.size))
    clear c0 c1 c2 c3 c4 d0 d1 d2 d3 d4 d5
    go_wp2
    go_ret
    exact ⟨rfl, HB2.out⟩
end Go.Proofs.YtjmmojjjopjdpaaGreatDoor.kp

/-
  A keep under the program's hand: a list or a number stored back.
-/
namespace Go.Proofs.YtjmmojjjopjdpaaGreatDoor.kp
open Go.ChangeShapes Go.WideShapes Go.ChangeAt Go.RowKit
open Go.Proofs.YtjmmojjjopjdpaaGreatDoor.wd Go.Proofs.YtjmmojjjopjdpaaGreatDoor.ow Go.Proofs.YtjmmojjjopjdpaaGreatDoor.rl Go.Proofs.YtjmmojjjopjdpaaGreatDoor.ok Go.Proofs.YtjmmojjjopjdpaaGreatDoor.nb Go.Proofs.YtjmmojjjopjdpaaGreatDoor.nx

section
variable {B g : Nat} {W W' : World} {k : Kp} {a b c : Value}
theorem blk_row {t : TypeId} {cs : Array Value} {row : Option Nat} (h : Blk W g t cs) (hb : W.grownBy W' row) (hg : row ≠ some g) : Blk W' g t cs := (hb.block g h.lt (fun e => hg e.symm)).trans h
theorem own_off {α : Type} {S : Shape α} {t : TypeId} {v : Value} {l : List α} (h : OwnAt S t B W v l) {p : Addr} (hp : v.ownBlock ≠ some p.block) (x : Value) : OwnAt S t B (W.setCell p x) v l :=
  h.same fun g' hg' => Below.heap_setCell W p x g' (fun e => hp (by rw [hg', e]))
theorem below_row {row : Option Nat} (hg : W.grownBy W' row) (hr : ∀ i, row = some i → B ≤ i) (hB : B ≤ W.heap.size) : Below B W W' :=
  ⟨hg.os, hg.tape, hg.output, hg.size, fun i hi => hg.block i (by omega) (fun e => by have := hr i e.symm; omega)⟩
theorem apart_row {u v : Value} (h : Apart u v) : u.ownBlock = none ∨ u.ownBlock ≠ v.ownBlock := by
  cases hu : u.ownBlock with
  | none => exact .inl rfl
  | some x => exact .inr fun e => h x hu e.symm
theorem from_apart {α : Type} {S : Shape α} {t : TypeId} {u v v' : Value} {l : List α} (hu : OwnAt S t B W u l) (h : Apart u v) (hF : From W v' v) : Apart u v' := fun x e1 e2 => by
  rcases hF x e2 with h1 | h1
  · have := (hu.lt e1).2; omega
  · exact h x e1 h1
theorem from_off {v v' : Value} (hl : g < W.heap.size) (h : v.ownBlock ≠ some g) (hF : From W v' v) : v'.ownBlock ≠ some g := fun e => by
  rcases hF g e with h1 | h1
  · omega
  · exact h h1
theorem MK.mut3 (h : MK B W g k a b c) {l : List Nt} {v' : Value} (hO : OwnAt ntS 131 B W' v' l) (hg : W.grownBy W' a.ownBlock) (hF : From W v' a) :
    MK B (W'.setCell ⟨g, 3, none⟩ v') g { k with held := l } v' b c ∧ Below B W (W'.setCell ⟨g, 3, none⟩ v') := by
  have hb : Below B W W' := below_row hg (fun i e => (h.own.held.lt e).1) h.bW
  have hne := from_off h.box.lt h.off.1 hF
  have box1 : KBox W' g k a b c := blk_row h.box hg h.off.1
  have hb2 := hb.setCell (p := ⟨g, 3, none⟩) h.gB v'
  refine ⟨⟨box1.put 3 v', ⟨own_off hO hne v', own_off (World.ownsRow.kept h.own.marks hg (apart_row h.own.hm.symm)) h.off.2.1 v', own_off (World.ownsRow.kept h.own.inbox hg (apart_row h.own.hi.symm)) h.off.2.2 v', (from_apart h.own.marks h.own.hm.symm hF).symm, (from_apart h.own.inbox h.own.hi.symm hF).symm, h.own.mi⟩, ⟨hne, h.off.2.1, h.off.2.2⟩, h.gB, Nat.le_trans h.bW hb2.size⟩, hb2⟩
theorem MK.mut4 (h : MK B W g k a b c) {l : List Mk} {v' : Value} (hO : OwnAt mkS 164 B W' v' l) (hg : W.grownBy W' b.ownBlock) (hF : From W v' b) :
    MK B (W'.setCell ⟨g, 4, none⟩ v') g { k with marks := l } a v' c ∧ Below B W (W'.setCell ⟨g, 4, none⟩ v') := by
  have hb : Below B W W' := below_row hg (fun i e => (h.own.marks.lt e).1) h.bW
  have hne := from_off h.box.lt h.off.2.1 hF
  have box1 : KBox W' g k a b c := blk_row h.box hg h.off.2.1
  have hb2 := hb.setCell (p := ⟨g, 4, none⟩) h.gB v'
  refine ⟨⟨box1.put 4 v', ⟨own_off (World.ownsRow.kept h.own.held hg (apart_row h.own.hm)) h.off.1 v', own_off hO hne v', own_off (World.ownsRow.kept h.own.inbox hg (apart_row h.own.mi.symm)) h.off.2.2 v', from_apart h.own.held h.own.hm hF, h.own.hi, (from_apart h.own.inbox h.own.mi.symm hF).symm⟩, ⟨h.off.1, hne, h.off.2.2⟩, h.gB, Nat.le_trans h.bW hb2.size⟩, hb2⟩
theorem MK.mut5 (h : MK B W g k a b c) {l : List Nt} {v' : Value} (hO : OwnAt ntS 131 B W' v' l) (hg : W.grownBy W' c.ownBlock) (hF : From W v' c) :
    MK B (W'.setCell ⟨g, 5, none⟩ v') g { k with inbox := l } a b v' ∧ Below B W (W'.setCell ⟨g, 5, none⟩ v') := by
  have hb : Below B W W' := below_row hg (fun i e => (h.own.inbox.lt e).1) h.bW
  have hne := from_off h.box.lt h.off.2.2 hF
  have box1 : KBox W' g k a b c := blk_row h.box hg h.off.2.2
  have hb2 := hb.setCell (p := ⟨g, 5, none⟩) h.gB v'
  refine ⟨⟨box1.put 5 v', ⟨own_off (World.ownsRow.kept h.own.held hg (apart_row h.own.hi)) h.off.1 v', own_off (World.ownsRow.kept h.own.marks hg (apart_row h.own.mi)) h.off.2.1 v', own_off hO hne v', h.own.hm, from_apart h.own.held h.own.hi hF, from_apart h.own.marks h.own.mi hF⟩, ⟨h.off.1, h.off.2.1, hne⟩, h.gB, Nat.le_trans h.bW hb2.size⟩, hb2⟩
theorem MK.set1 (h : MK B W g k a b c) (v : Int) : MK B (W.setCell ⟨g, 1, none⟩ (.int .i64 v)) g { k with time := v } a b c ∧ Below B W (W.setCell ⟨g, 1, none⟩ (.int .i64 v)) := by
  have hb2 := (Below.refl B W).setCell (p := ⟨g, 1, none⟩) h.gB (.int .i64 v)
  exact ⟨⟨h.box.put 1 _, ⟨own_off h.own.held h.off.1 _, own_off h.own.marks h.off.2.1 _, own_off h.own.inbox h.off.2.2 _, h.own.hm, h.own.hi, h.own.mi⟩, h.off, h.gB, Nat.le_trans h.bW hb2.size⟩, hb2⟩
theorem MK.set2 (h : MK B W g k a b c) (v : Int) : MK B (W.setCell ⟨g, 2, none⟩ (.int .i64 v)) g { k with next := v } a b c ∧ Below B W (W.setCell ⟨g, 2, none⟩ (.int .i64 v)) := by
  have hb2 := (Below.refl B W).setCell (p := ⟨g, 2, none⟩) h.gB (.int .i64 v)
  exact ⟨⟨h.box.put 2 _, ⟨own_off h.own.held h.off.1 _, own_off h.own.marks h.off.2.1 _, own_off h.own.inbox h.off.2.2 _, h.own.hm, h.own.hi, h.own.mi⟩, h.off, h.gB, Nat.le_trans h.bW hb2.size⟩, hb2⟩
theorem MK.far (h : MK B W g k a b c) {p : Addr} (hg : g ≠ p.block) (ho : Off p.block a b c) (x : Value) : MK B (W.setCell p x) g k a b c :=
  ⟨h.box.far hg x, ⟨own_off h.own.held ho.1 x, own_off h.own.marks ho.2.1 x, own_off h.own.inbox ho.2.2 x, h.own.hm, h.own.hi, h.own.mi⟩, h.off, h.gB, by simpa using h.bW⟩
end
end Go.Proofs.YtjmmojjjopjdpaaGreatDoor.kp

