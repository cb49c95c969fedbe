/-
  Merged texts: MxL, KeepOwn, HfL, HfSz, HfTo.
-/
import Derived.Test.YtckicpnnclbkpaaGreatDoorE7
namespace Go.Proofs.YtckicpnnclbkpaaGreatDoor.hf
open Go.ChangeShapes Go.WideShapes Go.ChangeAt Go.RowKit
open wd ow rl ok kp
abbrev Mb := Int × ByteArray
def mbF (m : Mb) : List Value := [.int .i64 m.1, .string m.2]
def mbS : Shape Mb := ⟨2, mbF, fun _ => rfl, fun x u hu => by simp [mbF] at hu; rcases hu with rfl | rfl <;> rfl⟩
abbrev mbV (m : Mb) : Value := .agg #[.int .i64 m.1, .string m.2]
theorem mb_at {w : World} {v : Value} {l : List Mb} (h : SeesR mbS w v l) {i : Nat} {x : Mb} (hx : l[i]? = some x) :
  ∃ g c, v = .slice (some ⟨g, 0, none⟩) l.length c ∧ g < w.heap.size ∧ i < l.length ∧ w.cell? ⟨g, i * 2, none⟩ = some (.int .i64 x.1) ∧ w.cell? ⟨g, i * 2 + 1, none⟩ = some (.string x.2) := by
 obtain ⟨g, c, e, hg, hi, hc⟩ := h.at hx
 exact ⟨g, c, e, hg, hi, hc 0 _ rfl, hc 1 _ rfl⟩
theorem infoMb : (Tryz.prog.info? 97).map (fun i => (i.zero, i.size, i.bytes)) = some (some (.agg #[.int .i64 0, .string ⟨#[]⟩]), 2, 24) := by kernel_rfl
def OnePost (w : World) (room : Int) (e : Ending) (w' : World) : Prop := ∃ r : Int, e = .returned (.int .i64 r) ∧ -1 ≤ r ∧ r ≤ room ∧ Below w.heap.size w w'
theorem szMb_one (n : Int) (d : ByteArray) (hd : d.size ≤ maxLen) (room : Int) (h0 : 0 ≤ room) (h1 : room ≤ 1048576) (w : World) :
  Calls Tryz.prog 103 #[.agg #[.int .i64 n, .string d], .int .i64 room] w (OnePost w room) := by
 have hd' : d.size ≤ 9223372036854775807 := hd
 clear hd
 by_cases hr : room - d.size < 0
 ·go_enter Tryz.func103, Tryz.ntmps103
  go_wp2
  go_ret
  exact ⟨_, rfl, by omega, by omega, (Below.refl _ _).alloc (Nat.le_refl _) _⟩
 ·go_enter Tryz.func103, Tryz.ntmps103
  go_wp2
  go_ret
  exact ⟨_, rfl, by omega, by omega, (Below.refl _ _).alloc (Nat.le_refl _) _⟩
def Sizes2 (w : World) (room : Int) (n : Nat) (e : Ending) (w' : World) : Prop := ∃ r : Int, e = .returned (.int .i64 r) ∧ -1 ≤ r ∧ r ≤ room ∧ (0 ≤ r → r + (n : Int) ≤ room) ∧ Below w.heap.size w w'
set_option maxRecDepth 100000 in
set_option maxHeartbeats 1600000 in
theorem szMbs_any (w : World) (v : Value) (l : List Mb) (h : InR mbS w v l) (hz : ∀ x ∈ l, x.2.size ≤ maxLen) (room : Int) (h0 : 0 ≤ room) (h1 : room ≤ 1048576) :
  Calls Tryz.prog 78 #[v, .int .i64 room] w (Sizes2 w room l.length) := by
 have HS := Lib.hid h
 obtain ⟨A, c, rfl, hm, _⟩ := h
 have hm' : l.length ≤ 9223372036854775807 := hm
 have HZ := Lib.hid hz
 clear hm hz
 by_cases hl : room < l.length
 ·go_enter Tryz.func78, Tryz.ntmps78
  go_wp2
  go_ret
  exact ⟨_, rfl, by omega, by omega, by omega, Below.refl _ _⟩
 ·go_enter Tryz.func78, Tryz.ntmps78
  go_wp2
  go_loopw [1, 5] (fun r i wr => ∃ (x : Int) (k : Nat), k ≤ l.length ∧ i = .int .i64 k ∧ r = .int .i64 x ∧ 0 ≤ x ∧ x + (l.length : Int) ≤ room ∧ Below w.heap.size w wr) (fun _ i _ => (l.length + 1 : Nat) - (intOf i).toNat)
  case atStart => exact ⟨_, 0, by omega, rfl, rfl, by omega, by omega, Below.refl _ _⟩
  case round =>
   obtain ⟨x, k, hk, rfl, rfl, x0, x1, hB⟩ := hrel
   by_cases hkl : k < l.length
   ·have hx : l[k]? = some l[k] := List.getElem?_eq_getElem hkl
    have hzm := HZ.out l[k] (List.getElem_mem hkl)
    obtain ⟨g, o, c', e, hg, _, hcell⟩ := (HS.out.later hB).at hx
    injection e with e1 e2 e3
    subst e1; subst e3
    have t0 : wr.cell? ⟨g, o + k * 2, none⟩ = some (.int .i64 l[k].1) := hcell 0 _ rfl
    have t1 : wr.cell? ⟨g, o + k * 2 + 1, none⟩ = some (.string l[k].2) := hcell 1 _ rfl
    generalize l[k] = y at hx hzm t0 t1
    obtain ⟨num, d⟩ := y
    have hk1 : (k : Int) < (l.length : Int) := by omega
    clear hcell hx
    go_wp2_with fail
    refine (szMb_one num d hzm x x0 (by omega) _).mono ?_
    rintro e w2 ⟨r, rfl, r0, r1, hB2⟩
    have HB2 := Lib.hid (hB.trans (hB2.mono hB.size))
    clear hB hB2 t0 t1
    by_cases hr : r < 0
    ·go_wp2
     go_ret
     exact ⟨_, rfl, by omega, by omega, by omega, HB2.out⟩
    ·go_wp2
     go_roundw
     case rel => exact ⟨r, k + 1, by omega, by go_num, rfl, by omega, by omega, HB2.out⟩
     case measure => simp [intOf]; omega
   ·go_wp2
    go_ret
    exact ⟨_, rfl, by omega, by omega, by omega, hB⟩
def MbPost (w : World) (m : Mb) (e : Ending) (w' : World) : Prop := e = .returned (mbV m) ∧ Below w.heap.size w w'
theorem toMb_one (n : Int) (d : ByteArray) (w : World) : Calls Tryz.prog 119 #[.agg #[.int .i64 n, .string d]] w (MbPost w (n, d)) := by
 go_enter Tryz.func119, Tryz.ntmps119
 go_wp2
 refine bodyPost_ret (v := .agg #[.int .i64 n, .string d]) (by simp [results, Tryz.results119, go_sem]) rfl ⟨rfl, ?_⟩
 exact (((Below.refl _ _).alloc (Nat.le_refl _) _).alloc (by simp) _).alloc (by simp; omega) _
def ListMb (w : World) (l : List Mb) (e : Ending) (w' : World) : Prop := ∃ v, e = .returned v ∧ OwnR mbS 97 w w' v l
set_option maxRecDepth 100000 in
set_option maxHeartbeats 1600000 in
theorem toMbs_any (w : World) (v : Value) (l : List Mb) (h : InR mbS w v l) (hl : l.length ≤ 1048576) : Calls Tryz.prog 84 #[v] w (ListMb w l) := by
 obtain ⟨i0, hi, hz0, hz1, hz2⟩ := info_parts infoMb
 have HS := Lib.hid h
 obtain ⟨A, c, rfl, _, _⟩ := h
 go_enter Tryz.func84, Tryz.ntmps84
 go_wp2_with (at_make; refine wpList_make_full _ rfl _ _ 60 rfl w.heap.size 97 i0 _ 2 Tryz.underlying60 hi hz0 hz1 _ _ _ _ l.length rfl rfl rfl rfl (by rw [hz2]; omega) (by unfold maxLen; omega) (Nat.le_refl _) ?_)
 intro w1 hown hgrow
 have HF := Lib.hid (fill_new (S := mbS) hown hgrow)
 clear hown hgrow
 go_wp2
 go_loopw [4] (fun i wr => ∃ k : Nat, k ≤ l.length ∧ i = .int .i64 k ∧ Fill mbS 97 w.heap.size l.length l k wr ∧ Below w.heap.size w wr) (fun i _ => (l.length + 1 : Nat) - (intOf i).toNat)
 case atStart => exact ⟨0, by omega, rfl, HF.out⟩
 case round =>
  obtain ⟨k, hk, rfl, hF, hB⟩ := hrel
  clear HF
  by_cases hkl : k < l.length
  ·have hx : l[k]? = some l[k] := List.getElem?_eq_getElem hkl
   obtain ⟨g, o, c', e, hg, _, hcell⟩ := (HS.out.later hB).at hx
   injection e with e1 e2 e3
   subst e1; subst e3
   have t0 : wr.cell? ⟨g, o + k * 2, none⟩ = some (.int .i64 l[k].1) := hcell 0 _ rfl
   have t1 : wr.cell? ⟨g, o + k * 2 + 1, none⟩ = some (.string l[k].2) := hcell 1 _ rfl
   generalize l[k] = y at hx t0 t1
   obtain ⟨num, d⟩ := y
   have hk1 : (k : Int) < (l.length : Int) := by omega
   clear hcell
   go_wp2_with fail
   refine (toMb_one num d _).mono ?_
   rintro e w2 ⟨rfl, hB2⟩
   have hF2 := hF.later hB2
   have hB22 := hB.trans (hB2.mono hB.size)
   obtain ⟨⟨x0, c0⟩, f0⟩ := hF2.cell hkl (j := 0) (by decide)
   obtain ⟨⟨x1, c1⟩, f1⟩ := hF2.cell hkl (j := 1) (by decide)
   change w2.cell? ⟨w.heap.size, k * 2, none⟩ = _ at c0
   change w2.frozen? ⟨w.heap.size, k * 2, none⟩ = _ at f0
   change w2.cell? ⟨w.heap.size, k * 2 + 1, none⟩ = _ at c1
   change w2.frozen? ⟨w.heap.size, k * 2 + 1, none⟩ = _ at f1
   have R := Lib.hid (hF2.put hkl hx)
   have HB3 := Lib.hid (putAll_below (Nat.le_refl _) (mbF (num, d)) (k * 2) hB22)
   clear hF hB hB2 hF2 hB22 hx t0 t1
   go_wp2
   go_roundw
   case rel => exact ⟨k + 1, by omega, by go_num, R.out, HB3.out⟩
   case measure => simp [intOf]; omega
  ·obtain rfl : k = l.length := by omega
   have R := Lib.hid (hF.own (Nat.le_refl _) hB (by unfold maxLen; omega))
   clear hF hB
   go_wp2
   go_ret
   exact ⟨_, rfl, R.out⟩
theorem eqMb_same (n : Int) (d : ByteArray) (w : World) : Calls Tryz.prog 147 #[.agg #[.int .i64 n, .string d], .agg #[.int .i64 n, .string d]] w (YesPost w) := by
 go_enter Tryz.func147, Tryz.ntmps147
 go_wp2
 go_ret
 exact ⟨rfl, ((Below.refl _ _).alloc (Nat.le_refl _) _).alloc (by simp) _⟩
set_option maxRecDepth 100000 in
set_option maxHeartbeats 1600000 in
theorem eqMbs_same (w : World) (v1 v2 : Value) (l : List Mb) (h1 : SeesR mbS w v1 l) (h2 : SeesR mbS w v2 l) (hl : l.length ≤ 1048576) :
  Calls Tryz.prog 101 #[v1, v2] w (YesPost w) := by
 have H1 := Lib.hid h1
 have H2 := Lib.hid h2
 obtain ⟨A1, c1, rfl, _⟩ := h1
 obtain ⟨A2, c2, rfl, _⟩ := h2
 go_enter Tryz.func101, Tryz.ntmps101
 go_wp2
 go_loopw [5] (fun i wr => ∃ k : Nat, k ≤ l.length ∧ i = .int .i64 k ∧ Below w.heap.size w wr) (fun i _ => (l.length + 1 : Nat) - (intOf i).toNat)
 case atStart => exact ⟨0, by omega, rfl, Below.refl _ _⟩
 case round =>
  obtain ⟨k, hk, rfl, hB⟩ := hrel
  by_cases hkl : k < l.length
  ·have hx : l[k]? = some l[k] := List.getElem?_eq_getElem hkl
   obtain ⟨g1, c1', e1, hg1, _, a0, a1⟩ := mb_at (H1.out.later hB) hx
   obtain ⟨g2, c2', e2, hg2, _, b0, b1⟩ := mb_at (H2.out.later hB) hx
   injection e1 with e1 _ q1
   injection e2 with e2 _ q2
   subst e1; subst e2; subst q1; subst q2
   generalize l[k] = y at a0 a1 b0 b1
   obtain ⟨num, d⟩ := y
   have hk0 : (0 : Int) ≤ (k : Int) := by omega
   have hk1 : (k : Int) < (l.length : Int) := by omega
   have HE := Lib.hid (fun V => eqMb_same num d V)
   clear hx
   go_wp2_with fail
   go_region_held3 (fun w' => w'.cell? ⟨g1, k * 2, none⟩ = some (.int .i64 num) ∧ w'.cell? ⟨g1, k * 2 + 1, none⟩ = some (.string d) ∧ w'.cell? ⟨g2, k * 2, none⟩ = some (.int .i64 num) ∧ w'.cell? ⟨g2, k * 2 + 1, none⟩ = some (.string d)) (first | exact ⟨a0, a1, b0, b1⟩ | exact ⟨s0, s1, r0, r1⟩ | go_keep) ((go_at_call 147; refine (HE.out _).mono ?_; rintro e w2 ⟨rfl, hB2⟩; have s0 := (hB2.cell (p := ⟨g1, k * 2, none⟩) hg1).trans a0; have s1 := (hB2.cell (p := ⟨g1, k * 2 + 1, none⟩) hg1).trans a1; have r0 := (hB2.cell (p := ⟨g2, k * 2, none⟩) hg2).trans b0; have r1 := (hB2.cell (p := ⟨g2, k * 2 + 1, none⟩) hg2).trans b1))
   have R := Lib.hid (hB.drew.trans (hB2.mono hB.size))
   clear hB hB2 s0 s1 r0 r1 a0 a1 b0 b1
   go_wp2
   go_roundw
   case rel => exact ⟨k + 1, by omega, by go_num, R.out⟩
   case measure => simp [intOf]; omega
  ·obtain rfl : k = l.length := by omega
   go_wp2
   go_ret
   exact ⟨rfl, hB⟩
end Go.Proofs.YtckicpnnclbkpaaGreatDoor.hf

namespace Go.Proofs.YtckicpnnclbkpaaGreatDoor.kp
open Go.ChangeShapes Go.WideShapes Go.ChangeAt Go.RowKit
open wd ow rl ok
def Apart (u v : Value) : Prop := ∀ g, u.ownBlock = some g → v.ownBlock = some g → False
theorem Apart.symm {u v : Value} (h : Apart u v) : Apart v u := fun g a b => h g b a
structure OwnK (w0 w : World) (k : Kp) (vh vm vi : Value) : Prop where
 held : OwnR ntS 105 w0 w vh k.held
 marks : OwnR mkS 108 w0 w vm k.marks
 inbox : OwnR ntS 105 w0 w vi k.inbox
 hm : Apart vh vm
 hi : Apart vh vi
 mi : Apart vm vi
section
variable {w0 w w1 : World} {k : Kp} {vh vm vi : Value}
theorem OwnK.later (h : OwnK w0 w k vh vm vi) (hb : Below w.heap.size w w1) : OwnK w0 w1 k vh vm vi := ⟨h.held.later hb, h.marks.later hb, h.inbox.later hb, h.hm, h.hi, h.mi⟩
theorem OwnK.from_ (h : OwnK w w1 k vh vm vi) (hb : Below w0.heap.size w0 w) : OwnK w0 w1 k vh vm vi := ⟨h.held.from_ hb, h.marks.from_ hb, h.inbox.from_ hb, h.hm, h.hi, h.mi⟩
theorem OwnK.sees (h : OwnK w0 w k vh vm vi) : SeesK w k vh vm vi := ⟨h.held.sees, h.marks.sees, h.inbox.sees⟩
theorem OwnK.bel (h : OwnK w0 w k vh vm vi) : Below w0.heap.size w0 w := h.held.2
end
theorem OwnR.form {α : Type} {S : Shape α} {t : TypeId} {w0 w : World} {v : Value} {l : List α} (h : OwnR S t w0 w v l) : ∃ A c, v = .slice A l.length c := by
 obtain ⟨A, c, e, _⟩ := h.sees
 exact ⟨A, c, e⟩
def KeepPost (w : World) (k : Kp) (e : Ending) (w' : World) : Prop := ∃ vh vm vi, e = .returned (kpV k.id k.time k.next vh vm vi) ∧ OwnK w w' k vh vm vi
def OwnAt {α : Type} (S : Shape α) (t : TypeId) (B : Nat) (W : World) (v : Value) (l : List α) : Prop := W.ownsRow B t S.n v l.length (l.flatMap S.f)
theorem OwnAt.set {α : Type} {S : Shape α} {t : TypeId} {B : Nat} {W : World} {v : Value} {l : List α} (h : OwnAt S t B W v l) {p : Addr} (hp : p.block < B) (x : Value) : OwnAt S t B (W.setCell p x) v l := by
 refine h.kept (row := some p.block) ⟨rfl, rfl, rfl, by simp, fun k _ hne => Below.heap_setCell W p x k (fun e => hne (by rw [e]))⟩ ?_
 cases hv : v.ownBlock with
 | none => exact .inl rfl
 | some k => exact .inr (fun e => by have := (h.lt k hv).1; injection e; omega)
theorem OwnAt.later {α : Type} {S : Shape α} {t : TypeId} {B : Nat} {W W' : World} {v : Value} {l : List α} (h : OwnAt S t B W v l) (hb : Below W.heap.size W W') : OwnAt S t B W' v l := by
 refine World.ownsRow.kept h (row := none) ⟨hb.os, hb.tape, hb.output, hb.size, fun i hi _ => hb.block i hi⟩ ?_
 cases hv : v.ownBlock with
 | none => exact .inl rfl
 | some k => exact .inr (by simp)
theorem OwnAt.down {α : Type} {S : Shape α} {t : TypeId} {B B' : Nat} {W : World} {v : Value} {l : List α} (h : OwnAt S t B W v l) (hB : B' ≤ B) : OwnAt S t B' W v l := by
 refine ⟨h.1, ?_⟩
 rcases h.2 with h' | ⟨g, cap, cur, h1, h2, h3⟩
 ·exact .inl h'
 ·exact .inr ⟨g, cap, cur, h1, by omega, h3⟩
theorem res_cells {V : World} {R : Nat} {a b c d e f : Value} (h : Blk V R 39 #[a, b, c, d, e, f]) : V.cell? ⟨R, 0, none⟩ = some a ∧ V.cell? ⟨R, 1, none⟩ = some b ∧ V.cell? ⟨R, 2, none⟩ = some c ∧ V.cell? ⟨R, 3, none⟩ = some d ∧ V.cell? ⟨R, 4, none⟩ = some e ∧ V.cell? ⟨R, 5, none⟩ = some f ∧
  V.frozen? ⟨R, 0, none⟩ = false ∧ V.frozen? ⟨R, 1, none⟩ = false ∧ V.frozen? ⟨R, 2, none⟩ = false ∧ V.frozen? ⟨R, 3, none⟩ = false ∧ V.frozen? ⟨R, 4, none⟩ = false ∧ V.frozen? ⟨R, 5, none⟩ = false :=
 ⟨h.cell 0, h.cell 1, h.cell 2, h.cell 3, h.cell 4, h.cell 5, h.frozen 0, h.frozen 1, h.frozen 2, h.frozen 3, h.frozen 4, h.frozen 5⟩
abbrev put6 (V : World) (R : Nat) (a b c d e f : Value) : World := (((((V.setCell ⟨R, 0, none⟩ a).setCell ⟨R, 1, none⟩ b).setCell ⟨R, 2, none⟩ c).setCell ⟨R, 3, none⟩ d).setCell ⟨R, 4, none⟩ e).setCell ⟨R, 5, none⟩ f
theorem put6_blk {V : World} {R : Nat} {a b c d e f a' b' c' d' e' f' : Value} (h : Blk V R 39 #[a, b, c, d, e, f]) : Blk (put6 V R a' b' c' d' e' f') R 39 #[a', b', c', d', e', f'] :=
 (((((h.put 0 a').put 1 b').put 2 c').put 3 d').put 4 e').put 5 f'
theorem put6_below {w V : World} {B R : Nat} (hR : B ≤ R) (h : Below B w V) (a b c d e f : Value) : Below B w (put6 V R a b c d e f) :=
 (((((h.setCell (p := ⟨R, 0, none⟩) hR a).setCell (p := ⟨R, 1, none⟩) hR b).setCell (p := ⟨R, 2, none⟩) hR c).setCell (p := ⟨R, 3, none⟩) hR d).setCell (p := ⟨R, 4, none⟩) hR e).setCell (p := ⟨R, 5, none⟩) hR f
theorem OwnAt.put6 {α : Type} {S : Shape α} {t : TypeId} {B : Nat} {W : World} {v : Value} {l : List α} (h : OwnAt S t B W v l) {R : Nat} (hR : R < B) (a b c d e f : Value) : OwnAt S t B (put6 W R a b c d e f) v l :=
 (((((h.set (p := ⟨R, 0, none⟩) hR a).set (p := ⟨R, 1, none⟩) hR b).set (p := ⟨R, 2, none⟩) hR c).set (p := ⟨R, 3, none⟩) hR d).set (p := ⟨R, 4, none⟩) hR e).set (p := ⟨R, 5, none⟩) hR f
theorem OwnAt.same {α : Type} {S : Shape α} {t : TypeId} {B : Nat} {W W' : World} {v : Value} {l : List α} (h : OwnAt S t B W v l) (hs : ∀ g, v.ownBlock = some g → W'.heap[g]? = W.heap[g]?) : OwnAt S t B W' v l := by
 refine ⟨h.1, ?_⟩
 rcases h.2 with h' | ⟨g, cap, cur, rfl, h2, h3, h4⟩
 ·exact .inl h'
 ·exact .inr ⟨g, cap, cur, rfl, h2, (hs g rfl).trans h3, h4⟩
theorem OwnAt.lt {α : Type} {S : Shape α} {t : TypeId} {B : Nat} {W : World} {v : Value} {l : List α} (h : OwnAt S t B W v l) {g : Nat} (hg : v.ownBlock = some g) : B ≤ g ∧ g < W.heap.size := World.ownsRow.lt h g hg
theorem OwnAt.sees {α : Type} {S : Shape α} {t : TypeId} {B : Nat} {W : World} {v : Value} {l : List α} (h : OwnAt S t B W v l) : SeesR S W v l := by
 rcases h.2 with ⟨rfl, hn⟩ | ⟨g, cap, cur, rfl, hb, hh, hn, hm, hs, ht⟩
 ·exact ⟨none, 0, by rw [hn], .inl ⟨rfl, rfl, List.eq_nil_of_length_eq_zero hn⟩⟩
 ·refine ⟨_, cap, rfl, .inr ⟨g, rfl, (h.lt rfl).2, fun i x hx j u hu => ?_⟩⟩
  have hj : j < S.n := by have := (List.getElem?_eq_some_iff.1 hu).1; rwa [S.len] at this
  have hf := flat_at S.len l i x hx j hj
  rw [hu] at hf
  have hi := (List.getElem?_eq_some_iff.1 hf).1
  rw [World.ownsRow.cellAt (g := g) (cap := cap) h _ (by rwa [flat_len S.len] at hi), hf]
end Go.Proofs.YtckicpnnclbkpaaGreatDoor.kp

namespace Go.Proofs.YtckicpnnclbkpaaGreatDoor.hf
open Go.ChangeShapes Go.WideShapes Go.ChangeAt Go.RowKit Go.Deep
open wd ow rl ok kp
structure Hf where
 f : Int
 n : Int
 t : Int
 u : Int
 z : Int
 got : List Mb
structure Hr where
 f : Int
 n : Int
 t : Int
 u : Int
 z : Int
 A : Option Addr
 m : Nat
 c : Nat
abbrev Hr.v (r : Hr) : Value := .slice r.A r.m r.c
def hrF (x : Hr) : List Value := [.int .i64 x.f, .int .i64 x.n, .int .i64 x.t, .int .i64 x.u, .int .i64 x.z, x.v]
def hrS : Shape Hr := ⟨6, hrF, fun _ => rfl, fun x u hu => by simp [hrF] at hu; rcases hu with rfl | rfl | rfl | rfl | rfl | rfl <;> rfl⟩
def Nums6 (r : Hr) (h : Hf) : Prop := r.f = h.f ∧ r.n = h.n ∧ r.t = h.t ∧ r.u = h.u ∧ r.z = h.z
abbrev hfV (h : Hf) (g : Value) : Value := .agg #[.int .i64 h.f, .int .i64 h.n, .int .i64 h.t, .int .i64 h.u, .int .i64 h.z, g]
def SeesH (w : World) (v : Value) (l : List Hf) : Prop :=
 ∃ lr : List Hr, SeesR hrS w v lr ∧ lr.length = l.length ∧ ∀ (i : Nat) (r : Hr) (h : Hf), lr[i]? = some r → l[i]? = some h → Nums6 r h ∧ SeesR mbS w r.v h.got
def InH (w : World) (v : Value) (l : List Hf) : Prop :=
 ∃ lr : List Hr, InR hrS w v lr ∧ lr.length = l.length ∧ (∀ (i : Nat) (r : Hr) (h : Hf), lr[i]? = some r → l[i]? = some h → Nums6 r h ∧ InR mbS w r.v h.got) ∧ ∀ h ∈ l, ∀ m ∈ h.got, m.2.size ≤ maxLen
section
variable {w w' : World} {v : Value} {l : List Hf}
theorem SeesH.later (h : SeesH w v l) (hB : Below w.heap.size w w') : SeesH w' v l := by
 obtain ⟨lr, h1, h2, h3⟩ := h
 exact ⟨lr, h1.later hB, h2, fun i r x hr hx => ⟨(h3 i r x hr hx).1, (h3 i r x hr hx).2.later hB⟩⟩
theorem InH.later (h : InH w v l) (hB : Below w.heap.size w w') : InH w' v l := by
 obtain ⟨lr, h1, h2, h3, h4⟩ := h
 exact ⟨lr, h1.later hB, h2, fun i r x hr hx => ⟨(h3 i r x hr hx).1, (h3 i r x hr hx).2.later hB⟩, h4⟩
theorem SeesH.form (h : SeesH w v l) : ∃ A c, v = .slice A l.length c := by
 obtain ⟨lr, ⟨A, c, rfl, _⟩, h2, _⟩ := h
 exact ⟨A, c, by rw [h2]⟩
theorem InH.form (h : InH w v l) : ∃ A c, v = .slice A l.length c ∧ l.length ≤ maxLen := by
 obtain ⟨lr, ⟨A, c, rfl, hm, _⟩, h2, _⟩ := h
 exact ⟨A, c, by rw [h2], by rw [← h2]; exact hm⟩
theorem SeesH.at (h : SeesH w v l) {i : Nat} {x : Hf} (hx : l[i]? = some x) :
  ∃ g c A c2, v = .slice (some ⟨g, 0, none⟩) l.length c ∧ g < w.heap.size ∧ i < l.length ∧ w.cell? ⟨g, i * 6, none⟩ = some (.int .i64 x.f) ∧ w.cell? ⟨g, i * 6 + 1, none⟩ = some (.int .i64 x.n) ∧ w.cell? ⟨g, i * 6 + 2, none⟩ = some (.int .i64 x.t) ∧ w.cell? ⟨g, i * 6 + 3, none⟩ = some (.int .i64 x.u) ∧ w.cell? ⟨g, i * 6 + 4, none⟩ = some (.int .i64 x.z) ∧ w.cell? ⟨g, i * 6 + 5, none⟩ = some (.slice A x.got.length c2) ∧ SeesR mbS w (.slice A x.got.length c2) x.got := by
 obtain ⟨lr, h1, h2, h3⟩ := h
 have hi := (List.getElem?_eq_some_iff.mp hx).1
 have hr : lr[i]? = some (lr[i]'(by omega)) := List.getElem?_eq_getElem (by omega)
 obtain ⟨⟨e0, e1, e2, e3, e4⟩, hg⟩ := h3 i _ x hr hx
 obtain ⟨g, c, rfl, hlt, _, hc⟩ := h1.at hr
 have c0 := hc 0 _ rfl
 have c1 := hc 1 _ rfl
 have c2 := hc 2 _ rfl
 have c3 := hc 3 _ rfl
 have c4 := hc 4 _ rfl
 have c5 := hc 5 _ rfl
 generalize lr[i]'(by omega) = r at e0 e1 e2 e3 e4 hg c0 c1 c2 c3 c4 c5
 have hg' := hg
 obtain ⟨A, c', e, _⟩ := hg
 obtain ⟨f, n, t, u, z, A', m', c''⟩ := r
 injection e with q1 q2 q3
 dsimp only at e0 e1 e2 e3 e4 q1 q2 q3
 subst e0; subst e1; subst e2; subst e3; subst e4; subst q1; subst q2; subst q3
 exact ⟨g, c, _, _, by rw [h2], hlt, hi, c0, c1, c2, c3, c4, c5, hg'⟩
theorem InH.at (h : InH w v l) {i : Nat} {x : Hf} (hx : l[i]? = some x) :
  ∃ g o c A c2, v = .slice (some ⟨g, o, none⟩) l.length c ∧ g < w.heap.size ∧ i < l.length ∧ w.cell? ⟨g, o + i * 6, none⟩ = some (.int .i64 x.f) ∧ w.cell? ⟨g, o + i * 6 + 1, none⟩ = some (.int .i64 x.n) ∧ w.cell? ⟨g, o + i * 6 + 2, none⟩ = some (.int .i64 x.t) ∧ w.cell? ⟨g, o + i * 6 + 3, none⟩ = some (.int .i64 x.u) ∧ w.cell? ⟨g, o + i * 6 + 4, none⟩ = some (.int .i64 x.z) ∧ w.cell? ⟨g, o + i * 6 + 5, none⟩ = some (.slice A x.got.length c2) ∧ InR mbS w (.slice A x.got.length c2) x.got ∧ ∀ m ∈ x.got, m.2.size ≤ maxLen := by
 obtain ⟨lr, h1, h2, h3, h4⟩ := h
 have hi := (List.getElem?_eq_some_iff.mp hx).1
 have hr : lr[i]? = some (lr[i]'(by omega)) := List.getElem?_eq_getElem (by omega)
 obtain ⟨⟨e0, e1, e2, e3, e4⟩, hg⟩ := h3 i _ x hr hx
 obtain ⟨g, o, c, rfl, hlt, _, hc⟩ := h1.at hr
 have c0 := hc 0 _ rfl
 have c1 := hc 1 _ rfl
 have c2 := hc 2 _ rfl
 have c3 := hc 3 _ rfl
 have c4 := hc 4 _ rfl
 have c5 := hc 5 _ rfl
 generalize lr[i]'(by omega) = r at e0 e1 e2 e3 e4 hg c0 c1 c2 c3 c4 c5
 have hg' := hg
 obtain ⟨A, c', e, _⟩ := hg
 obtain ⟨f, n, t, u, z, A', m', c''⟩ := r
 injection e with q1 q2 q3
 dsimp only at e0 e1 e2 e3 e4 q1 q2 q3
 subst e0; subst e1; subst e2; subst e3; subst e4; subst q1; subst q2; subst q3
 exact ⟨g, o, c, _, _, by rw [h2], hlt, hi, c0, c1, c2, c3, c4, c5, hg', h4 x (List.mem_of_getElem? hx)⟩
theorem seesH_nil (w : World) : SeesH w (.slice none 0 0) [] := ⟨[], sees_nil w, rfl, fun i r h hr => by simp at hr⟩
end
structure OwnHs (w0 w : World) (v : Value) (lr : List Hr) (l : List Hf) : Prop where
 row : OwnR hrS 62 w0 w v lr
 len : lr.length = l.length
 got : ∀ (i : Nat) (r : Hr) (h : Hf), lr[i]? = some r → l[i]? = some h → Nums6 r h ∧ OwnAt mbS 97 w0.heap.size w r.v h.got
 far : ∀ (i : Nat) (r : Hr), lr[i]? = some r → Apart v r.v
 apart : ∀ (i j : Nat) (r r' : Hr), i ≠ j → lr[i]? = some r → lr[j]? = some r' → Apart r.v r'.v
theorem OwnHs.sees {w0 w : World} {v : Value} {lr : List Hr} {l : List Hf} (h : OwnHs w0 w v lr l) : SeesH w v l :=
 ⟨lr, h.row.sees, h.len, fun i r x hr hx => ⟨(h.got i r x hr hx).1, OwnR.sees (w0 := w0) (t := 97) ⟨(h.got i r x hr hx).2, h.row.2⟩⟩⟩
theorem OwnHs.later {w0 w w' : World} {v : Value} {lr : List Hr} {l : List Hf} (h : OwnHs w0 w v lr l) (hB : Below w.heap.size w w') : OwnHs w0 w' v lr l :=
 ⟨h.row.later hB, h.len, fun i r x hr hx => ⟨(h.got i r x hr hx).1, (h.got i r x hr hx).2.later hB⟩, h.far, h.apart⟩
theorem OwnHs.bel {w0 w : World} {v : Value} {lr : List Hr} {l : List Hf} (h : OwnHs w0 w v lr l) : Below w0.heap.size w0 w := h.row.2
theorem cells_h : Tryz.prog.cellsOf 88 = 6 := by kernel_rfl
theorem cells_x : Tryz.prog.cellsOf 147 = 2 := by kernel_rfl
theorem cells_kr : Tryz.prog.cellsOf 26 = 5 := by kernel_rfl
section
variable {H : Type} {enc : TypeId × Value → H} {w : World} {base b0 : Nat} {r : Reach} {spare : Nat → Bool} {held : Bool}
set_option maxRecDepth 100000 in
theorem mbs_in {fuel : Nat} {c : Value} {x : DataW H × List MemPlace} (h : DataW.trod enc Tryz.prog w base spare held fuel 86 [c] = some x) : ∃ l : List Mb, InR mbS w c l ∧ ∀ x ∈ l, x.2.size ≤ maxLen := by
 rcases open_slice Tryz.underlying86 h with ⟨hcs, _⟩ | ⟨a, len, cap, m, n, D, Pl, hcs, hb, hl, hm, hmm, hx, hi⟩
 ·injection hcs with hcs _
  subst hcs
  exact ⟨[], ⟨none, 0, rfl, by simp, fun h => absurd h (by simp)⟩, fun x hx => by simp at hx⟩
 ·injection hcs with hcs _
  subst hcs
  have hlm : len ≤ m := by rw [hmm]; split <;> omega
  refine rows_in (S := mbS) (by decide) hm hl (fun i hilt => ?_)
  obtain ⟨cs', hc, ht⟩ := hi i (by omega)
  rw [cells_x] at hc
  obtain ⟨_, hcl, hat⟩ := World.cells?_some hc
  obtain ⟨xs, n', _, _, _, hl5, hg⟩ := DataW.trod_struct Tryz.underlying147 ht
  match cs', hcl with
  | [c0, c1], _ =>
   have h0 := hg 0 _ rfl
   have h1 := hg 1 _ rfl
   have j0 : DataW.trod enc Tryz.prog w base spare held n' 3 [c0] = xs[0]? := h0
   have j1 : DataW.trod enc Tryz.prog w base spare held n' 9 [c1] = xs[1]? := h1
   have hl5' : xs.length = 2 := hl5
   rw [List.getElem?_eq_getElem (by omega)] at j0 j1
   obtain ⟨i0, e0, _, _⟩ := DataW.trod_int Tryz.underlying3 j0
   obtain ⟨s, e1, _, hs⟩ := DataW.trod_string Tryz.underlying9 j1
   simp at e0 e1
   subst e0; subst e1
   refine ⟨(i0, s), fun j u hu => ?_, hs⟩
   have hj : j < 2 := (List.getElem?_eq_some_iff.1 hu).1
   have := hat j hj
   rw [Go.Deep.add_add] at this
   rw [show mbS.n = 2 from rfl, this]
   exact hu
set_option maxRecDepth 100000 in
theorem halves_in {fuel : Nat} {c : Value} {x : DataW H × List MemPlace} (h : DataW.trod enc Tryz.prog w base spare held fuel 24 [c] = some x) : ∃ l : List Hf, InH w c l := by
 have key : ∃ lr : List Hr, InR hrS w c lr ∧ ∀ r ∈ lr, ∃ got : List Mb, InR mbS w r.v got ∧ ∀ m ∈ got, m.2.size ≤ maxLen := by
  rcases open_slice Tryz.underlying24 h with ⟨hcs, _⟩ | ⟨a, len, cap, m, n, D, Pl, hcs, hb, hl, hm, hmm, hx, hi⟩
  ·injection hcs with hcs _
   subst hcs
   exact ⟨[], ⟨none, 0, rfl, by simp, fun h => absurd h (by simp)⟩, fun x hx => by simp at hx⟩
  ·injection hcs with hcs _
   subst hcs
   have hlm : len ≤ m := by rw [hmm]; split <;> omega
   refine rows_in (S := hrS) (by decide) hm hl (fun i hilt => ?_)
   obtain ⟨cs', hc, ht⟩ := hi i (by omega)
   rw [cells_h] at hc
   obtain ⟨_, hcl, hat⟩ := World.cells?_some hc
   obtain ⟨xs, n', _, _, _, hl5, hg⟩ := DataW.trod_struct Tryz.underlying88 ht
   match cs', hcl with
   | [c0, c1, c2, c3, c4, c5], _ =>
    have h0 := hg 0 _ rfl
    have h1 := hg 1 _ rfl
    have h2 := hg 2 _ rfl
    have h3 := hg 3 _ rfl
    have h4 := hg 4 _ rfl
    have h5 := hg 5 _ rfl
    have j0 : DataW.trod enc Tryz.prog w base spare held n' 3 [c0] = xs[0]? := h0
    have j1 : DataW.trod enc Tryz.prog w base spare held n' 3 [c1] = xs[1]? := h1
    have j2 : DataW.trod enc Tryz.prog w base spare held n' 3 [c2] = xs[2]? := h2
    have j3 : DataW.trod enc Tryz.prog w base spare held n' 3 [c3] = xs[3]? := h3
    have j4 : DataW.trod enc Tryz.prog w base spare held n' 3 [c4] = xs[4]? := h4
    have j5 : DataW.trod enc Tryz.prog w base spare held n' 86 [c5] = xs[5]? := h5
    have hl5' : xs.length = 6 := hl5
    rw [List.getElem?_eq_getElem (by omega)] at j0 j1 j2 j3 j4 j5
    obtain ⟨i0, e0, _, _⟩ := DataW.trod_int Tryz.underlying3 j0
    obtain ⟨i1, e1, _, _⟩ := DataW.trod_int Tryz.underlying3 j1
    obtain ⟨i2, e2, _, _⟩ := DataW.trod_int Tryz.underlying3 j2
    obtain ⟨i3, e3, _, _⟩ := DataW.trod_int Tryz.underlying3 j3
    obtain ⟨i4, e4, _, _⟩ := DataW.trod_int Tryz.underlying3 j4
    obtain ⟨got, hgot, hz⟩ := mbs_in j5
    have hgot' := hgot
    obtain ⟨A, cc, e5, _⟩ := hgot'
    simp at e0 e1 e2 e3 e4
    subst e0; subst e1; subst e2; subst e3; subst e4; subst e5
    refine ⟨⟨i0, i1, i2, i3, i4, A, got.length, cc⟩, fun j u hu => ?_, got, hgot, hz⟩
    have hj : j < 6 := (List.getElem?_eq_some_iff.1 hu).1
    have := hat j hj
    rw [Go.Deep.add_add] at this
    rw [show hrS.n = 6 from rfl, this]
    exact hu
 obtain ⟨lr, h1, h2⟩ := key
 obtain ⟨l, hl, hP⟩ := grow_list (P := fun i (h : Hf) => ∀ r, lr[i]? = some r → Nums6 r h ∧ InR mbS w r.v h.got ∧ ∀ m ∈ h.got, m.2.size ≤ maxLen) lr.length (fun i hi => by
  obtain ⟨got, g1, g2⟩ := h2 lr[i] (List.getElem_mem hi)
  refine ⟨⟨lr[i].f, lr[i].n, lr[i].t, lr[i].u, lr[i].z, got⟩, fun r hr => ?_⟩
  rw [List.getElem?_eq_getElem hi] at hr
  injection hr with hr
  subst hr
  exact ⟨⟨rfl, rfl, rfl, rfl, rfl⟩, g1, g2⟩)
 refine ⟨l, lr, h1, hl.symm, fun i r x hr hx => ⟨(hP i x hx r hr).1, (hP i x hx r hr).2.1⟩, fun x hx => ?_⟩
 obtain ⟨i, hi, rfl⟩ := List.mem_iff_getElem.mp hx
 exact (hP i _ (List.getElem?_eq_getElem hi) lr[i] (List.getElem?_eq_getElem (by omega))).2.2
set_option maxRecDepth 100000 in
theorem keeper_in {v : Value} {d : DataW H} {p : List MemPlace} (hv : Value.okWide Tryz.prog w r b0 26 v) (h : DataW.Trod enc Tryz.prog w base spare held 26 v d p) :
  ∃ (id : Int) (up : Bool) (s : ByteArray) (f : Int) (hv : Value) (l : List Hf), v = .agg #[.int .i64 id, .bool up, .string s, .int .i64 f, hv] ∧ s.size ≤ maxLen ∧ InH w hv l := by
 obtain ⟨cs, rfl, hsz⟩ := okWide_struct Tryz.underlying26 hv
 obtain ⟨l⟩ := cs
 match l, hsz.trans cells_kr with
 | [c0, c1, c2, c3, c4], _ =>
  obtain ⟨fuel, hf⟩ := h
  obtain ⟨xs, n, _, _, _, hl6, hg⟩ := DataW.trod_struct Tryz.underlying26 hf
  have h0 := hg 0 _ rfl
  have h1 := hg 1 _ rfl
  have h2 := hg 2 _ rfl
  have h3 := hg 3 _ rfl
  simp only [Value.cells] at h0 h1 h2 h3
  have j0 : DataW.trod enc Tryz.prog w base spare held n 3 [c0] = xs[0]? := h0
  have j1 : DataW.trod enc Tryz.prog w base spare held n 4 [c1] = xs[1]? := h1
  have j2 : DataW.trod enc Tryz.prog w base spare held n 23 [c2, c3] = xs[2]? := h2
  have j3 : DataW.trod enc Tryz.prog w base spare held n 24 [c4] = xs[3]? := h3
  have hl6' : xs.length = 4 := hl6
  rw [List.getElem?_eq_getElem (by omega)] at j0 j1 j2 j3
  obtain ⟨i0, e0, _, _⟩ := DataW.trod_int Tryz.underlying3 j0
  obtain ⟨b1, e1, _⟩ := DataW.trod_bool Tryz.underlying4 j1
  obtain ⟨ys, n2, _, _, _, hl7, hg2⟩ := DataW.trod_struct Tryz.underlying23 j2
  have k0 := hg2 0 _ rfl
  have k1 := hg2 1 _ rfl
  have m0 : DataW.trod enc Tryz.prog w base spare held n2 9 [c2] = ys[0]? := k0
  have m1 : DataW.trod enc Tryz.prog w base spare held n2 3 [c3] = ys[1]? := k1
  have hl7' : ys.length = 2 := hl7
  rw [List.getElem?_eq_getElem (by omega)] at m0 m1
  obtain ⟨s, e2, _, hs⟩ := DataW.trod_string Tryz.underlying9 m0
  obtain ⟨i3, e3, _, _⟩ := DataW.trod_int Tryz.underlying3 m1
  simp at e0 e1 e2 e3
  subst e0; subst e1; subst e2; subst e3
  obtain ⟨l, hl⟩ := halves_in j3
  exact ⟨i0, b1, s, i3, c4, l, rfl, hs, hl⟩
end
end Go.Proofs.YtckicpnnclbkpaaGreatDoor.hf

namespace Go.Proofs.YtckicpnnclbkpaaGreatDoor.hf
open Go.ChangeShapes Go.WideShapes Go.ChangeAt Go.RowKit
open wd ow rl ok kp
set_option maxRecDepth 100000 in
set_option maxHeartbeats 1600000 in
theorem szHf_any (w : World) (h : Hf) (g : Value) (hg : InR mbS w g h.got) (hz : ∀ m ∈ h.got, m.2.size ≤ maxLen) (room : Int) (h0 : 0 ≤ room) (h1 : room ≤ 1048576) :
  Calls Tryz.prog 55 #[hfV h g, .int .i64 room] w (Sizes2 w room h.got.length) := by
 have HS := Lib.hid hg
 obtain ⟨A, c, rfl, _⟩ := hg
 have B0 := (Below.refl w.heap.size w).alloc (Nat.le_refl _) (.cells #[.int .i64 h.f, .int .i64 h.n, .int .i64 h.t, .int .i64 h.u, .int .i64 h.z, .slice A h.got.length c] 88)
 have HM := Lib.hid (fun V (hB : Below w.heap.size w V) => szMbs_any V _ h.got (HS.out.later hB) hz room h0 h1)
 unfold Sizes2 at HM
 clear hz
 go_enter Tryz.func55, Tryz.ntmps55
 go_wp2_with fail
 generalize w.alloc (.cells #[.int .i64 h.f, .int .i64 h.n, .int .i64 h.t, .int .i64 h.u, .int .i64 h.z, .slice A h.got.length c] 88) = V at B0 ⊢
 refine (HM.out _ B0).mono ?_
 rintro e w1 ⟨r, rfl, r0, r1, r2, B1⟩
 have HB := Lib.hid (B0.trans (B1.mono B0.size))
 have HR := Lib.hid r2
 clear B0 B1 r2
 by_cases hr : r < 0
 ·go_wp2
  go_ret
  exact ⟨_, rfl, by omega, by omega, fun h => absurd h (by omega), HB.out⟩
 ·go_wp2
  go_ret
  exact ⟨_, rfl, by omega, by omega, fun h => HR.out h, HB.out⟩
def gotN : List Hf → Nat
 | [] => 0
 | h :: l => h.got.length + gotN l
theorem gotN_mem {h : Hf} : ∀ {l : List Hf}, h ∈ l → h.got.length ≤ gotN l
 | [], hh => by simp at hh
 | a :: l, hh => by
  unfold gotN
  rcases List.mem_cons.1 hh with rfl | hh
  ·omega
  ·have := gotN_mem hh; omega
theorem gotN_take : ∀ {l : List Hf} {k : Nat} {h : Hf}, l[k]? = some h → gotN (l.take (k + 1)) = gotN (l.take k) + h.got.length
 | [], _, _, hh => by simp at hh
 | a :: l, 0, h, hh => by simp at hh; subst hh; simp [gotN]
 | a :: l, k + 1, h, hh => by
  simp at hh
  have := gotN_take hh
  simp only [List.take_succ_cons, gotN]
  omega
def FewH (l : List Hf) : Prop := l.length ≤ 1048576 ∧ ∀ h ∈ l, h.got.length ≤ 1048576
def FewT (l : List Hf) : Prop := l.length + gotN l ≤ 1048576
theorem FewT.few {l : List Hf} (h : FewT l) : FewH l := by
 unfold FewT at h
 exact ⟨by omega, fun x hx => by have := gotN_mem hx; omega⟩
def SzHPost (w : World) (room : Int) (l : List Hf) (e : Ending) (w' : World) : Prop :=
 ∃ r : Int, e = .returned (.int .i64 r) ∧ -1 ≤ r ∧ r ≤ room ∧ (0 ≤ r → FewT l) ∧ Below w.heap.size w w'
set_option maxRecDepth 100000 in
set_option maxHeartbeats 1600000 in
theorem szHfs_any (w : World) (v : Value) (l : List Hf) (h : InH w v l) (room : Int) (h0 : 0 ≤ room) (h1 : room ≤ 1048576) :
  Calls Tryz.prog 27 #[v, .int .i64 room] w (SzHPost w room l) := by
 have HS := Lib.hid h
 obtain ⟨A, c, rfl, hm⟩ := h.form
 have hm' : l.length ≤ 9223372036854775807 := hm
 clear hm h
 by_cases hl : room < l.length
 ·go_enter Tryz.func27, Tryz.ntmps27
  go_wp2
  go_ret
  exact ⟨_, rfl, by omega, by omega, fun h => absurd h (by omega), Below.refl _ _⟩
 ·go_enter Tryz.func27, Tryz.ntmps27
  go_wp2
  go_loopw [1, 5] (fun r i wr => ∃ (x : Int) (k : Nat), k ≤ l.length ∧ i = .int .i64 k ∧ r = .int .i64 x ∧ 0 ≤ x ∧ x + (l.length : Int) + (gotN (l.take k) : Nat) ≤ room ∧ Below w.heap.size w wr) (fun _ i _ => (l.length + 1 : Nat) - (intOf i).toNat)
  case atStart => exact ⟨_, 0, by omega, rfl, rfl, by omega, by simp [gotN] <;> omega, Below.refl _ _⟩
  case round =>
   obtain ⟨x, k, hk, rfl, rfl, x0, x1, hB⟩ := hrel
   by_cases hkl : k < l.length
   ·have hx : l[k]? = some l[k] := List.getElem?_eq_getElem hkl
    obtain ⟨g, o, c', A', c2, e, hg, _, t0, t1, t2, t3, t4, t5, hin, hz⟩ := (HS.out.later hB).at hx
    injection e with e1 e2 e3
    subst e1; subst e3
    have HX := Lib.hid hx
    generalize l[k] = y at HX t0 t1 t2 t3 t4 t5 hin hz
    have hk1 : (k : Int) < (l.length : Int) := by omega
    have HI := Lib.hid (szHf_any wr y _ hin hz x x0 (by omega))
    unfold Sizes2 at HI
    clear hx hin hz
    go_wp2_with fail
    refine HI.out.mono ?_
    rintro e w2 ⟨r, rfl, r0, r1, r2, hB2⟩
    have HB2 := Lib.hid (hB.trans (hB2.mono hB.size))
    have HR := Lib.hid r2
    clear hB hB2 t0 t1 t2 t3 t4 t5 r2
    by_cases hr : r < 0
    ·go_wp2
     go_ret
     exact ⟨_, rfl, by omega, by omega, fun h => absurd h (by omega), HB2.out⟩
    ·have hg := gotN_take HX.out
     have hr2 := HR.out (by omega)
     go_wp2
     go_roundw
     case rel => exact ⟨r, k + 1, by omega, by go_num, rfl, by omega, by omega, HB2.out⟩
     case measure => simp [intOf]; omega
   ·have hkk : k = l.length := by omega
    have HF2 := Lib.hid (show FewT l from by
     unfold FewT
     have h := x1
     rw [hkk, List.take_length] at h
     omega)
    go_wp2
    go_ret
    exact ⟨_, rfl, by omega, by omega, fun _ => HF2.out, hB⟩
end Go.Proofs.YtckicpnnclbkpaaGreatDoor.hf

namespace Go.Proofs.YtckicpnnclbkpaaGreatDoor.hf
open Go.ChangeShapes Go.WideShapes Go.ChangeAt Go.RowKit
open wd ow rl ok kp
def HalfPost (w : World) (h : Hf) (e : Ending) (w' : World) : Prop :=
 ∃ A c, e = .returned (hfV h (.slice A h.got.length c)) ∧ OwnAt mbS 97 w.heap.size w' (.slice A h.got.length c) h.got ∧ Below w.heap.size w w'
abbrev put6h (V : World) (R : Nat) (a b c d e f : Value) : World := (((((V.setCell ⟨R, 0, none⟩ a).setCell ⟨R, 1, none⟩ b).setCell ⟨R, 2, none⟩ c).setCell ⟨R, 3, none⟩ d).setCell ⟨R, 4, none⟩ e).setCell ⟨R, 5, none⟩ f
theorem put6h_blk {V : World} {R : Nat} {t : TypeId} {a b c d e f a' b' c' d' e' f' : Value} (h : Blk V R t #[a, b, c, d, e, f]) : Blk (put6h V R a' b' c' d' e' f') R t #[a', b', c', d', e', f'] :=
 (((((h.put 0 a').put 1 b').put 2 c').put 3 d').put 4 e').put 5 f'
theorem put6h_below {w V : World} {B R : Nat} (hR : B ≤ R) (h : Below B w V) (a b c d e f : Value) : Below B w (put6h V R a b c d e f) :=
 (((((h.setCell (p := ⟨R, 0, none⟩) hR a).setCell (p := ⟨R, 1, none⟩) hR b).setCell (p := ⟨R, 2, none⟩) hR c).setCell (p := ⟨R, 3, none⟩) hR d).setCell (p := ⟨R, 4, none⟩) hR e).setCell (p := ⟨R, 5, none⟩) hR f
theorem put6h_own {α : Type} {S : Shape α} {t : TypeId} {B : Nat} {W : World} {v : Value} {l : List α} (h : OwnAt S t B W v l) {R : Nat} (hR : R < B) (a b c d e f : Value) : OwnAt S t B (put6h W R a b c d e f) v l :=
 (((((h.set (p := ⟨R, 0, none⟩) hR a).set (p := ⟨R, 1, none⟩) hR b).set (p := ⟨R, 2, none⟩) hR c).set (p := ⟨R, 3, none⟩) hR d).set (p := ⟨R, 4, none⟩) hR e).set (p := ⟨R, 5, none⟩) hR f
theorem sixh {V : World} {R : Nat} {t : TypeId} {a b c d e f : Value} (h : Blk V R t #[a, b, c, d, e, f]) : V.cell? ⟨R, 0, none⟩ = some a ∧ V.cell? ⟨R, 1, none⟩ = some b ∧ V.cell? ⟨R, 2, none⟩ = some c ∧ V.cell? ⟨R, 3, none⟩ = some d ∧ V.cell? ⟨R, 4, none⟩ = some e ∧ V.cell? ⟨R, 5, none⟩ = some f ∧
  V.frozen? ⟨R, 0, none⟩ = false ∧ V.frozen? ⟨R, 1, none⟩ = false ∧ V.frozen? ⟨R, 2, none⟩ = false ∧ V.frozen? ⟨R, 3, none⟩ = false ∧ V.frozen? ⟨R, 4, none⟩ = false ∧ V.frozen? ⟨R, 5, none⟩ = false :=
 ⟨h.cell 0, h.cell 1, h.cell 2, h.cell 3, h.cell 4, h.cell 5, h.frozen 0, h.frozen 1, h.frozen 2, h.frozen 3, h.frozen 4, h.frozen 5⟩
structure ToH (w V : World) (h : Hf) (ig g : Value) : Prop where
 arg : Blk V w.heap.size 88 #[.int .i64 h.f, .int .i64 h.n, .int .i64 h.t, .int .i64 h.u, .int .i64 h.z, ig]
 res : Blk V (w.heap.size + 1) 62 #[.int .i64 0, .int .i64 0, .int .i64 0, .int .i64 0, .int .i64 0, .slice none 0 0]
 out : Blk V (w.heap.size + 1 + 1) 62 #[.int .i64 h.f, .int .i64 h.n, .int .i64 h.t, .int .i64 h.u, .int .i64 h.z, g]
 bel : Below w.heap.size w V
section
variable {w V V' : World} {h : Hf} {ig g : Value}
theorem ToH.new (w : World) (h : Hf) (ig : Value) : ToH w (((w.alloc (.cells #[.int .i64 h.f, .int .i64 h.n, .int .i64 h.t, .int .i64 h.u, .int .i64 h.z, ig] 88)).alloc (.cells #[.int .i64 0, .int .i64 0, .int .i64 0, .int .i64 0, .int .i64 0, .slice none 0 0] 62)).alloc (.cells #[.int .i64 h.f, .int .i64 h.n, .int .i64 h.t, .int .i64 h.u, .int .i64 h.z, .slice none 0 0] 62)) h ig (.slice none 0 0) := by
 have k1 := Blk.new (w.alloc (.cells #[.int .i64 h.f, .int .i64 h.n, .int .i64 h.t, .int .i64 h.u, .int .i64 h.z, ig] 88)) 62 #[.int .i64 0, .int .i64 0, .int .i64 0, .int .i64 0, .int .i64 0, .slice none 0 0]
 have k2 := Blk.new ((w.alloc (.cells #[.int .i64 h.f, .int .i64 h.n, .int .i64 h.t, .int .i64 h.u, .int .i64 h.z, ig] 88)).alloc (.cells #[.int .i64 0, .int .i64 0, .int .i64 0, .int .i64 0, .int .i64 0, .slice none 0 0] 62)) 62 #[.int .i64 h.f, .int .i64 h.n, .int .i64 h.t, .int .i64 h.u, .int .i64 h.z, .slice none 0 0]
 simp only [World.size_alloc] at k1 k2
 exact ⟨((Blk.new w _ _).alloc _).alloc _, k1.alloc _, k2, (((Below.refl _ w).alloc (Nat.le_refl _) _).alloc (by simp) _).alloc (by simp; omega) _⟩
theorem ToH.later (h' : ToH w V h ig g) (hb : Below V.heap.size V V') : ToH w V' h ig g := ⟨h'.arg.below hb h'.arg.lt, h'.res.below hb h'.res.lt, h'.out.below hb h'.out.lt, h'.bel.trans (hb.mono h'.bel.size)⟩
theorem ToH.put (h' : ToH w V h ig g) (x : Value) : ToH w (V.setCell ⟨w.heap.size + 1 + 1, 5, none⟩ x) h ig x :=
 ⟨h'.arg.far (p := ⟨w.heap.size + 1 + 1, 5, none⟩) (by show w.heap.size ≠ w.heap.size + 1 + 1; omega) _, h'.res.far (p := ⟨w.heap.size + 1 + 1, 5, none⟩) (by show w.heap.size + 1 ≠ w.heap.size + 1 + 1; omega) _, h'.out.put 5 x, h'.bel.setCell (p := ⟨w.heap.size + 1 + 1, 5, none⟩) (by show w.heap.size ≤ w.heap.size + 1 + 1; omega) _⟩
end
set_option maxRecDepth 100000 in
set_option maxHeartbeats 1600000 in
theorem toHf_any (w : World) (h : Hf) (g : Value) (hg : InR mbS w g h.got) (hl : h.got.length ≤ 1048576) :
  Calls Tryz.prog 62 #[hfV h g] w (HalfPost w h) := by
 have hT := ToH.new w h g
 have HI := Lib.hid hg
 obtain ⟨A0, c0, rfl, _⟩ := hg
 have hz : w.heap.size + 3 ≤ (((w.alloc (.cells #[.int .i64 h.f, .int .i64 h.n, .int .i64 h.t, .int .i64 h.u, .int .i64 h.z, .slice A0 h.got.length c0] 88)).alloc (.cells #[.int .i64 0, .int .i64 0, .int .i64 0, .int .i64 0, .int .i64 0, .slice none 0 0] 62)).alloc (.cells #[.int .i64 h.f, .int .i64 h.n, .int .i64 h.t, .int .i64 h.u, .int .i64 h.z, .slice none 0 0] 62)).heap.size := by simp
 go_enter Tryz.func62, Tryz.ntmps62
 go_wp2_with fail
 generalize ((w.alloc (.cells #[.int .i64 h.f, .int .i64 h.n, .int .i64 h.t, .int .i64 h.u, .int .i64 h.z, .slice A0 h.got.length c0] 88)).alloc (.cells #[.int .i64 0, .int .i64 0, .int .i64 0, .int .i64 0, .int .i64 0, .slice none 0 0] 62)).alloc (.cells #[.int .i64 h.f, .int .i64 h.n, .int .i64 h.t, .int .i64 h.u, .int .i64 h.z, .slice none 0 0] 62) = V at hT hz ⊢
 refine (toMbs_any _ _ _ (HI.out.later hT.bel) hl).mono ?_
 rintro e w1 ⟨v, rfl, hO1⟩
 obtain ⟨A, c, rfl⟩ := OwnR.form hO1
 have hT1 := hT.later hO1.2
 have A1 : OwnAt mbS 97 (w.heap.size + 3) w1 (.slice A h.got.length c) h.got := OwnAt.down (B := V.heap.size) hO1.1 hz
 have hT2 := hT1.put (.slice A h.got.length c)
 have A2 := A1.set (p := ⟨w.heap.size + 1 + 1, 5, none⟩) (by show w.heap.size + 1 + 1 < w.heap.size + 3; omega) (.slice A h.got.length c)
 obtain ⟨_, _, _, _, _, o5, _, _, _, _, _, f5⟩ := sixh hT1.out
 obtain ⟨p0, p1, p2, p3, p4, p5, _, _, _, _, _, _⟩ := sixh hT2.out
 obtain ⟨r0, r1, r2, r3, r4, r5, g0, g1, g2, g3, g4, g5⟩ := sixh hT2.res
 have HC := Lib.hid (put6h_blk (a' := .int .i64 h.f) (b' := .int .i64 h.n) (c' := .int .i64 h.t) (d' := .int .i64 h.u) (e' := .int .i64 h.z) (f' := .slice A h.got.length c) hT2.res)
 have HE := Lib.hid (put6h_below (B := w.heap.size) (R := w.heap.size + 1) (Nat.le_succ _) hT2.bel (.int .i64 h.f) (.int .i64 h.n) (.int .i64 h.t) (.int .i64 h.u) (.int .i64 h.z) (.slice A h.got.length c))
 have HA := Lib.hid (put6h_own A2 (R := w.heap.size + 1) (by omega) (.int .i64 h.f) (.int .i64 h.n) (.int .i64 h.t) (.int .i64 h.u) (.int .i64 h.z) (.slice A h.got.length c))
 clear hT hT1 hT2 A1 A2 hO1
 go_wp2
 obtain ⟨x0, x1, x2, x3, x4, x5, _, _, _, _, _, _⟩ := sixh HC.out
 refine bodyPost_ret (v := hfV h (.slice A h.got.length c)) (by simp [results, Tryz.results62, go_sem, x0, x1, x2, x3, x4, x5]) rfl ⟨A, c, rfl, OwnAt.down HA.out (by omega), HE.out⟩
end Go.Proofs.YtckicpnnclbkpaaGreatDoor.hf

