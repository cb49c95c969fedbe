/-
  Merged texts: IMK, Dec3, Word, Nums, Nums3, DoPlain2.
-/
import Derived.Test.YtckicpnnclbkpaaGreatDoorE18
import Derived.Deep.LoopGhost
namespace Go.Proofs.YtckicpnnclbkpaaGreatDoor.kp
open Go.ChangeShapes Go.WideShapes Go.ChangeAt Go.RowKit
open wd ow rl ok nb nx
section
variable {B g : Nat} {W W' : World} {k : Kp} {a b c : Value}
theorem blk_row {t : TypeId} {cs : Array Value} {row : Option Nat} (h : Blk W g t cs) (hb : W.grownBy W' row) (hg : row ≠ some g) : Blk W' g t cs := (hb.block g h.lt (fun e => hg e.symm)).trans h
theorem own_off {α : Type} {S : Shape α} {t : TypeId} {v : Value} {l : List α} (h : OwnAt S t B W v l) {p : Addr} (hp : v.ownBlock ≠ some p.block) (x : Value) : OwnAt S t B (W.setCell p x) v l :=
 h.same fun g' hg' => Below.heap_setCell W p x g' (fun e => hp (by rw [hg', e]))
theorem below_row {row : Option Nat} (hg : W.grownBy W' row) (hr : ∀ i, row = some i → B ≤ i) (hB : B ≤ W.heap.size) : Below B W W' :=
 ⟨hg.os, hg.tape, hg.output, hg.size, fun i hi => hg.block i (by omega) (fun e => by have := hr i e.symm; omega)⟩
theorem apart_row {u v : Value} (h : Apart u v) : u.ownBlock = none ∨ u.ownBlock ≠ v.ownBlock := by
 cases hu : u.ownBlock with
 | none => exact .inl rfl
 | some x => exact .inr fun e => h x hu e.symm
theorem from_apart {α : Type} {S : Shape α} {t : TypeId} {u v v' : Value} {l : List α} (hu : OwnAt S t B W u l) (h : Apart u v) (hF : From W v' v) : Apart u v' := fun x e1 e2 => by
 rcases hF x e2 with h1 | h1
 ·have := (hu.lt e1).2; omega
 ·exact h x e1 h1
theorem from_off {v v' : Value} (hl : g < W.heap.size) (h : v.ownBlock ≠ some g) (hF : From W v' v) : v'.ownBlock ≠ some g := fun e => by
 rcases hF g e with h1 | h1
 ·omega
 ·exact h h1
theorem MK.mut3 (h : MK B W g k a b c) {l : List Nt} {v' : Value} (hO : OwnAt ntS 105 B W' v' l) (hg : W.grownBy W' a.ownBlock) (hF : From W v' a) :
  MK B (W'.setCell ⟨g, 3, none⟩ v') g { k with held := l } v' b c ∧ Below B W (W'.setCell ⟨g, 3, none⟩ v') := by
 have hb : Below B W W' := below_row hg (fun i e => (h.own.held.lt e).1) h.bW
 have hne := from_off h.box.lt h.off.1 hF
 have box1 : KBox W' g k a b c := blk_row h.box hg h.off.1
 have hb2 := hb.setCell (p := ⟨g, 3, none⟩) h.gB v'
 refine ⟨⟨box1.put 3 v', ⟨own_off hO hne v', own_off (World.ownsRow.kept h.own.marks hg (apart_row h.own.hm.symm)) h.off.2.1 v', own_off (World.ownsRow.kept h.own.inbox hg (apart_row h.own.hi.symm)) h.off.2.2 v', (from_apart h.own.marks h.own.hm.symm hF).symm, (from_apart h.own.inbox h.own.hi.symm hF).symm, h.own.mi⟩, ⟨hne, h.off.2.1, h.off.2.2⟩, h.gB, Nat.le_trans h.bW hb2.size⟩, hb2⟩
theorem MK.mut4 (h : MK B W g k a b c) {l : List Mk} {v' : Value} (hO : OwnAt mkS 108 B W' v' l) (hg : W.grownBy W' b.ownBlock) (hF : From W v' b) :
  MK B (W'.setCell ⟨g, 4, none⟩ v') g { k with marks := l } a v' c ∧ Below B W (W'.setCell ⟨g, 4, none⟩ v') := by
 have hb : Below B W W' := below_row hg (fun i e => (h.own.marks.lt e).1) h.bW
 have hne := from_off h.box.lt h.off.2.1 hF
 have box1 : KBox W' g k a b c := blk_row h.box hg h.off.2.1
 have hb2 := hb.setCell (p := ⟨g, 4, none⟩) h.gB v'
 refine ⟨⟨box1.put 4 v', ⟨own_off (World.ownsRow.kept h.own.held hg (apart_row h.own.hm)) h.off.1 v', own_off hO hne v', own_off (World.ownsRow.kept h.own.inbox hg (apart_row h.own.mi.symm)) h.off.2.2 v', from_apart h.own.held h.own.hm hF, h.own.hi, (from_apart h.own.inbox h.own.mi.symm hF).symm⟩, ⟨h.off.1, hne, h.off.2.2⟩, h.gB, Nat.le_trans h.bW hb2.size⟩, hb2⟩
theorem MK.mut5 (h : MK B W g k a b c) {l : List Nt} {v' : Value} (hO : OwnAt ntS 105 B W' v' l) (hg : W.grownBy W' c.ownBlock) (hF : From W v' c) :
  MK B (W'.setCell ⟨g, 5, none⟩ v') g { k with inbox := l } a b v' ∧ Below B W (W'.setCell ⟨g, 5, none⟩ v') := by
 have hb : Below B W W' := below_row hg (fun i e => (h.own.inbox.lt e).1) h.bW
 have hne := from_off h.box.lt h.off.2.2 hF
 have box1 : KBox W' g k a b c := blk_row h.box hg h.off.2.2
 have hb2 := hb.setCell (p := ⟨g, 5, none⟩) h.gB v'
 refine ⟨⟨box1.put 5 v', ⟨own_off (World.ownsRow.kept h.own.held hg (apart_row h.own.hi)) h.off.1 v', own_off (World.ownsRow.kept h.own.marks hg (apart_row h.own.mi)) h.off.2.1 v', own_off hO hne v', h.own.hm, from_apart h.own.held h.own.hi hF, from_apart h.own.marks h.own.mi hF⟩, ⟨h.off.1, h.off.2.1, hne⟩, h.gB, Nat.le_trans h.bW hb2.size⟩, hb2⟩
theorem MK.set1 (h : MK B W g k a b c) (v : Int) : MK B (W.setCell ⟨g, 1, none⟩ (.int .i64 v)) g { k with time := v } a b c ∧ Below B W (W.setCell ⟨g, 1, none⟩ (.int .i64 v)) := by
 have hb2 := (Below.refl B W).setCell (p := ⟨g, 1, none⟩) h.gB (.int .i64 v)
 exact ⟨⟨h.box.put 1 _, ⟨own_off h.own.held h.off.1 _, own_off h.own.marks h.off.2.1 _, own_off h.own.inbox h.off.2.2 _, h.own.hm, h.own.hi, h.own.mi⟩, h.off, h.gB, Nat.le_trans h.bW hb2.size⟩, hb2⟩
theorem MK.set2 (h : MK B W g k a b c) (v : Int) : MK B (W.setCell ⟨g, 2, none⟩ (.int .i64 v)) g { k with next := v } a b c ∧ Below B W (W.setCell ⟨g, 2, none⟩ (.int .i64 v)) := by
 have hb2 := (Below.refl B W).setCell (p := ⟨g, 2, none⟩) h.gB (.int .i64 v)
 exact ⟨⟨h.box.put 2 _, ⟨own_off h.own.held h.off.1 _, own_off h.own.marks h.off.2.1 _, own_off h.own.inbox h.off.2.2 _, h.own.hm, h.own.hi, h.own.mi⟩, h.off, h.gB, Nat.le_trans h.bW hb2.size⟩, hb2⟩
theorem MK.far (h : MK B W g k a b c) {p : Addr} (hg : g ≠ p.block) (ho : Off p.block a b c) (x : Value) : MK B (W.setCell p x) g k a b c :=
 ⟨h.box.far hg x, ⟨own_off h.own.held ho.1 x, own_off h.own.marks ho.2.1 x, own_off h.own.inbox ho.2.2 x, h.own.hm, h.own.hi, h.own.mi⟩, h.off, h.gB, by simpa using h.bW⟩
end
end Go.Proofs.YtckicpnnclbkpaaGreatDoor.kp

namespace Go.Proofs.YtckicpnnclbkpaaGreatDoor.dc
open Go.ChangeShapes Go.WideShapes Go.ChangeAt Go.RowKit
open nb ok wd
def Spells (l : List UInt8) (v : Int) : Prop := ∀ m : Int, 0 ≤ m → m ≤ 999 → l = dl m → v = m
def SpellPost (w : World) (l : List UInt8) (e : Ending) (w' : World) : Prop := ∃ v : Int, e = .returned (.int .i64 v) ∧ Spells l v ∧ Below w.heap.size w w'
theorem spells_not {l : List UInt8} {v : Int} (h : ∀ m : Int, 0 ≤ m → m ≤ 999 → l ≠ dl m) : Spells l v := fun m h0 h1 e => absurd e (h m h0 h1)
theorem not_len {l : List UInt8} (h : l.length < 1 ∨ 4 < l.length) : ∀ m : Int, 0 ≤ m → m ≤ 999 → l ≠ dl m := fun m _ h1 e => by
 have := dl_len h1
 rw [← e] at this
 omega
theorem not_digit {l : List UInt8} {c : UInt8} (hm : c ∈ l) (h : dg c = false) : ∀ m : Int, 0 ≤ m → m ≤ 999 → l ≠ dl m := fun m _ _ e => by
 have := List.all_eq_true.1 (dl_all m) c (e ▸ hm)
 rw [h] at this
 cases this
theorem spells_val {l : List UInt8} : Spells l (val 0 l : Int) := fun m h0 _ e => by
 rw [e]
 unfold dl
 rw [dd_val]
 omega
theorem not_val {l : List UInt8} (h : dl (val 0 l : Int) ≠ l) : ∀ m : Int, 0 ≤ m → m ≤ 999 → l ≠ dl m := fun m h0 h1 e => by
 have := spells_val m h0 h1 e
 rw [this] at h
 exact h e.symm
set_option maxHeartbeats 1000000 in
theorem dec3_any (s : ByteArray) (hs : s.size ≤ 1048576) (w : World) :
  Calls Tryz.prog 79 #[.string s] w (SpellPost w s.data.toList) := by
 by_cases h0 : s.size < 1
 ·have R := Lib.hid (spells_not (v := -1) (not_len (l := s.data.toList) (.inl (by rw [← Lib.size_eq]; exact h0))))
  have h0' : (s.size : Int) < 1 := by omega
  go_enter Tryz.func79, Tryz.ntmps79
  go_wp2_with fail
  go_ret
  exact ⟨-1, rfl, R.out, Below.refl _ _⟩
 by_cases h1 : 4 < s.size
 ·have R := Lib.hid (spells_not (v := -1) (not_len (l := s.data.toList) (.inr (by rw [← Lib.size_eq]; exact h1))))
  have h0' : ¬ (s.size : Int) < 1 := by omega
  have h1' : 4 < (s.size : Int) := by omega
  go_enter Tryz.func79, Tryz.ntmps79
  go_wp2_with fail
  go_ret
  exact ⟨-1, rfl, R.out, Below.refl _ _⟩
 have h0' : ¬ (s.size : Int) < 1 := by omega
 have h1' : ¬ 4 < (s.size : Int) := by omega
 go_enter Tryz.func79, Tryz.ntmps79
 go_wp2_with fail
 go_loop [3, 4] (fun x i => ∃ (k : Nat) (a : Int), k ≤ s.size ∧ i = .int .i64 k ∧ x = .int .i64 a ∧ 0 ≤ a ∧ a ≤ 9999 ∧ Hid (a = (val 0 (s.data.toList.take k) : Int) ∧ (s.data.toList.take k).all dg = true)) (fun _ i => s.size - (intOf i).toNat)
 case atStart => exact ⟨0, 0, by omega, rfl, rfl, by omega, by omega, rfl, rfl⟩
 case round =>
  obtain ⟨k, a, hk, rfl, rfl, a0, a1, HA⟩ := hrel
  by_cases hlt : k < s.size
  ·have HM := Lib.hid (show s[k] ∈ s.data.toList from by show s.data[k] ∈ s.data.toList; simp)
   by_cases d0 : (s[k].toNat : Int) < 48
   ·have R := Lib.hid (spells_not (v := -1) (not_digit HM.out (decide_eq_false (by omega))))
    go_wp2
    go_ret
    exact ⟨-1, rfl, R.out, Below.refl _ _⟩
   by_cases d1 : 57 < (s[k].toNat : Int)
   ·have R := Lib.hid (spells_not (v := -1) (not_digit HM.out (decide_eq_false (by omega))))
    go_wp2
    go_ret
    exact ⟨-1, rfl, R.out, Below.refl _ _⟩
   have HS : Hid (a * 10 + ((s[k].toNat : Int) - 48) = (val 0 (s.data.toList.take (k + 1)) : Int) ∧ (s.data.toList.take (k + 1)).all dg = true) := by
    obtain ⟨e1, e2⟩ := HA.out
    have hd : dg s[k] = true := decide_eq_true (by omega)
    rw [ok.take_snoc s k hlt, val_snoc, List.all_append, e2]
    refine ⟨by rw [e1]; omega, by simp [hd]⟩
   have hb : a * 10 + ((s[k].toNat : Int) - 48) ≤ 9999 := by
    obtain ⟨e1, e2⟩ := HS.out
    have hv := val_lt _ e2
    have hp : 10 ^ (s.data.toList.take (k + 1)).length ≤ 10 ^ 4 := Nat.pow_le_pow_right (by omega) (by rw [List.length_take]; omega)
    rw [e1]
    have : (10 : Nat) ^ 4 = 10000 := by decide
    omega
   go_wp2
   go_round
   case rel => exact ⟨k + 1, _, by omega, by go_num, rfl, by omega, hb, HS⟩
   case measure => simp [intOf]; omega
  ·have HE : Hid (a = (val 0 s.data.toList : Int)) := by
    have := HA.out.1
    rwa [List.take_of_length_le (by rw [← Lib.size_eq]; omega)] at this
   have HD := Lib.hid (fun W => dec_any a a0 a1 W)
   by_cases hq : str (dl a) = s
   ·have R := Lib.hid (show Spells s.data.toList a by rw [HE.out]; exact spells_val)
    rw [hq] at HD
    clear HA
    go_wp2_with fail
    refine (HD.out _).mono ?_
    rintro e w2 ⟨rfl, hB⟩
    go_wp2
    go_ret
    exact ⟨a, rfl, R.out, hB⟩
   ·have R := Lib.hid (spells_not (v := -1) (not_val (l := s.data.toList) (fun e => hq (by rw [HE.out, e, str_data]))))
    have hne := toList_ne hq
    generalize str (dl a) = x at HD hne
    clear HA hq
    go_wp2_with fail
    refine (HD.out _).mono ?_
    rintro e w2 ⟨rfl, hB⟩
    go_wp2
    go_ret
    exact ⟨-1, rfl, R.out, hB⟩
end Go.Proofs.YtckicpnnclbkpaaGreatDoor.dc

namespace Go.Proofs.YtckicpnnclbkpaaGreatDoor.dc
open Go.ChangeShapes Go.WideShapes Go.ChangeAt Go.RowKit
open nb ok
theorem below_drewN' {B : Nat} {a w : World} (h : Below B a w) (n : Nat) : Below B a (w.drewN n) := ⟨h.os, h.tape, h.output, h.size, h.block⟩
theorem word_parts {s : ByteArray} {i : Nat} (hi : s.data.toList[i]? = some 32) (hb : ∀ k, k < i → s.data.toList[k]? ≠ some 32) :
  s.extract 0 i = str (word s.data.toList).1 ∧ s.extract (i + 1) s.size = str (word s.data.toList).2 := by
 rw [word_at hi hb, Lib.extract_eq, Lib.extract_eq]
 refine ⟨by simp [str], ?_⟩
 unfold str
 congr 2
 show List.take (s.size - (i + 1)) (List.drop (i + 1) s.data.toList) = _
 rw [List.take_of_length_le (by rw [List.length_drop, ← Lib.size_eq]; exact Nat.le_refl _)]
theorem word_whole {s : ByteArray} (h : ∀ k : Nat, s.data.toList[k]? ≠ some 32) : s = str (word s.data.toList).1 ∧ (⟨#[]⟩ : ByteArray) = str (word s.data.toList).2 := by
 rw [word_none h]
 exact ⟨(str_data s).symm, rfl⟩
def WordPost (w : World) (s : ByteArray) (e : Ending) (w' : World) : Prop := e = .returned (.tuple #[.string (str (word s.data.toList).1), .string (str (word s.data.toList).2)]) ∧ Below w.heap.size w w'
def CutPost (w : World) (s : ByteArray) (e : Ending) (w' : World) : Prop := ∃ b, e = .returned (.tuple #[.string (str (word s.data.toList).1), .string (str (word s.data.toList).2), .bool b]) ∧ Below w.heap.size w w'
theorem idx_any (s : ByteArray) (w : World) : Calls Tryz.prog 210 #[.string s, .string ⟨#[32]⟩] w fun e w' => e = .returned (.int .i64 (Lib.indexByte s.data.toList 32)) ∧ w = w' :=
 (Tryz.stringslite_Index_one s 32 w).mono fun _ _ ⟨a, b⟩ => ⟨a, b.symm⟩
theorem cut_inner (s : ByteArray) (hs : s.size ≤ 1048576) (w : World) :
  Calls Tryz.prog 186 #[.string s, .string ⟨#[32]⟩] w (CutPost w s) := by
 by_cases hneg : Lib.indexByte s.data.toList 32 < 0
 ·have e1 : Lib.indexByte s.data.toList 32 = -1 := by have := Lib.indexByte_ge s.data.toList 32; omega
  have HW := Lib.hid (word_whole (Lib.indexByte_none e1))
  have HI := Lib.hid (fun W => (idx_any s W))
  rw [e1] at HI
  clear hneg e1
  go_enter Tryz.func186, Tryz.ntmps186
  go_wp2_with ((go_at_call 210; refine (HI.out _).mono ?_; rintro e w' ⟨rfl, rfl⟩))
  go_ret3
  exact ⟨false, by rw [← HW.out.1, ← HW.out.2]; rfl, Below.refl _ _⟩
 ·obtain ⟨o, ho⟩ := Int.eq_ofNat_of_zero_le (Int.not_lt.1 hneg)
  obtain ⟨h1, h2⟩ := Lib.indexByte_some ho
  have HW := Lib.hid (word_parts h1 h2)
  have HI := Lib.hid (fun W => (idx_any s W))
  rw [ho] at HI
  have hlt : o < s.size := by have := (List.getElem?_eq_some_iff.1 h1).1; rwa [← Lib.size_eq] at this
  clear hneg ho h1 h2
  have b0 : (0 : Int) ≤ (o : Int) := by omega
  have b1 : (o : Int) ≤ (s.size : Int) := by omega
  have b2 : IntKind.i64.wrap ((o : Int) + 1) = (o : Int) + 1 := by rw [IntKind.wrap_i64]; omega
  have b3 : (0 : Int) ≤ (o : Int) + 1 := by omega
  have b4 : (o : Int) + 1 ≤ (s.size : Int) := by omega
  have b5 : ((o : Int) + 1).toNat = o + 1 := by omega
  go_enter Tryz.func186, Tryz.ntmps186
  go_wp2_with ((go_at_call 210; refine (HI.out _).mono ?_; rintro e w' ⟨rfl, rfl⟩))
  go_quiet (fail)
  go_wp2
  go_ret3
  exact ⟨true, by rw [← HW.out.1, ← HW.out.2]; rfl, below_drewN' (Below.refl _ _) _⟩
theorem cut_any (s : ByteArray) (hs : s.size ≤ 1048576) (w : World) :
  Calls Tryz.prog 158 #[.string s, .string ⟨#[32]⟩] w (CutPost w s) := by
 have H := Lib.hid (fun W => cut_inner s hs W)
 go_enter Tryz.func158, Tryz.ntmps158
 go_wp2_with fail
 refine (H.out _).mono ?_
 rintro e w1 ⟨b, rfl, hB⟩
 go_wp2
 go_ret3
 exact ⟨b, rfl, hB⟩
theorem sword_any (s : ByteArray) (hs : s.size ≤ 1048576) (w : World) :
  Calls Tryz.prog 109 #[.string s] w (WordPost w s) := by
 go_enter Tryz.func109, Tryz.ntmps109
 go_wp2
 go_loop [4] (fun i => ∃ k : Nat, k ≤ s.size ∧ i = .int .i64 k ∧ Hid (∀ j, j < k → s.data.toList[j]? ≠ some 32)) (fun i => s.size - (intOf i).toNat)
 case atStart => exact ⟨0, by omega, rfl, fun j hj => absurd hj (by omega)⟩
 case round =>
  obtain ⟨k, hk, rfl, HA⟩ := hrel
  by_cases hlt : k < s.size
  ·have hat : s.data.toList[k]? = some s[k] := by rw [List.getElem?_eq_getElem (by rw [← Lib.size_eq]; exact hlt)]; rfl
   by_cases hc : s[k] = 32
   ·have HW := Lib.hid (word_parts (hat.trans (by rw [hc])) HA.out)
    have hcv : ((s[k].toNat : Int) == 32) = true := by rw [hc]; rfl
    have b0 : (0 : Int) ≤ (k : Int) := by omega
    have b1 : (k : Int) ≤ (s.size : Int) := by omega
    have b2 : IntKind.i64.wrap ((k : Int) + 1) = (k : Int) + 1 := by rw [IntKind.wrap_i64]; omega
    have b3 : (0 : Int) ≤ (k : Int) + 1 := by omega
    have b4 : (k : Int) + 1 ≤ (s.size : Int) := by omega
    have b5 : ((k : Int) + 1).toNat = k + 1 := by omega
    clear hat hc
    go_wp2
    go_quiet (fail)
    go_wp2
    go_ret2
    exact ⟨by rw [← HW.out.1, ← HW.out.2]; rfl, below_drewN' (Below.refl _ _) _⟩
   ·have R : Hid (∀ j, j < k + 1 → s.data.toList[j]? ≠ some 32) := fun j hj => by
     by_cases e : j = k
     ·subst e; rw [hat]; intro h; exact hc (Option.some.inj h)
     ·exact HA.out j (by omega)
    have hcv : ((s[k].toNat : Int) == 32) = false := by
     rw [beq_eq_false_iff_ne]
     intro e
     apply hc
     apply UInt8.toNat_inj.1
     have : s[k].toNat = 32 := by omega
     rw [this]; rfl
    clear hat hc
    go_wp2
    go_round
    case rel => exact ⟨k + 1, by omega, by go_num, R⟩
    case measure => simp [intOf]; omega
  ·have HW := Lib.hid (word_whole (s := s) (fun j e => by
    by_cases hj : j < k
    ·exact HA.out j hj e
    ·have := (List.getElem?_eq_some_iff.1 e).1
     rw [← Lib.size_eq] at this
     omega))
   go_wp2
   go_ret2
   exact ⟨by rw [← HW.out.1, ← HW.out.2]; rfl, Below.refl _ _⟩
end Go.Proofs.YtckicpnnclbkpaaGreatDoor.dc

namespace Go.Proofs.YtckicpnnclbkpaaGreatDoor.dc
open Go.ChangeShapes Go.WideShapes Go.ChangeAt Go.RowKit
open nb ok wd
theorem infoInt : (Tryz.prog.info? 3).map (fun i => (i.zero, i.size, i.bytes)) = some (some (.int .i64 0), 1, 8) := by kernel_rfl
def iv (l : List Int) : List Value := l.map (Value.int .i64)
theorem iv_snoc (l : List Int) (x : Int) : iv l ++ [.int .i64 x] = iv (l ++ [x]) := by simp [iv]
theorem iv_len (l : List Int) : (iv l).length = l.length := by simp [iv]
def NumsPost (w : World) (l : List UInt8) (e : Ending) (w' : World) : Prop :=
 ∃ (v : Value) (vs : List Int) (r : List UInt8), e = .returned (.tuple #[v, .string (str r)]) ∧ vs.length = 4 ∧ ow.Own 3 w w' v (iv vs) ∧ Inv l 4 vs r ∧ r.length ≤ l.length
set_option maxRecDepth 100000 in
set_option maxHeartbeats 1600000 in
theorem nums_any (s : ByteArray) (hs : s.size ≤ 1048576) (w : World) :
  Calls Tryz.prog 115 #[.string s, .int .i64 4] w (NumsPost w s.data.toList) := by
 obtain ⟨i0, hi, hz0, hz1, hz2⟩ := info_parts infoInt
 have hsz := Lib.hid (Lib.size_eq s)
 go_enter Tryz.func115, Tryz.ntmps115
 go_wp2
 go_loopw [0, 6, 7] (fun sv ov i wr => ∃ (k : Nat) (vs : List Int) (r : List UInt8), k ≤ 4 ∧ Hid (vs.length = k) ∧ i = .int .i64 k ∧ sv = .string (str r) ∧ ow.Own 3 w wr ov (iv vs) ∧ Hid (Inv s.data.toList k vs r) ∧ r.length ≤ s.size) (fun _ _ i _ => 4 - (intOf i).toNat)
 case atStart => exact ⟨0, [], s.data.toList, by omega, rfl, rfl, by rw [str_data], ow.Own.empty w, inv_start _, by rw [hsz.out]; exact Nat.le_refl _⟩
 case round =>
  obtain ⟨k, vs, r, hk, HL, rfl, rfl, hO, HI, hr⟩ := hrel
  have hbase := hO.2.size
  by_cases hk4 : k < 4
  ·have hwl := word_len r
   have HSt := Lib.hid (fun v (h : Spells (word r).1 v) => inv_step (v := v) hk4 HI.out h)
   have HW := Lib.hid (fun W => sword_any (str r) (by rw [str_size]; omega) W)
   have HD := Lib.hid (fun W => dec3_any (str (word r).1) (by rw [str_size]; omega) W)
   unfold WordPost at HW
   rw [data_str] at HW HD
   generalize word r = pq at HSt HW HD hwl
   obtain ⟨p, q⟩ := pq
   simp only at HSt HW HD hwl
   have hq : q.length ≤ s.size := by omega
   clear hwl HI
   go_wp2_with fail
   refine (HW.out _).mono ?_
   rintro e w1 ⟨rfl, hB1⟩
   have hO1 := hO.later hB1
   clear hO hB1 HW
   go_wp2_with fail
   refine (HD.out _).mono ?_
   rintro e w2 ⟨x, rfl, hsp, hB2⟩
   have hO2 := hO1.later hB2
   have HS := Lib.hid (HSt.out x hsp)
   have hlv : (iv vs).length ≤ 4 := by rw [iv_len, HL.out]; omega
   clear hO1 hB2 HD HSt hsp
   go_wp2_with (at_builtin; refine wpList_append_own _ rfl _ _ 160 rfl w.heap.size 3 i0 (.int .i64 0) 1 8 Tryz.underlying160 hi hz0 hz1 hz2 rfl (by decide) _ _ _ rfl (hO2.1.alloc _) ⟨w2.heap.size, 0, none⟩ 1 1 [.int .i64 x] rfl rfl ?c1 ?c2 ?c3 ?c4 ?c5 ?_)
   case c1 => exact cell_one_new _ _ _
   case c2 => intro y hy; simp at hy; subst hy; rfl
   case c3 => unfold maxLen; omega
   case c4 => omega
   case c5 => have := hO2.2.size; simp; omega
   intro v1 w3 hown1 hgrow1 _
   have R := hO2.more hown1 hgrow1
   rw [iv_snoc] at R
   have HR := Lib.hid R
   clear hown1 hgrow1 hO2 R
   go_wp2
   go_roundw
   case rel => exact ⟨k + 1, vs ++ [x], q, by omega, by show (vs ++ [x]).length = k + 1; rw [List.length_append, HL.out]; rfl, by go_num, rfl, HR.out, HS.out, hq⟩
   case measure => simp [intOf]; omega
  ·obtain rfl : k = 4 := by omega
   have H4 : Hid (r.length ≤ s.data.toList.length) := by show _ ≤ _; rw [← hsz.out]; exact hr
   go_wp2
   go_ret2
   exact ⟨_, vs, r, rfl, HL.out, hO, HI.out, H4.out⟩
end Go.Proofs.YtckicpnnclbkpaaGreatDoor.dc

namespace Go.Proofs.YtckicpnnclbkpaaGreatDoor.dc
open Go.ChangeShapes Go.WideShapes Go.ChangeAt Go.RowKit
open nb ok wd
def restK (l : List UInt8) : Nat → List UInt8
 | 0 => l
 | k + 1 => (word (restK l k)).2
theorem restK_len (l : List UInt8) : ∀ k, (restK l k).length ≤ l.length
 | 0 => Nat.le_refl _
 | k + 1 => Nat.le_trans (word_len _).2 (restK_len l k)
def ReadK (l : List UInt8) (vs : List Int) : Prop := ∀ i v, vs[i]? = some v → Reads (word (restK l i)).1 v
theorem readK_snoc {l : List UInt8} {vs : List Int} {k : Nat} {v : Int} (hl : vs.length = k) (h : ReadK l vs) (hv : Reads (word (restK l k)).1 v) : ReadK l (vs ++ [v]) := by
 intro i x hx
 subst hl
 by_cases hi : i < vs.length
 ·rw [List.getElem?_append_left hi] at hx; exact h i x hx
 ·rw [List.getElem?_append_right (by omega)] at hx
  have : i = vs.length := by
   have := (List.getElem?_eq_some_iff.1 hx).1
   simp at this; omega
  subst this
  simp at hx
  subst hx
  exact hv
def Nums3Post (w : World) (l : List UInt8) (e : Ending) (w' : World) : Prop :=
 ∃ (v : Value) (vs : List Int), e = .returned (.tuple #[v, .string (str (restK l 3))]) ∧ vs.length = 3 ∧ ow.Own 3 w w' v (iv vs) ∧ ReadK l vs
set_option maxRecDepth 100000 in
set_option maxHeartbeats 1600000 in
theorem nums3_any (s : ByteArray) (hs : s.size ≤ 1048576) (w : World) :
  Calls Tryz.prog 115 #[.string s, .int .i64 3] w (Nums3Post w s.data.toList) := by
 obtain ⟨i0, hi, hz0, hz1, hz2⟩ := info_parts infoInt
 have hsz := Lib.hid (Lib.size_eq s)
 go_enter Tryz.func115, Tryz.ntmps115
 go_wp2
 go_loopw [0, 6, 7] (fun sv ov i wr => ∃ (k : Nat) (vs : List Int) (r : List UInt8), k ≤ 3 ∧ Hid (vs.length = k) ∧ i = .int .i64 k ∧ sv = .string (str r) ∧ ow.Own 3 w wr ov (iv vs) ∧ Hid (ReadK s.data.toList vs) ∧ Hid (r = restK s.data.toList k) ∧ r.length ≤ s.size) (fun _ _ i _ => 3 - (intOf i).toNat)
 case atStart => exact ⟨0, [], s.data.toList, by omega, rfl, rfl, by rw [str_data], ow.Own.empty w, (fun i v h => by simp at h : ReadK s.data.toList []), rfl, by rw [hsz.out]; exact Nat.le_refl _⟩
 case round =>
  obtain ⟨k, vs, r, hk, HL, rfl, rfl, hO, HI, HR0, hr⟩ := hrel
  have hbase := hO.2.size
  by_cases hk4 : k < 3
  ·have hwl := word_len r
   have HSt := Lib.hid (fun v (h : Reads (word r).1 v) => readK_snoc (v := v) HL.out HI.out (by rw [← HR0.out]; exact h))
   have HN := Lib.hid (show (word r).2 = restK s.data.toList (k + 1) by rw [HR0.out]; rfl)
   have HW := Lib.hid (fun W => sword_any (str r) (by rw [str_size]; omega) W)
   have HD := Lib.hid (fun W => dec3x_any (str (word r).1) (by rw [str_size]; omega) W)
   unfold WordPost at HW
   rw [data_str] at HW HD
   generalize word r = pq at HSt HW HD HN hwl
   obtain ⟨p, q⟩ := pq
   simp only at HSt HW HD HN hwl
   have hq : q.length ≤ s.size := by omega
   clear hwl HI HR0
   go_wp2_with fail
   refine (HW.out _).mono ?_
   rintro e w1 ⟨rfl, hB1⟩
   have hO1 := hO.later hB1
   clear hO hB1 HW
   go_wp2_with fail
   refine (HD.out _).mono ?_
   rintro e w2 ⟨x, rfl, hsp, hB2⟩
   have hO2 := hO1.later hB2
   have HS := Lib.hid (HSt.out x hsp)
   have hlv : (iv vs).length ≤ 4 := by rw [iv_len, HL.out]; omega
   clear hO1 hB2 HD HSt hsp
   go_wp2_with (at_builtin; refine wpList_append_own _ rfl _ _ 160 rfl w.heap.size 3 i0 (.int .i64 0) 1 8 Tryz.underlying160 hi hz0 hz1 hz2 rfl (by decide) _ _ _ rfl (hO2.1.alloc _) ⟨w2.heap.size, 0, none⟩ 1 1 [.int .i64 x] rfl rfl ?c1 ?c2 ?c3 ?c4 ?c5 ?_)
   case c1 => exact cell_one_new _ _ _
   case c2 => intro y hy; simp at hy; subst hy; rfl
   case c3 => unfold maxLen; omega
   case c4 => omega
   case c5 => have := hO2.2.size; simp; omega
   intro v1 w3 hown1 hgrow1 _
   have R := hO2.more hown1 hgrow1
   rw [iv_snoc] at R
   have HR := Lib.hid R
   clear hown1 hgrow1 hO2 R
   go_wp2
   go_roundw
   case rel => exact ⟨k + 1, vs ++ [x], q, by omega, by show (vs ++ [x]).length = k + 1; rw [List.length_append, HL.out]; rfl, by go_num, rfl, HR.out, HS.out, HN, hq⟩
   case measure => simp [intOf]; omega
  ·obtain rfl : k = 3 := by omega
   have HX := Lib.hid (fun (P : List UInt8 → Prop) (h : P (restK s.data.toList 3)) => (HR0.out ▸ h : P r))
   go_wp2
   go_ret2
   exact ⟨_, vs, HX.out (fun r => Ending.returned (.tuple #[_, .string (str r)]) = .returned (.tuple #[_, .string (str (restK s.data.toList 3))])) rfl, HL.out, hO, HI.out⟩
end Go.Proofs.YtckicpnnclbkpaaGreatDoor.dc

namespace Go.Proofs.YtckicpnnclbkpaaGreatDoor.kp
open nb ok dc
theorem kw_time {r : Rc} (h : kw r = kwTime) : ∃ v, r = .time v := by cases r <;> first | exact ⟨_, rfl⟩ | (exfalso; simp only [kw] at h; revert h; decide)
theorem kw_next {r : Rc} (h : kw r = kwNext) : ∃ v, r = .next v := by cases r <;> first | exact ⟨_, rfl⟩ | (exfalso; simp only [kw] at h; revert h; decide)
theorem kw_own {r : Rc} (h : kw r = kwOwn) : ∃ v, r = .own v := by cases r <;> first | exact ⟨_, rfl⟩ | (exfalso; simp only [kw] at h; revert h; decide)
theorem kw_take {r : Rc} (h : kw r = kwTake) : ∃ v, r = .take v := by cases r <;> first | exact ⟨_, rfl⟩ | (exfalso; simp only [kw] at h; revert h; decide)
theorem kw_held {r : Rc} (h : kw r = kwHeld) : ∃ v, r = .held v := by cases r <;> first | exact ⟨_, rfl⟩ | (exfalso; simp only [kw] at h; revert h; decide)
theorem kw_inbox {r : Rc} (h : kw r = kwInbox) : ∃ v, r = .inbox v := by cases r <;> first | exact ⟨_, rfl⟩ | (exfalso; simp only [kw] at h; revert h; decide)
theorem kw_let {r : Rc} (h : kw r = kwLet) : ∃ v, r = .lets v := by cases r <;> first | exact ⟨_, rfl⟩ | (exfalso; simp only [kw] at h; revert h; decide)
theorem kw_eat {r : Rc} (h : kw r = kwEat) : ∃ v, r = .eat v := by cases r <;> first | exact ⟨_, rfl⟩ | (exfalso; simp only [kw] at h; revert h; decide)
theorem kw_mark {r : Rc} (h : kw r = kwMark) : ∃ v, r = .mark v := by cases r <;> first | exact ⟨_, rfl⟩ | (exfalso; simp only [kw] at h; revert h; decide)
section
variable {k : Kp} {l : List UInt8}
theorem l_of {a b : List UInt8} (h1 : (word l).1 = a) (h2 : (word l).2 = b) (hb : b ≠ []) : l = a ++ 32 :: b := word_back (by rw [← h1, ← h2]) hb
theorem reads_dl {b : List UInt8} {v m : Int} (h : Reads b v) (hb : b = dl m) (h0 : 0 ≤ m) (h1 : m ≤ 9999) : v = m := by
 rcases h with ⟨_, hn⟩ | ⟨h2, h3, e⟩
 ·exact absurd hb (hn m h0 h1)
 ·exact dl_inj h2 h0 (e.symm.trans hb)
theorem time_bad {v : Int} (hv : 999 < v) : okK (timeS k v) = false := okK_pre (pre_f (.inr (.inl (inB_f (.inr hv)))))
theorem next_bad {v : Int} (hv : 100 < v) : okK { k with next := v } = false := okK_pre (pre_f (.inr (.inr (.inl (inB_f (.inr hv))))))
theorem rec_time_no (hw : (word l).1 = kwTime) {v : Int} (hr : Reads (word l).2 v) (hv : v ≤ k.time) : RecP k l k false := by
 refine .inr ⟨.inl rfl, nodo_of fun r x ho h1 h2 ha => ?_⟩
 obtain ⟨m, rfl⟩ := kw_time (h1.trans hw)
 have := reads_dl hr h2.symm ho.1 (by have := ho.2; omega)
 subst this
 rw [applyS, if_neg (by omega)] at ha
 cases ha
theorem rec_time_yes (hk : okK k = true) (hw : (word l).1 = kwTime) {v : Int} (hr : Reads (word l).2 v) (hv : k.time < v) : RecP k l (timeS k v) true := by
 obtain ⟨_, ht, _⟩ := okK_parts hk
 have ht := (inB_iff.1 ht).1
 have hd : (word l).2 = dl v := by
  rcases hr with ⟨e, _⟩ | ⟨_, _, e⟩
  ·omega
  ·exact e
 have hl := l_of hw hd (dl_ne _)
 by_cases h9 : v ≤ 999
 ·exact .inl ⟨rfl, .time v, ⟨by omega, h9⟩, hl, by rw [applyS, if_pos hv]⟩
 ·refine .inr ⟨.inr (time_bad (by omega)), nodo_of fun r x ho h1 h2 ha => ?_⟩
  obtain ⟨m, rfl⟩ := kw_time (h1.trans hw)
  have := reads_dl hr h2.symm ho.1 (by have := ho.2; omega)
  have := ho.2
  omega
theorem rec_next_no (hw : (word l).1 = kwNext) {v : Int} (hr : Reads (word l).2 v) (hv : v ≤ k.next) : RecP k l k false := by
 refine .inr ⟨.inl rfl, nodo_of fun r x ho h1 h2 ha => ?_⟩
 obtain ⟨m, rfl⟩ := kw_next (h1.trans hw)
 have := reads_dl hr h2.symm ho.1 (by have := ho.2; omega)
 subst this
 rw [applyS, if_neg (by omega)] at ha
 cases ha
theorem rec_next_yes (hk : okK k = true) (hw : (word l).1 = kwNext) {v : Int} (hr : Reads (word l).2 v) (hv : k.next < v) : RecP k l { k with next := v } true := by
 obtain ⟨_, _, ht, _⟩ := okK_parts hk
 have ht := (inB_iff.1 ht).1
 have hd : (word l).2 = dl v := by
  rcases hr with ⟨e, _⟩ | ⟨_, _, e⟩
  ·omega
  ·exact e
 have hl := l_of hw hd (dl_ne _)
 by_cases h9 : v ≤ 999
 ·exact .inl ⟨rfl, .next v, ⟨by omega, h9⟩, hl, by rw [applyS, if_pos hv]⟩
 ·refine .inr ⟨.inr (next_bad (by omega)), nodo_of fun r x ho h1 h2 ha => ?_⟩
  obtain ⟨m, rfl⟩ := kw_next (h1.trans hw)
  have := reads_dl hr h2.symm ho.1 (by have := ho.2; omega)
  have := ho.2
  omega
theorem rd_note {b : Bool} {y x : Nt} {r : List UInt8} (h : RD (str r) b y.f y.n y.t y.u y.s) (ho : okNt x = true) (e : wlN x = r) : b = true ∧ y = x := by
 obtain ⟨h1, h2, h3, h4, h5, h6⟩ := rd_one h (.inl ⟨rfl, ho, by rw [← e]; rfl⟩ : RD (str r) true x.f x.n x.t x.u x.s)
 refine ⟨h1, ?_⟩
 cases x; cases y
 simp at h2 h3 h4 h5 h6
 rw [h2, h3, h4, h5, h6]
theorem rd_true {y : Nt} {r : List UInt8} (h : RD (str r) true y.f y.n y.t y.u y.s) : okNt y = true ∧ wlN y = r := by
 rcases h with ⟨_, ho, e⟩ | ⟨h, _⟩
 ·exact ⟨ho, (str_inj e).symm⟩
 ·cases h
theorem wlN_ne (x : Nt) : wlN x ≠ [] := wl_ne _ _ _ _ _
theorem rec_own_no {b : Bool} {y : Nt} (hw : (word l).1 = kwOwn) (hr : RD (str (word l).2) b y.f y.n y.t y.u y.s) (hv : b = false ∨ y.f ≠ k.id ∨ y.n ≠ k.next) : RecP k l k false := by
 refine .inr ⟨.inl rfl, nodo_of fun r x ho h1 h2 ha => ?_⟩
 obtain ⟨m, rfl⟩ := kw_own (h1.trans hw)
 obtain ⟨rfl, rfl⟩ := rd_note hr ho h2
 rw [applyS, if_neg (by rintro ⟨a, b⟩; rcases hv with h | h | h; cases h; exact h a; exact h b)] at ha
 cases ha
theorem rec_own_yes {y : Nt} (hw : (word l).1 = kwOwn) (hr : RD (str (word l).2) true y.f y.n y.t y.u y.s) (h1 : y.f = k.id) (h2 : y.n = k.next) : RecP k l (takeS { k with next := k.next + 1 } y) (takeB { k with next := k.next + 1 } y) := by
 obtain ⟨ho, hb⟩ := rd_true hr
 have ha : applyS k (.own y) = takeO { k with next := k.next + 1 } y := by rw [applyS, if_pos ⟨h1, h2⟩]
 cases ht : takeB { k with next := k.next + 1 } y with
 | true => exact .inl ⟨rfl, .own y, ho, l_of hw hb.symm (wlN_ne _), by rw [ha, takeO, if_pos ht]⟩
 | false =>
  refine .inr ⟨.inl rfl, nodo_of fun r x ho' h1' h2' ha' => ?_⟩
  obtain ⟨m, rfl⟩ := kw_own (h1'.trans hw)
  obtain ⟨_, rfl⟩ := rd_note hr ho' h2'
  rw [ha, takeO, ht] at ha'
  cases ha'
theorem rec_take_no {b : Bool} {y : Nt} (hw : (word l).1 = kwTake) (hr : RD (str (word l).2) b y.f y.n y.t y.u y.s) (hv : b = false ∨ y.f = k.id) : RecP k l k false := by
 refine .inr ⟨.inl rfl, nodo_of fun r x ho h1 h2 ha => ?_⟩
 obtain ⟨m, rfl⟩ := kw_take (h1.trans hw)
 obtain ⟨rfl, rfl⟩ := rd_note hr ho h2
 rw [applyS, if_pos (by rcases hv with h | h; cases h; exact h)] at ha
 cases ha
theorem rec_take_yes {y : Nt} (hw : (word l).1 = kwTake) (hr : RD (str (word l).2) true y.f y.n y.t y.u y.s) (h1 : y.f ≠ k.id) : RecP k l (takeS k y) (takeB k y) := by
 obtain ⟨ho, hb⟩ := rd_true hr
 have ha : applyS k (.take y) = takeO k y := by rw [applyS, if_neg h1]
 cases ht : takeB k y with
 | true => exact .inl ⟨rfl, .take y, ho, l_of hw hb.symm (wlN_ne _), by rw [ha, takeO, if_pos ht]⟩
 | false =>
  refine .inr ⟨.inl rfl, nodo_of fun r x ho' h1' h2' ha' => ?_⟩
  obtain ⟨m, rfl⟩ := kw_take (h1'.trans hw)
  obtain ⟨_, rfl⟩ := rd_note hr ho' h2'
  rw [ha, takeO, ht] at ha'
  cases ha'
theorem rec_held_no {b : Bool} {y : Nt} (hw : (word l).1 = kwHeld) (hr : RD (str (word l).2) b y.f y.n y.t y.u y.s) (hv : b = false ∨ hasN k.held y.f y.n = true ∨ hasN k.inbox y.f y.n = true) : RecP k l k false := by
 refine .inr ⟨.inl rfl, nodo_of fun r x ho h1 h2 ha => ?_⟩
 obtain ⟨m, rfl⟩ := kw_held (h1.trans hw)
 obtain ⟨rfl, rfl⟩ := rd_note hr ho h2
 rw [applyS, if_pos (by rcases hv with h | h; cases h; exact h)] at ha
 cases ha
theorem rec_held_yes {y : Nt} (hw : (word l).1 = kwHeld) (hr : RD (str (word l).2) true y.f y.n y.t y.u y.s) (h1 : hasN k.held y.f y.n = false) (h2 : hasN k.inbox y.f y.n = false) : RecP k l { k with held := putN k.held y } true := by
 obtain ⟨ho, hb⟩ := rd_true hr
 exact .inl ⟨rfl, .held y, ho, l_of hw hb.symm (wlN_ne _), by rw [applyS, if_neg (by rw [h1, h2]; simp)]⟩
theorem rec_inbox_no {b : Bool} {y : Nt} (hw : (word l).1 = kwInbox) (hr : RD (str (word l).2) b y.f y.n y.t y.u y.s) (hv : b = false ∨ hasN k.held y.f y.n = true ∨ hasN k.inbox y.f y.n = true) : RecP k l k false := by
 refine .inr ⟨.inl rfl, nodo_of fun r x ho h1 h2 ha => ?_⟩
 obtain ⟨m, rfl⟩ := kw_inbox (h1.trans hw)
 obtain ⟨rfl, rfl⟩ := rd_note hr ho h2
 rw [applyS, if_pos (by rcases hv with h | h; cases h; exact h)] at ha
 cases ha
theorem rec_inbox_yes {y : Nt} (hw : (word l).1 = kwInbox) (hr : RD (str (word l).2) true y.f y.n y.t y.u y.s) (h1 : hasN k.held y.f y.n = false) (h2 : hasN k.inbox y.f y.n = false) : RecP k l { k with inbox := putN k.inbox y } true := by
 obtain ⟨ho, hb⟩ := rd_true hr
 exact .inl ⟨rfl, .inbox y, ho, l_of hw hb.symm (wlN_ne _), by rw [applyS, if_neg (by rw [h1, h2]; simp)]⟩
def dlm (v : Int) : List UInt8 := if v = -1 then [45, 49] else dl v
def m3m (a b c : Int) : List UInt8 := dlm a ++ 32 :: (dlm b ++ 32 :: dlm c)
theorem dlm_pos {v : Int} (h : 0 ≤ v) : dlm v = dl v := if_neg (by omega)
theorem word_all (v : Int) : word (dl v) = (dl v, []) := word_none fun i h => by
 have hm := List.mem_of_getElem? h
 exact dg_ne (List.all_eq_true.1 (dl_all v) _ hm) rfl
theorem m3_read {f n u a b c : Int} {r : List UInt8} (hf : 0 ≤ f ∧ f ≤ 9999) (hn : 0 ≤ n ∧ n ≤ 9999) (hu : 0 ≤ u ∧ u ≤ 9999) (e : m3 f n u = r) (h : ReadK r [a, b, c]) : a = f ∧ b = n ∧ c = u ∧ restK r 3 = [] ∧ m3m a b c = r := by
 have w0 : word r = (dl f, dl n ++ 32 :: dl u) := by rw [← e]; exact word_dl f _
 have w1 : word (restK r 1) = (dl n, dl u) := by show word (word r).2 = _; rw [w0]; exact word_dl n _
 have w2 : word (restK r 2) = (dl u, []) := by show word (word (restK r 1)).2 = _; rw [w1]; exact word_all u
 have ha := reads_dl (h 0 a rfl) (show (word r).1 = dl f by rw [w0]) hf.1 hf.2
 have hb := reads_dl (h 1 b rfl) (show (word (restK r 1)).1 = dl n by rw [w1]) hn.1 hn.2
 have hc := reads_dl (h 2 c rfl) (show (word (restK r 2)).1 = dl u by rw [w2]) hu.1 hu.2
 refine ⟨ha, hb, hc, show (word (restK r 2)).2 = [] by rw [w2], ?_⟩
 rw [← e, ha, hb, hc]
 unfold m3m m3
 rw [dlm_pos hf.1, dlm_pos hn.1, dlm_pos hu.1]
theorem m3M_read {m : Mk} {a b c : Int} {r : List UInt8} (ho : okMk m = true) (e : m3M m = r) (h : ReadK r [a, b, c]) : m = ⟨a, b, c⟩ ∧ restK r 3 = [] ∧ m3m a b c = r := by
 obtain ⟨a1, a2, a3⟩ := okMk_parts ho
 obtain ⟨h1, h2, h3, h4, h5⟩ := m3_read (by omega) (by omega) (by omega) e h
 refine ⟨?_, h4, h5⟩
 cases m
 simp at h1 h2 h3
 rw [h1, h2, h3]
def kw3 (x : List UInt8) : Prop := x = kwLet ∨ x = kwEat ∨ x = kwMark
theorem rec_three_no {a b c : Int} (hw : ∀ r : Rc, kw r = (word l).1 → kw3 (word l).1) (hr : ReadK (word l).2 [a, b, c]) (hv : restK (word l).2 3 ≠ [] ∨ m3m a b c ≠ (word l).2) : RecP k l k false := by
 refine .inr ⟨.inl rfl, nodo_of fun r x ho h1 h2 ha => ?_⟩
 exfalso
 have key : ∀ m : Mk, okMk m = true → m3M m = (word l).2 → False := fun m hm e => by
  obtain ⟨_, e1, e2⟩ := m3M_read hm e hr
  rcases hv with h | h
  ·exact h e1
  ·exact h e2
 rcases hw r h1 with h | h | h
 ·obtain ⟨m, rfl⟩ := kw_let (h1.trans h); exact key m ho h2
 ·obtain ⟨m, rfl⟩ := kw_eat (h1.trans h); exact key m ho h2
 ·obtain ⟨m, rfl⟩ := kw_mark (h1.trans h); exact key m ho h2
theorem m3m_ok {m : Mk} {r : List UInt8} (h : okMk m = true) (e : m3m m.f m.n m.u = r) : r = m3M m := by
 obtain ⟨a1, a2, a3⟩ := okMk_parts h
 rw [← e]
 unfold m3m m3M m3
 rw [dlm_pos (by omega), dlm_pos (by omega), dlm_pos (by omega)]
theorem rec_let_no {m : Mk} (hw : (word l).1 = kwLet) (hr : ReadK (word l).2 [m.f, m.n, m.u]) (hv : k.held.findIdx? (isM m) = none) : RecP k l k false := by
 refine .inr ⟨.inl rfl, nodo_of fun r x ho h1 h2 ha => ?_⟩
 obtain ⟨m', rfl⟩ := kw_let (h1.trans hw)
 obtain ⟨e, _⟩ := m3M_read ho h2 hr
 subst e
 rw [applyS] at ha
 simp only [hv] at ha
 cases ha
theorem rec_let_yes {m : Mk} {i : Nat} (hk : okK k = true) (hw : (word l).1 = kwLet) (he : m3m m.f m.n m.u = (word l).2) (hv : k.held.findIdx? (isM m) = some i) : RecP k l (letS k i m) true := by
 obtain ⟨_, _, _, h4, _⟩ := okK_parts hk
 have ho := (findM_ok h4 hv).1
 have hb := m3m_ok ho he
 exact .inl ⟨rfl, .lets m, ho, l_of hw hb (m3_ne _ _ _), by rw [applyS]; simp only [hv]⟩
theorem rec_eat_no {m : Mk} (hw : (word l).1 = kwEat) (hr : ReadK (word l).2 [m.f, m.n, m.u]) (hv : k.inbox.findIdx? (isM m) = none) : RecP k l k false := by
 refine .inr ⟨.inl rfl, nodo_of fun r x ho h1 h2 ha => ?_⟩
 obtain ⟨m', rfl⟩ := kw_eat (h1.trans hw)
 obtain ⟨e, _⟩ := m3M_read ho h2 hr
 subst e
 rw [applyS] at ha
 simp only [hv] at ha
 cases ha
theorem rec_eat_yes {m : Mk} {i : Nat} (hk : okK k = true) (hw : (word l).1 = kwEat) (he : m3m m.f m.n m.u = (word l).2) (hv : k.inbox.findIdx? (isM m) = some i) : RecP k l (eatS k i) true := by
 obtain ⟨_, _, _, _, _, h6, _⟩ := okK_parts hk
 have ho := (findM_ok h6 hv).1
 have hb := m3m_ok ho he
 exact .inl ⟨rfl, .eat m, ho, l_of hw hb (m3_ne _ _ _), by rw [applyS]; simp only [hv]⟩
theorem rec_mark_no {m : Mk} (hw : (word l).1 = kwMark) (hr : ReadK (word l).2 [m.f, m.n, m.u]) (hv : hasM k.marks m.f m.n = true) : RecP k l k false := by
 refine .inr ⟨.inl rfl, nodo_of fun r x ho h1 h2 ha => ?_⟩
 obtain ⟨m', rfl⟩ := kw_mark (h1.trans hw)
 obtain ⟨e, _⟩ := m3M_read ho h2 hr
 subst e
 rw [applyS, if_pos hv] at ha
 cases ha
theorem putM_mem (l : List Mk) (m : Mk) : m ∈ putM l m := by unfold putM putL; simp
theorem mark_bad {m : Mk} (h : okMk m = false) : okK { k with marks := putM k.marks m } = false := by
 cases ho : okK { k with marks := putM k.marks m } with
 | false => rfl
 | true =>
  obtain ⟨_, _, _, _, h5, _⟩ := okK_parts ho
  rw [okMks_mem h5 (putM_mem k.marks m)] at h
  cases h
theorem rec_mark_yes {m : Mk} (hw : (word l).1 = kwMark) (hr : ReadK (word l).2 [m.f, m.n, m.u]) (he : m3m m.f m.n m.u = (word l).2) (hv : hasM k.marks m.f m.n = false) : RecP k l { k with marks := putM k.marks m } true := by
 cases ho : okMk m with
 | true =>
  have hb := m3m_ok ho he
  exact .inl ⟨rfl, .mark m, ho, l_of hw hb (m3_ne _ _ _), by rw [applyS, if_neg (by rw [hv]; simp)]⟩
 | false =>
  refine .inr ⟨.inr (mark_bad ho), nodo_of fun r x ho' h1 h2 ha => ?_⟩
  exfalso
  obtain ⟨m', rfl⟩ := kw_mark (h1.trans hw)
  obtain ⟨e, _⟩ := m3M_read ho' h2 hr
  subst e
  have ho' : okMk m = true := ho'
  rw [ho] at ho'
  cases ho'
theorem rec_other (hw : ∀ r : Rc, kw r ≠ (word l).1) : RecP k l k false := .inr ⟨.inl rfl, nodo_word hw⟩
end
end Go.Proofs.YtckicpnnclbkpaaGreatDoor.kp

