/-
  Merged texts: IEach, As, IShRead, ShelfFn, ShelfTwo.
-/
import Derived.Test.YtckicpnnclbkpaaGreatDoorE4
import Derived.Test.YtckicpnnclbkpaaGreatDoorRangeCur
import Derived.RangeFuncNested
import Derived.RangeFuncBound
import Derived.RangeFuncCalls
import Derived.RangeFuncLeaves
import Derived.Shelf.Abstract
import Derived.Shelf.RegionOpen
import Derived.OwnWalkIn
import Derived.TacticsInMore
import Derived.LoopNIn
import Derived.LoopIn
import Derived.LaidEql
import Derived.Stop.Asserts
import Derived.RowKitTokens
import Derived.Maps.AppendAt
namespace Go.Proofs.YtckicpnnclbkpaaGreatDoor.sh
open Go.ChangeShapes Go.WideShapes Go.ChangeAt Go.RowKit Go.Shelf
open nb ok wd dc
open Go.Proofs.YtckicpnnclbkpaaGreatDoor.rc (Free SeqCur)
attribute [local go_sem] Oper.semAt_some
abbrev Step := List UInt8 ⊕ Nat
def stepR : Step → Value
 | .inl x => .string (str x)
 | .inr _ => .string ⟨#[]⟩
def stepE : Step → Value
 | .inl _ => .nilIface
 | .inr k => errV k
def stepV (x : Step) : Array Value := #[stepR x, stepE x]
def full (l : List UInt8) : List Step := (rd l).map .inl ++ (if en l < l.length then [.inr (en l)] else [])
theorem Part.pre {l : List UInt8} {xs : List (List UInt8)} (h : Part l xs) : ∃ c, rd l = xs ++ c := by
 obtain ⟨h1, u, h2, h3⟩ := rd_spec l
 obtain ⟨t, ht⟩ := h.rest
 obtain ⟨c, hc, _⟩ := lg_part (t := t) h.rks h1 h3 (ht.symm.trans h2)
 exact ⟨c, hc⟩
theorem full_on {l : List UInt8} {xs : List (List UInt8)} {x : List UInt8} (h : Part l (xs ++ [x])) : (xs.map Sum.inl ++ [.inl x] : List Step) <+: full l ∧ (xs.map Sum.inl : List Step).length < (full l).length := by
 obtain ⟨c, hc⟩ := h.pre
 have e : full l = (xs.map Sum.inl ++ [.inl x]) ++ (c.map Sum.inl ++ (if en l < l.length then [.inr (en l)] else [])) := by unfold full; rw [hc]; simp
 exact ⟨⟨_, e.symm⟩, by rw [e]; simp⟩
theorem full_stop {l : List UInt8} {xs : List (List UInt8)} (h : Part l xs) (h0 : one (l.drop (lg xs).length) = none) (hlt : (lg xs).length < l.length) :
  full l = xs.map Sum.inl ++ [.inr (lg xs).length] ∧ (xs.map Sum.inl : List Step).length < (full l).length := by
 obtain ⟨h1, h2⟩ := h.done h0
 have e : full l = xs.map Sum.inl ++ [.inr (lg xs).length] := by unfold full; rw [h1, h2, if_pos hlt]
 exact ⟨e, by rw [e]; simp⟩
theorem full_end {l : List UInt8} {xs : List (List UInt8)} (h : Part l xs) (hle : l.length ≤ (lg xs).length) : full l = xs.map Sum.inl := by
 obtain ⟨h1, h2⟩ := h.end_ hle
 unfold full
 rw [h1, h2, if_neg (by omega)]
 simp
theorem each_any (s : ByteArray) (w : World) :
  Calls Tryz.prog 89 #[.string s] w fun e w' => e = .returned (.func (.func 128) #[] #[.pointer (some ⟨w.heap.size, 0, none⟩)]) ∧ w' = w.alloc (.cells #[.string s] 9) := by
 go_enter Tryz.func89, Tryz.ntmps89
 go_wp2
 go_ret
 exact ⟨rfl, rfl⟩
def Kept (B n₀ C : Nat) (V V' : World) : Prop := Below n₀ V V' ∧ V'.heap[B]? = V.heap[B]? ∧ V'.heap[C]? = V.heap[C]?
def curAt (C : Nat) (V : World) : Nat := match V.cell? ⟨C, 1, none⟩ with | some (.int _ z) => z.toNat | _ => 0
theorem curAt_blk {V : World} {C : Nat} {s : ByteArray} {k : Nat} (h : Blk V C 178 #[.string s, .int .i64 k]) : curAt C V = k := by
 unfold curAt
 rw [h.cell 1]
 simp
def Head (w₀ : World) (B C : Nat) (s : ByteArray) (J : List Step → World → Prop) (V : World) : Prop :=
 ∃ xs : List (List UInt8), Part s.data.toList xs ∧ Blk V C 178 #[.string s, .int .i64 ((lg xs).length : Nat)] ∧ Blk V B 9 #[.string s] ∧ Below w₀.heap.size w₀ V ∧ J (xs.map Sum.inl) V
theorem below_grownC {A B : World} (h : Below A.heap.size A B) (C : Nat) : A.grownBy B (some C) := ⟨h.os, h.tape, h.output, h.size, fun k hk _ => h.block k hk⟩
theorem grown_setC {A B : World} {C : Nat} (h : A.grownBy B (some C)) (i : Nat) (v : Value) : A.grownBy (B.setCell ⟨C, i, none⟩ v) (some C) :=
 ⟨h.os, h.tape, h.output, by simpa using h.size, fun k hk hne => (Below.heap_setCell B ⟨C, i, none⟩ v k (fun e => hne (by rw [e]))).trans (h.block k hk hne)⟩
set_option maxRecDepth 100000 in
set_option maxHeartbeats 4000000 in
theorem each1_in (n : Nat) (w₀ W : World) (B : Nat) (s : ByteArray) (hs : s.size ≤ 8388608) (hB : Blk W B 9 #[.string s]) (hw : Below w₀.heap.size w₀ W) (hT : Tab w₀) (hE : Errs w₀) :
  SeqCur Fence.wide n Tryz.prog 128 #[.pointer (some ⟨B, 0, none⟩)] stepV (Kept B w₀.heap.size) (fun xs => xs = full s.data.toList) (fun pre => pre <+: full s.data.toList) (full s.data.toList).length W := by
 intro l J Jx hJ hJx hY h0
 have b0 := hB.cell 0
 simp only [List.getElem?_toArray, List.getElem?_cons_zero] at b0
 refine callsIn_of_wp Tryz.func128 rfl trivial ?_ rfl
 simp only [Tryz.ntmps128, List.size_toArray, List.length_cons, List.length_nil, Nat.reduceAdd, Nat.reduceSub, Array.replicate_succ, Array.replicate_zero, List.push_toArray, List.append_toArray, List.nil_append, List.cons_append]
 gi_wp2
 gi_loopw [4] (fun _ V => Head w₀ B W.heap.size s J V) (fun _ V => s.size - curAt W.heap.size V)
 case atStart => exact ⟨[], Part.nil _, Blk.new W _ _, hB.alloc _, hw.alloc hw.size _, hJ _ _ _ h0 (World.grownBy_alloc W _ _)⟩
 case round =>
  obtain ⟨xs, hP, hCb, hBb, hBel, hJs⟩ := hrel
  have hc0 := hCb.cell 0
  have hc1 := hCb.cell 1
  have hb0 := hBb.cell 0
  simp only [List.getElem?_toArray, List.getElem?_cons_zero, List.getElem?_cons_succ] at hc0 hc1 hb0
  have hCl := hCb.lt
  have hBl := hBb.lt
  have hM := curAt_blk hCb
  have HCb := Lib.hid hCb
  have HBb := Lib.hid hBb
  have HBel := Lib.hid hBel
  have HJs := Lib.hid hJs
  have HP := Lib.hid hP
  have hle : (lg xs).length ≤ s.size := by have := hP.le; rwa [← Lib.size_eq] at this
  clear hCb hBb hBel hJs hP b0
  generalize hk : (lg xs).length = k at hc1 HCb hM hle
  have HK := Lib.hid hk
  clear hk
  by_cases hlt : k < s.size
  ·have HN := Lib.hid (inext_any W.heap.size s k wr HCb.out hle hs (hT.later HBel.out) (hE.later HBel.out))
   gi_wp2_with fail
   refine ⟨trivial, fun h => (by cases h), (callsIn_wide.2 HN.out).mono ?_⟩
   rintro e w2 (⟨h1, rfl, hB2⟩ | ⟨x, m, h1, rfl, V, hB2, rfl⟩)
   ·-- no record: the error is yielded
    have HJ2 := hJ _ _ _ HJs.out (below_grownC hB2 _)
    rw [← HK.out] at h1
    obtain ⟨hF1, hF2⟩ := full_stop HP.out h1 (by rw [HK.out, ← Lib.size_eq]; exact hlt)
    rw [HK.out] at hF1
    obtain ⟨fn, tmps, assign, body, hy, hR⟩ := hY (xs.map Sum.inl) (.inr k) w2 HJ2 hF2 (Nat.lt_of_lt_of_le hCl hB2.size)
    have HF1 := Lib.hid hF1
    clear hF1 hF2 HJ2 h1
    dsimp only [stepV, stepR, stepE] at hy
    unfold errV at hy ⊢
    gi_wp2
    refine ⟨fun h => (by cases h), hR.mono ?_⟩
    rintro e W3 (⟨rfl, hJ3, hk3⟩ | ⟨rfl, hJx3⟩)
    ·gi_wp2
     refine bodyPost_ret (results_none rfl _ _ _) rfl ?_
     exact ⟨⟨_, rfl⟩, .inl ⟨_, HF1.out.symm, hJ3⟩⟩
    ·gi_wp2
     refine bodyPost_ret (results_none rfl _ _ _) rfl ?_
     exact ⟨⟨_, rfl⟩, .inr ⟨_, ⟨[], by rw [HF1.out]; simp⟩, hJx3⟩⟩
   ·-- a record is yielded
    have hG2 := grown_setC (below_grownC hB2 W.heap.size) 1 (.int .i64 ((k + m : Nat) : Int))
    have HJ2 := hJ _ _ _ HJs.out hG2
    rw [← HK.out] at h1
    obtain ⟨hP2, hl2, hm1, hm2⟩ := HP.out.on h1
    rw [HK.out] at hl2
    obtain ⟨hF1, hF2⟩ := full_on hP2
    have hsz2 : W.heap.size < (V.setCell ⟨W.heap.size, 1, none⟩ (.int .i64 ((k + m : Nat) : Int))).heap.size := Nat.lt_of_lt_of_le hCl hG2.size
    obtain ⟨fn, tmps, assign, body, hy, hR⟩ := hY (xs.map Sum.inl) (.inl x) _ HJ2 hF2 hsz2
    have HF1 := Lib.hid hF1
    have HP2 := Lib.hid hP2
    have HL2 := Lib.hid hl2
    have hC2 : Blk (V.setCell ⟨W.heap.size, 1, none⟩ (.int .i64 ((k + m : Nat) : Int))) W.heap.size 178 #[.string s, .int .i64 ((k + m : Nat) : Int)] := ((HCb.out.below hB2 hCl).put 1 _)
    have hBC : B ≠ W.heap.size := fun e => by have := hB.lt; omega
    have hBx : Blk (V.setCell ⟨W.heap.size, 1, none⟩ (.int .i64 ((k + m : Nat) : Int))) B 9 #[.string s] := (HBb.out.below hB2 hBl).far (p := ⟨W.heap.size, 1, none⟩) hBC _
    have hBe2 : Below w₀.heap.size w₀ (V.setCell ⟨W.heap.size, 1, none⟩ (.int .i64 ((k + m : Nat) : Int))) := (HBel.out.trans (hB2.mono HBel.out.size)).setCell (p := ⟨W.heap.size, 1, none⟩) hw.size _
    have HC2 := Lib.hid hC2
    have HBx := Lib.hid hBx
    have HBe2 := Lib.hid hBe2
    clear hF1 hF2 HJ2 h1 hP2 hl2 hG2 hB2 hC2 hBx hBe2
    dsimp only [stepV, stepR, stepE] at hy
    generalize V.setCell ⟨W.heap.size, 1, none⟩ (.int .i64 ((k + m : Nat) : Int)) = W2 at *
    gi_wp2
    refine ⟨fun h => (by cases h), hR.mono ?_⟩
    rintro e W3 (⟨rfl, hJ3, hk3⟩ | ⟨rfl, hJx3⟩)
    ·have hC3 : Blk W3 W.heap.size 178 #[.string s, .int .i64 ((k + m : Nat) : Int)] := hk3.2.2.trans HC2.out
     have hM3 := curAt_blk hC3
     have HH : Hid (Head w₀ B W.heap.size s J W3) := ⟨xs ++ [x], HP2.out, by rw [HL2.out]; exact hC3, hk3.2.1.trans HBx.out, HBe2.out.trans hk3.1, by simpa using hJ3⟩
     clear hC3 hk3 hJ3
     gi_wp2
     go_roundw
     case rel => exact HH.out
     case measure => rw [hM3, hM]; omega
    ·gi_wp2
     refine bodyPost_ret (results_none rfl _ _ _) rfl ?_
     exact ⟨⟨_, rfl⟩, .inr ⟨_, HF1.out, hJx3⟩⟩
  ·have HF := Lib.hid (full_end HP.out (by rw [HK.out, ← Lib.size_eq]; omega))
   gi_wp2
   go_end0
   exact ⟨⟨_, rfl⟩, .inl ⟨_, HF.out.symm, HJs.out⟩⟩
end Go.Proofs.YtckicpnnclbkpaaGreatDoor.sh

namespace Go.Proofs.YtckicpnnclbkpaaGreatDoor.as
open Go.RowKit Go.Extern.Stop Go.Stop Go.Extern
theorem as_nil (t : Value) (w : World) :
  Calls Tryz.prog 90 #[.nilIface, t] w fun e w' => e = .returned (.bool false) ∧ w' = w := by
 go_enter Tryz.func90, Tryz.ntmps90
 go_wp2
 go_ret
 exact ⟨rfl, rfl⟩
abbrev hd (t : Nat) : Value := .pointer (some ⟨7, t, none⟩)
abbrev vP (a : Addr) : Value := .agg #[hd 130, .pointer (some a), .int .u64 150]
abbrev vE (a : Addr) : Value := .agg #[hd 123, .pointer (some a), .int .u64 409]
abbrev vR (a : Addr) : Value := .agg #[hd 123, .pointer (some a), .int .u64 153]
theorem valueP (t : Addr) (w : World) : (ReflectliteValue.unpack (.iface 130 (.pointer (some t)))).run Tryz.prog w
  = .ok (vP ⟨w.heap.size, 0, none⟩) (w.alloc (.cells #[.pointer (some t)] 130)) := by kernel_rfl
theorem valueR (n : Int) (w : World) : (ReflectliteValue.unpack (.iface 123 (.agg #[.int .i64 n]))).run Tryz.prog w
  = .ok (vR ⟨w.heap.size, 0, none⟩) (w.alloc (.cells #[.int .i64 n] 123)) := by kernel_rfl
theorem typeP (a : Addr) (w : World) : (ReflectliteValue.methodAny (ReflectliteValue.valueError "reflectlite.Value.Type" 0) (fun t _ _ _ => ReflectliteType.toType t) #[vP a]).run Tryz.prog w
  = .ok (.iface 221 (.agg #[hd 130])) w := by kernel_rfl
theorem mKind (h : Value) (w : World) : (Go.method 453 221 (.agg #[h]) "Kind").run Tryz.prog w = .ok (270, h) w := by kernel_rfl
theorem mElem (h : Value) (w : World) : (Go.method 453 221 (.agg #[h]) "Elem").run Tryz.prog w = .ok (282, .agg #[h]) w := by kernel_rfl
theorem mImpl (h : Value) (w : World) : (Go.method 453 221 (.agg #[h]) "Implements").run Tryz.prog w = .ok (283, .agg #[h]) w := by kernel_rfl
theorem mAssign (h : Value) (w : World) : (Go.method 453 221 (.agg #[h]) "AssignableTo").run Tryz.prog w = .ok (280, .agg #[h]) w := by kernel_rfl
theorem kindP (w : World) : ((ReflectliteType.abiMethod fun t => (fun a : Nat => Value.int IntKind.u8 (a : Int)) <$> Rtype.kind t) #[hd 130]).run Tryz.prog w = .ok (.int .u8 22) w := by kernel_rfl
theorem kindR (w : World) : ((ReflectliteType.abiMethod fun t => (fun a : Nat => Value.int IntKind.u8 (a : Int)) <$> Rtype.kind t) #[hd 123]).run Tryz.prog w = .ok (.int .u8 25) w := by kernel_rfl
theorem elemP (w : World) : (ReflectliteType.method ReflectliteType.elem #[.agg #[hd 130]]).run Tryz.prog w = .ok (.iface 221 (.agg #[hd 123])) w := by kernel_rfl
theorem implR (w : World) : (ReflectliteType.relation "Implements" ReflectliteType.implements_ #[.agg #[hd 123], .iface 221 (.agg #[hd 128])]).run Tryz.prog w = .ok (.bool true) w := by kernel_rfl
theorem typeOfR (v : Value) (w : World) : (ReflectliteType.typeOf #[.iface 123 v]).run Tryz.prog w = .ok (.iface 221 (.agg #[hd 123])) w := by kernel_rfl
theorem assignR (w : World) : (ReflectliteType.relation "AssignableTo" ReflectliteType.assignableTo #[.agg #[hd 123], .iface 221 (.agg #[hd 123])]).run Tryz.prog w = .ok (.bool true) w := by kernel_rfl
theorem methP (z : Sem Value) (f : TypeId → Addr → Nat → Nat → Sem Value) (a : Addr) (W : World) : (ReflectliteValue.method z f #[vP a]).run Tryz.prog W = (f 130 a 150 22).run Tryz.prog W := by kernel_rfl
theorem isNilP (a p : Addr) (W : World) (ha : W.cell? a = some (.pointer (some p))) :
  (ReflectliteValue.method (ReflectliteValue.valueError "reflectlite.Value.IsNil" 0) ReflectliteValue.isNil #[vP a]).run Tryz.prog W = .ok (.bool false) W := by
 rw [methP]
 simp [ReflectliteValue.isNil, loadVar, isAgg, underlying, Tryz.underlying130, ha, Result.andThen]
theorem elemOfP (w : World) : (Rtype.elem? 130).run Tryz.prog w = .ok (some 123) w := by kernel_rfl
theorem mkE (p : Addr) (w : World) : (ReflectliteValue.mk 123 p ReflectliteValue.flagAddr).run Tryz.prog w = .ok (vE p) w := by kernel_rfl
theorem elemV (a p : Addr) (W : World) (ha : W.cell? a = some (.pointer (some p))) :
  (ReflectliteValue.method (ReflectliteValue.valueError "reflectlite.Value.Elem" 0) ReflectliteValue.elem #[vP a]).run Tryz.prog W = .ok (vE p) W := by
 rw [methP]
 simp [ReflectliteValue.elem, loadVar, isAgg, underlying, Tryz.underlying130, ha, Result.andThen, elemOfP, mkE]
theorem partsE (a : Addr) (w : World) : (ReflectliteValue.parts (vE a)).run Tryz.prog w = .ok (some (123, a, 409)) w := by kernel_rfl
theorem partsR (a : Addr) (w : World) : (ReflectliteValue.parts (vR a)).run Tryz.prog w = .ok (some (123, a, 153)) w := by kernel_rfl
theorem direct (w : World) : (Rtype.directlyAssignable 123 123).run Tryz.prog w = .ok true w := by kernel_rfl
theorem loadR (g o : Nat) (x : Value) (W : World) (hb : W.cell? ⟨g, o, none⟩ = some x) : (loadVar 123 ⟨g, o, none⟩).run Tryz.prog W = .ok (.agg #[x]) W := by
 unfold loadVar
 simp [Result.andThen, loadCells, loadCellsFrom, Addr.add, hb]
theorem setR (ta : Addr) (g o : Nat) (n : Int) (old : Value) (W : World) (hb : W.cell? ⟨g, o, none⟩ = some (.int .i64 n)) (ht : W.cell? ta = some old) (hf : W.frozen? ta = false) :
  (ReflectliteValue.set #[vE ta, vR ⟨g, o, none⟩]).run Tryz.prog W = .ok (.tuple #[]) (W.setCell ta (.int .i64 n)) := by
 delta ReflectliteValue.set
 change Sem.run _ (ReflectliteValue.parts (vE ta) >>= fun p => ReflectliteValue.parts (vR ⟨g, o, none⟩) >>= fun q => _) _ = _
 simp only [Sem.run_bind, partsE, partsR, Result.andThen]
 simp [ReflectliteValue.flagAddr, loadR g o _ W hb, Result.andThen, direct, storeVar, Value.cells, storeCells, Addr.add]
 rw [run_store Tryz.prog W ta _ _ (by rfl)]
 simp [ht, hf]
abbrev W4 (w : World) (t : Addr) (n : Int) : World := (((w.alloc (.cells #[.pointer (some t)] 130)).alloc (.cells #[hd 130, .pointer (some ⟨w.heap.size, 0, none⟩), .int .u64 150] 184)).alloc (.cells #[hd 130, .pointer (some ⟨w.heap.size, 0, none⟩), .int .u64 150] 184)).alloc (.cells #[.int .i64 n] 123)
theorem lt_cell {w : World} {a : Addr} {v : Value} (h : w.cell? a = some v) : a.block < w.heap.size := by
 rcases Nat.lt_or_ge a.block w.heap.size with h1 | h1
 ·exact h1
 ·simp [World.cell?, Array.getElem?_eq_none h1] at h
def ErrT (w : World) : Prop := w.cell? ⟨0, 0, none⟩ = some (.iface 221 (.agg #[hd 128]))
theorem ErrT.later {w w' : World} (h : ErrT w) (hb : Below w.heap.size w w') : ErrT w' := (hb.cell (p := ⟨0, 0, none⟩) (lt_cell h)).trans h
set_option maxHeartbeats 4000000 in
theorem as_hit (n : Int) (t : Addr) (old : Value) (w : World) (hg : ErrT w) (ht0 : w.cell? t = some old) (hf0 : w.frozen? t = false) :
  Calls Tryz.prog 90 #[.iface 123 (.agg #[.int .i64 n]), .iface 130 (.pointer (some t))] w fun ev w' => ev = .returned (.bool true) ∧ w' = (W4 w t n).setCell t (.int .i64 n) := by
 have h6 := @run_callFunc_extern Tryz.prog 130 _ (fun args => ReflectliteValue.unpack (args.getD 0 (.tuple #[]))) Tryz.func130 (by kernel_rfl) (by kernel_rfl) (by kernel_rfl) (by kernel_rfl)
 have h7 := @run_callFunc_extern Tryz.prog 131 _ (ReflectliteValue.methodAny (ReflectliteValue.valueError "reflectlite.Value.Type" 0) (fun t _ _ _ => ReflectliteType.toType t)) Tryz.func131 (by kernel_rfl) (by kernel_rfl) (by kernel_rfl) (by kernel_rfl)
 have h8 := @run_callFunc_extern Tryz.prog 132 _ (ReflectliteValue.method (ReflectliteValue.valueError "reflectlite.Value.IsNil" 0) ReflectliteValue.isNil) Tryz.func132 (by kernel_rfl) (by kernel_rfl) (by kernel_rfl) (by kernel_rfl)
 have h27 := @run_callFunc_extern Tryz.prog 270 _ (ReflectliteType.abiMethod fun t => do pure (.int .u8 (← Rtype.kind t))) Tryz.func270 (by kernel_rfl) (by kernel_rfl) (by kernel_rfl) (by kernel_rfl)
 have h37 := @run_callFunc_extern Tryz.prog 282 _ (ReflectliteType.method ReflectliteType.elem) Tryz.func282 (by kernel_rfl) (by kernel_rfl) (by kernel_rfl) (by kernel_rfl)
 have h38 := @run_callFunc_extern Tryz.prog 283 _ (ReflectliteType.relation "Implements" ReflectliteType.implements_) Tryz.func283 (by kernel_rfl) (by kernel_rfl) (by kernel_rfl) (by kernel_rfl)
 have h10 := @run_callFunc_extern Tryz.prog 162 _ ReflectliteType.typeOf Tryz.func162 (by kernel_rfl) (by kernel_rfl) (by kernel_rfl) (by kernel_rfl)
 have h35 := @run_callFunc_extern Tryz.prog 280 _ (ReflectliteType.relation "AssignableTo" ReflectliteType.assignableTo) Tryz.func280 (by kernel_rfl) (by kernel_rfl) (by kernel_rfl) (by kernel_rfl)
 have h11 := @run_callFunc_extern Tryz.prog 163 _ (ReflectliteValue.method (ReflectliteValue.valueError "reflectlite.Value.Elem" 0) ReflectliteValue.elem) Tryz.func163 (by kernel_rfl) (by kernel_rfl) (by kernel_rfl) (by kernel_rfl)
 have h12 := @run_callFunc_extern Tryz.prog 164 _ ReflectliteValue.set Tryz.func164 (by kernel_rfl) (by kernel_rfl) (by kernel_rfl) (by kernel_rfl)
 have tO := typeOfR
 have mA := mAssign
 have a25 := assignR
 have v25 := valueR
 have f6 := valueP
 have f7 := typeP
 have mK := mKind
 have mE := mElem
 have mI := mImpl
 have k27 := kindP
 have k25 := kindR
 have e27 := elemP
 have i25 := implR
 have htl := lt_cell ht0
 have hgl := lt_cell hg
 have n8 := isNilP ⟨w.heap.size, 0, none⟩ t ((w.alloc (.cells #[.pointer (some t)] 130)).alloc (.cells #[hd 130, .pointer (some ⟨w.heap.size, 0, none⟩), .int .u64 150] 184)) (by simp)
 have hg2 : ((w.alloc (.cells #[.pointer (some t)] 130)).alloc (.cells #[hd 130, .pointer (some ⟨w.heap.size, 0, none⟩), .int .u64 150] 184)).cell? ⟨0, 0, none⟩ = some (.iface 221 (.agg #[hd 128])) :=
  (((Below.refl w.heap.size w).alloc (Nat.le_refl _) _).alloc (by simp) _).cell (p := ⟨0, 0, none⟩) hgl |>.trans hg
 have el := elemV ⟨w.heap.size, 0, none⟩ t (((w.alloc (.cells #[.pointer (some t)] 130)).alloc (.cells #[hd 130, .pointer (some ⟨w.heap.size, 0, none⟩), .int .u64 150] 184)).alloc (.cells #[hd 130, .pointer (some ⟨w.heap.size, 0, none⟩), .int .u64 150] 184)) (by rw [World.cell?_alloc_lt _ _ ⟨w.heap.size, 0, none⟩ (by simp; omega)]; simp)
 have st := setR t (w.heap.size + 1 + 1 + 1) 0 n old (W4 w t n)
  (by rw [World.cell?_alloc_at _ _ _ _ (by simp)]; rfl)
  (by rw [World.cell?_alloc_lt _ _ t (by simp; omega), World.cell?_alloc_lt _ _ t (by simp; omega), World.cell?_alloc_lt _ _ t (by simp; omega), World.cell?_alloc_lt _ _ t htl]; exact ht0)
  (by rw [World.frozen?_alloc_old _ _ t (by simp; omega), World.frozen?_alloc_old _ _ t (by simp; omega), World.frozen?_alloc_old _ _ t (by simp; omega), World.frozen?_alloc_old _ _ t (Nat.ne_of_lt htl)]; exact hf0)
 go_enter Tryz.func90, Tryz.ntmps90
 go_wp2
 refine wp_loop_rounds 1 ?_
 rw [rounds_succ]
 go_wp2
 go_ret
 exact ⟨rfl, rfl⟩
end Go.Proofs.YtckicpnnclbkpaaGreatDoor.as

namespace Go.Proofs.YtckicpnnclbkpaaGreatDoor.sh
open Go.ChangeShapes Go.WideShapes Go.ChangeAt Go.RowKit Go.Shelf
open nb ok wd dc Go.Proofs.YtckicpnnclbkpaaGreatDoor.as
open Go.Proofs.YtckicpnnclbkpaaGreatDoor.ow (infoStr)
open Go.Proofs.YtckicpnnclbkpaaGreatDoor.rc (Free SeqCur After wpIn_rangeCur)
attribute [local go_sem] Oper.semAt_some
def OwnB (w W : World) (v : Value) (xs : List (List UInt8)) : Prop := W.ownsRow (w.heap.size + 8) 9 1 v (recV xs).length (recV xs) ∧ Below w.heap.size w W
theorem OwnB.lt {w W : World} {v : Value} {xs : List (List UInt8)} (h : OwnB w W v xs) {g : Nat} (hg : v.ownBlock = some g) : w.heap.size + 8 ≤ g ∧ g < W.heap.size := h.1.lt g hg
theorem OwnB.own {w W : World} {v : Value} {xs : List (List UInt8)} (h : OwnB w W v xs) : ow.Own 9 w W v (recV xs) := by
 refine ⟨⟨h.1.1, ?_⟩, h.2⟩
 rcases h.1.2 with h' | ⟨g, cap, cur, h1, h2, h3⟩
 ·exact .inl h'
 ·exact .inr ⟨g, cap, cur, h1, by omega, h3⟩
def Mid (w : World) (b : Nat) (pre : List Step) (W : World) : Prop :=
 ∃ v xs, pre = xs.map Sum.inl ∧ OwnB w W v xs ∧ Blk W b 53 #[.slice none 0 0] ∧ Blk W (b + 1) 3 #[.int .i64 0] ∧ Blk W (b + 1 + 1) 53 #[v] ∧ Blk W (b + 1 + 1 + 1) 123 #[.int .i64 0]
def Out (w : World) (b : Nat) (pre : List Step) (W : World) : Prop :=
 ∃ v xs k, pre = xs.map Sum.inl ++ [.inr k] ∧ OwnB w W v xs ∧ Blk W b 53 #[v] ∧ Blk W (b + 1) 3 #[.int .i64 (k : Nat)]
theorem blk_grownC {A B : World} {r g : Nat} {t : TypeId} {cs : Array Value} (h : Blk A g t cs) (hg : A.grownBy B (some r)) (hne : g ≠ r) : Blk B g t cs := (hg.block g h.lt (fun e => hne (Option.some.inj e))).trans h
theorem ownB_grownC {w A B : World} {r : Nat} {v : Value} {xs : List (List UInt8)} (h : OwnB w A v xs) (hg : A.grownBy B (some r)) (hr : r < w.heap.size + 8) (hw : w.heap.size ≤ r) : OwnB w B v xs := by
 refine ⟨h.1.kept hg ?_, h.2.grown hg h.2.size (fun k e => by cases e; exact hw)⟩
 cases hv : v.ownBlock with
 | none => exact .inl rfl
 | some g => exact .inr (by have := (h.lt hv).1; intro e; cases e; omega)
theorem ownB_more {w W w1 : World} {v v' : Value} {xs : List (List UInt8)} {x : List UInt8} {tmp : Obj} {B n : Nat} {T : TypeId} (h : OwnB w W v xs) (hB0 : w.heap.size ≤ B) (hB : B < w.heap.size + 8) (hsz : w.heap.size + 7 < W.heap.size)
  (hb : Blk W B T #[v]) (ho : w1.ownsRow (w.heap.size + 8) 9 1 v' n (recV xs ++ [.string (str x)])) (hg : (W.alloc tmp).grownBy w1 v.ownBlock) :
  Blk w1 B T #[v] ∧ KeepsOthers W (w1.setCell ⟨B, 0, none⟩ v') ∧ Below w.heap.size W (w1.setCell ⟨B, 0, none⟩ v') ∧ (∀ k, k < w.heap.size + 8 → k ≠ B → (w1.setCell ⟨B, 0, none⟩ v').heap[k]? = W.heap[k]?) ∧
   OwnB w (w1.setCell ⟨B, 0, none⟩ v') v' (xs ++ [x]) := by
 have hne : ∀ k, k < w.heap.size + 8 → some k ≠ v.ownBlock := fun k hk e => by have := (h.lt e.symm).1; omega
 have hs1 : (W.alloc tmp).heap.size = W.heap.size + 1 := by simp
 have same : ∀ k, k < w.heap.size + 8 → w1.heap[k]? = W.heap[k]? := fun k hk =>
  (hg.block k (by omega) (hne k hk)).trans (Below.heap_alloc W tmp k (by omega))
 have hb1 : Blk w1 B T #[v] := (same B hB).trans hb
 have hbel : Below w.heap.size W (w1.setCell ⟨B, 0, none⟩ v') := by
  refine (((Below.refl w.heap.size W).alloc (by omega) tmp).grown hg (by omega) fun j ej => ?_).setCell (p := ⟨B, 0, none⟩) hB0 v'
  have := (h.lt ej).1
  omega
 refine ⟨hb1, ?_, hbel, fun k hk hkB => (Below.heap_setCell w1 ⟨B, 0, none⟩ v' k hkB).trans (same k hk), ?_, h.2.trans hbel⟩
 ·refine ((KeepsOthers.alloc W tmp).trans (KeepsOthers.of_grownBy hg fun j o ej hj => ?_)).trans (KeepsOthers.setCell _ _ _)
  rcases (h.1.alloc tmp).2 with ⟨rfl, _⟩ | ⟨g, cap, cur, rfl, _, hgb, _⟩
  ·simp [Value.ownBlock] at ej
  ·obtain rfl : g = j := by simpa [Value.ownBlock] using ej
   rw [hgb] at hj; cases hj; rfl
 ·have e : n = (recV (xs ++ [x])).length := by have := ho.1; rw [recV_snoc]; omega
  subst e
  have ho' := ho
  rw [← recV_snoc] at ho'
  refine ho'.kept (row := some B) (grownBy_setCell' w1 B v') ?_
  cases hv : v'.ownBlock with
  | none => exact .inl rfl
  | some g => exact .inr (by have := (ho.lt g hv).1; intro e; cases e; omega)
theorem mid_free (w : World) (r : Nat) (h1 : w.heap.size + 5 ≤ r) (h2 : r ≤ w.heap.size + 5 + 2) : Free r (Mid w w.heap.size) := by
 rintro pre A B ⟨v, xs, e, ho, b0, b1, b2, b3⟩ hg
 exact ⟨v, xs, e, ownB_grownC ho hg (by omega) (by omega), blk_grownC b0 hg (by omega), blk_grownC b1 hg (by omega), blk_grownC b2 hg (by omega), blk_grownC b3 hg (by omega)⟩
theorem out_free (w : World) (r : Nat) (h1 : w.heap.size + 5 ≤ r) (h2 : r ≤ w.heap.size + 5 + 2) : Free r (Out w w.heap.size) := by
 rintro pre A B ⟨v, xs, k, e, ho, b0, b1⟩ hg
 exact ⟨v, xs, k, e, ownB_grownC ho hg (by omega) (by omega), blk_grownC b0 hg (by omega), blk_grownC b1 hg (by omega)⟩
theorem full_inl {l : List UInt8} {xs : List (List UInt8)} (h : full l = xs.map Sum.inl) : rd l = xs ∧ en l = l.length := by
 unfold full at h
 by_cases hlt : en l < l.length
 ·rw [if_pos hlt] at h
  have : (Sum.inr (en l) : Step) ∈ xs.map Sum.inl := by rw [← h]; simp
  simp at this
 ·rw [if_neg hlt, List.append_nil] at h
  refine ⟨?_, by have := en_le l; omega⟩
  exact (List.map_inj_right (f := (Sum.inl : List UInt8 → Step)) (fun a b e => Sum.inl.inj e)).1 h
theorem full_inr {l : List UInt8} {xs : List (List UInt8)} {k : Nat} (h : (xs.map Sum.inl ++ [.inr k] : List Step) <+: full l) : rd l = xs ∧ en l = k := by
 obtain ⟨c, hc⟩ := h
 unfold full at hc
 by_cases hlt : en l < l.length
 ·rw [if_pos hlt] at hc
  have key : ∀ (a b : List (List UInt8)) (c : List Step) (k m : Nat), (a.map Sum.inl ++ [.inr k]) ++ c = (b.map Sum.inl ++ [.inr m] : List Step) → b = a ∧ m = k := by
   intro a
   induction a with
   | nil =>
    intro b c k m e
    cases b with
    | nil => simp at e; exact ⟨rfl, e.1.symm⟩
    | cons y b => simp at e
   | cons y a ih =>
    intro b c k m e
    cases b with
    | nil => simp at e
    | cons z b =>
     simp only [List.map_cons, List.cons_append, List.cons.injEq, Sum.inl.injEq] at e
     obtain ⟨h1, h2⟩ := ih b c k m e.2
     exact ⟨by rw [e.1, h1], h2⟩
  exact key xs (rd l) c k (en l) hc
 ·rw [if_neg hlt, List.append_nil] at hc
  have : (Sum.inr k : Step) ∈ (rd l).map Sum.inl := by rw [← hc]; simp
  simp at this
theorem put_own {w W : World} {v : Value} {xs : List Value} {T : TypeId} (h : ow.Own T w W v xs) (D : Nat) {ds : Option (List Deferred)} {o' : Obj} (hD : W.heap[D]? = some (.deferred ds)) (hw : w.heap.size ≤ D) : ow.Own T w (W.putObj D o') v xs :=
 ⟨ownsRow_putObj h.1 _ hD rfl, h.2.trans ((Below.refl w.heap.size W).grown (grownBy_putObj' W D o') h.2.size (fun k e => by cases e; exact hw))⟩
theorem keeps_drew {A B : World} (h : KeepsOthers A B) : KeepsOthers A B.drew := ⟨h.size, h.same⟩
theorem out_drew {w Y : World} {b : Nat} {pre : List Step} (h : Out w b pre Y) : Out w b pre Y.drew := by
 obtain ⟨v, xs, k, e, ho, h0, h1⟩ := h
 exact ⟨v, xs, k, e, ⟨ho.1, ho.2.drew⟩, h0, h1⟩
theorem put_two {w W V : World} {v x y : Value} {xs : List (List UInt8)} {r : Nat} {k : Nat} {T0 T1 : TypeId} (hO : OwnB w W v xs) (hk : KeepsOthers W V) (hg : W.grownBy V (some r)) (hr0 : w.heap.size ≤ r) (hr : r < w.heap.size + 8)
    (n0 : Blk V w.heap.size T0 #[x]) (n1 : Blk V (w.heap.size + 1) T1 #[y]) :
    KeepsOthers W ((V.setCell ⟨w.heap.size, 0, none⟩ v).setCell ⟨w.heap.size + 1, 0, none⟩ (.int .i64 (k : Nat))) ∧
      OwnB w ((V.setCell ⟨w.heap.size, 0, none⟩ v).setCell ⟨w.heap.size + 1, 0, none⟩ (.int .i64 (k : Nat))) v xs ∧
      Blk ((V.setCell ⟨w.heap.size, 0, none⟩ v).setCell ⟨w.heap.size + 1, 0, none⟩ (.int .i64 (k : Nat))) w.heap.size T0 #[v] ∧
      Blk ((V.setCell ⟨w.heap.size, 0, none⟩ v).setCell ⟨w.heap.size + 1, 0, none⟩ (.int .i64 (k : Nat))) (w.heap.size + 1) T1 #[.int .i64 (k : Nat)] :=
  ⟨(hk.trans (KeepsOthers.setCell _ _ _)).trans (KeepsOthers.setCell _ _ _),
   ownB_grownC (ownB_grownC (ownB_grownC hO hg hr hr0) (grownBy_setCell' V w.heap.size v) (by omega) (by omega)) (grownBy_setCell' _ (w.heap.size + 1) _) (by omega) (by omega),
   (n0.put 0 v).far (p := ⟨w.heap.size + 1, 0, none⟩) (by simp) _, (n1.far (p := ⟨w.heap.size, 0, none⟩) (by simp) _).put 0 _⟩
theorem w4_same (W : World) (g : Nat) (n : Int) :
  KeepsOthers W ((W4 W ⟨g, 0, none⟩ n).setCell ⟨g, 0, none⟩ (.int .i64 n)) ∧ (∀ k, k < W.heap.size → k ≠ g → ((W4 W ⟨g, 0, none⟩ n).setCell ⟨g, 0, none⟩ (.int .i64 n)).heap[k]? = W.heap[k]?) ∧
   (∀ T x, Blk W g T #[x] → Blk ((W4 W ⟨g, 0, none⟩ n).setCell ⟨g, 0, none⟩ (.int .i64 n)) g T #[.int .i64 n]) ∧ W.grownBy ((W4 W ⟨g, 0, none⟩ n).setCell ⟨g, 0, none⟩ (.int .i64 n)) (some g) := by
 have hB : Below W.heap.size W (W4 W ⟨g, 0, none⟩ n) := ((((Below.refl _ W).alloc (Nat.le_refl _) _).alloc (by simp) _).alloc (by simp; omega) _).alloc (by simp; omega) _
 exact ⟨(((((KeepsOthers.alloc _ _).trans (KeepsOthers.alloc _ _)).trans (KeepsOthers.alloc _ _)).trans (KeepsOthers.alloc _ _))).trans (KeepsOthers.setCell _ _ _), fun k hk hne => (Below.heap_setCell _ ⟨g, 0, none⟩ _ k hne).trans (hB.block k hk), fun T x h => (h.below hB h.lt).put 0 (.int .i64 n), grown_setC (below_grownC hB g) 0 _⟩
set_option maxRecDepth 100000 in
set_option maxHeartbeats 4000000 in
theorem iread_any (s : ByteArray) (hs : s.size ≤ 8388608) (w : World) (hT : Tab w) (hE : Errs w) (hA : ErrT w) :
  Calls Tryz.prog 65 #[.string s] w (ReadPost w s.data.toList) := by
 obtain ⟨s0, si, sz0, sz1, sz2⟩ := info_parts infoStr
 refine (callsIn_wide (n := 3)).1 ?_
 refine callsIn_of_wp_marks Tryz.func65 rfl trivial ?_ rfl
 simp only [Tryz.ntmps65, List.size_toArray, List.length_cons, List.length_nil, Nat.reduceAdd, Nat.reduceSub, Array.replicate_succ, Array.replicate_zero, List.push_toArray, List.append_toArray, List.nil_append, List.cons_append]
 gi_wp2_with fail
 refine ⟨trivial, (callsIn_wide.2 (each_any s _)).mono ?_⟩
 rintro e w1 ⟨rfl, rfl⟩
 gi_wp2
 have hW0s : (((((w.alloc (.cells #[.slice none 0 0] 53)).alloc (.cells #[.int .i64 0] 3)).alloc (.cells #[.slice none 0 0] 53)).alloc (.cells #[.int .i64 0] 123)).alloc (.cells #[.string s] 9)).heap.size = w.heap.size + 5 := by simp
 have hW0 : Mid w w.heap.size [] (((((w.alloc (.cells #[.slice none 0 0] 53)).alloc (.cells #[.int .i64 0] 3)).alloc (.cells #[.slice none 0 0] 53)).alloc (.cells #[.int .i64 0] 123)).alloc (.cells #[.string s] 9)) := by
  have k0 := Blk.new w 53 #[.slice none 0 0]
  have k1 := Blk.new (w.alloc (.cells #[.slice none 0 0] 53)) 3 #[.int .i64 0]
  have k2 := Blk.new ((w.alloc (.cells #[.slice none 0 0] 53)).alloc (.cells #[.int .i64 0] 3)) 53 #[.slice none 0 0]
  have k3 := Blk.new (((w.alloc (.cells #[.slice none 0 0] 53)).alloc (.cells #[.int .i64 0] 3)).alloc (.cells #[.slice none 0 0] 53)) 123 #[.int .i64 0]
  simp only [World.size_alloc] at k1 k2 k3
  exact ⟨.slice none 0 0, [], rfl, ⟨World.ownsRow_nil _ _ _ _, (((((Below.refl _ w).alloc (Nat.le_refl _) _).alloc (by simp) _).alloc (by simp; omega) _).alloc (by simp; omega) _).alloc (by simp; omega) _⟩,
   (((k0.alloc _).alloc _).alloc _).alloc _, ((k1.alloc _).alloc _).alloc _, (k2.alloc _).alloc _, k3.alloc _⟩
 have hW0b : Blk (((((w.alloc (.cells #[.slice none 0 0] 53)).alloc (.cells #[.int .i64 0] 3)).alloc (.cells #[.slice none 0 0] 53)).alloc (.cells #[.int .i64 0] 123)).alloc (.cells #[.string s] 9)) (w.heap.size + 1 + 1 + 1 + 1) 9 #[.string s] := by
  have k4 := Blk.new ((((w.alloc (.cells #[.slice none 0 0] 53)).alloc (.cells #[.int .i64 0] 3)).alloc (.cells #[.slice none 0 0] 53)).alloc (.cells #[.int .i64 0] 123)) 9 #[.string s]
  simp only [World.size_alloc] at k4
  exact k4
 generalize (((((w.alloc (.cells #[.slice none 0 0] 53)).alloc (.cells #[.int .i64 0] 3)).alloc (.cells #[.slice none 0 0] 53)).alloc (.cells #[.int .i64 0] 123)).alloc (.cells #[.string s] 9)) = W0 at hW0s hW0 hW0b ⊢
 have hWB : Below w.heap.size w W0 := by obtain ⟨_, _, _, h, _⟩ := hW0; exact h.2
 refine wpIn_rangeCur (F := Fence.wide) (n := 3) rfl (by omega) (gf := 128) (lb := #[.pointer (some ⟨w.heap.size + 1 + 1 + 1 + 1, 0, none⟩)]) rfl trivial (enters_of Tryz.func128 (by kernel_rfl) rfl)
  (encs := stepV) (Kp := Kept (w.heap.size + 1 + 1 + 1 + 1) w.heap.size) (S := fun xs => xs = full s.data.toList) (Sp := fun pre => pre <+: full s.data.toList) (N := (full s.data.toList).length)
  (fun V hV hVs => each1_in 2 w V (w.heap.size + 1 + 1 + 1 + 1) s hs (hW0b.below hV hW0b.lt) (hWB.trans (hV.mono hWB.size)) hT hE)
  (fun h k => ⟨h.1.trans k.1, k.2.1.trans h.2.1, k.2.2.trans h.2.2⟩)
  (fun V l o hl hl' => ⟨⟨rfl, rfl, rfl, by simp, fun k hk => World.putObj_heap_other (by omega)⟩, World.putObj_heap_other (by omega), World.putObj_heap_other (by omega)⟩)
  (fun x => rfl)
  (Mid w w.heap.size) (Out w w.heap.size) (fun r h1 h2 => mid_free w r (by omega) (by omega)) (fun r h1 h2 => out_free w r (by omega) (by omega)) hW0
  (fun x => { tmps := #[.string s, undef, .pointer (some ⟨w.heap.size, 0, none⟩), .pointer (some ⟨w.heap.size + 1, 0, none⟩), .pointer (some ⟨w.heap.size + 1 + 1, 0, none⟩), .pointer (some ⟨w.heap.size + 1 + 1 + 1, 0, none⟩), stepR x, stepE x, .string s, .func (.func 128) #[] #[.pointer (some ⟨w.heap.size + 1 + 1 + 1 + 1, 0, none⟩)], stepR x, stepE x, undef, undef, undef, undef, undef, undef, undef, undef, undef, undef, undef, undef, undef], defers := [] }) ?assign ?body ?done ?stop
 case assign =>
  intro l x W K hK
  unfold stepV
  gi_wp2
  exact hK
 case body =>
  rintro l pre x W ⟨v, xs, rfl, hO, k0, k1, k2, k3⟩ hlen hsz
  cases x with
  | inl x =>
   dsimp only [stepR, stepE]
   have hxl : (recV xs).length + 1 ≤ 4194304 := by
    rw [recV_len]
    have h1 : (full s.data.toList).length ≤ (rd s.data.toList).length + 1 := by unfold full; rw [List.length_append, List.length_map]; split <;> simp
    have h2 := lg_count (rd_spec s.data.toList).1
    have h3 := en_le s.data.toList
    unfold en at h3
    rw [← Lib.size_eq] at h3
    rw [List.length_map] at hlen
    omega
   have hc2 := k2.cell 0
   simp only [List.getElem?_toArray, List.getElem?_cons_zero] at hc2
   gi_wp2_with fail
   refine ⟨trivial, (CallsIn.inRound l (callsIn_wide.2 (as_nil _ _))).mono ?_⟩
   rintro e w2 ⟨rfl, rfl⟩
   gi_wp2_with (gi_at_builtin; refine wpListIn_append_own _ rfl _ _ 53 rfl (w.heap.size + 8) 9 s0 (.string ⟨#[]⟩) 1 16 Tryz.underlying53 si sz0 sz1 sz2 rfl (by decide) _ _ _ rfl (hO.1.alloc _) ⟨w2.heap.size, 0, none⟩ 1 1 [.string (str x)] rfl rfl (cell_one_new _ _ _) (by simp [Value.oneCell']) (by unfold maxLen; omega) (by omega) (by simp; omega) ?_)
   intro v' w1 hown' hgrow _
   obtain ⟨g', cap', rfl⟩ := ownsRow_succ hown'
   obtain ⟨m1, m2, m3, m4, m5⟩ := ownB_more hO (by omega) (by omega) (by omega) k2 hown' hgrow
   have hc3 := m1.cell 0
   have hf3 := m1.frozen 0
   simp only [List.getElem?_toArray, List.getElem?_cons_zero] at hc3
   gi_wp2
   exact ⟨m2, ⟨m3, m4 _ (by omega) (by omega), m4 _ (by omega) (by omega)⟩, _, xs ++ [x], by simp, m5, (m4 _ (by omega) (by omega)).trans k0, (m4 _ (by omega) (by omega)).trans k1, m1.put 0 _, (m4 _ (by omega) (by omega)).trans k3⟩
  | inr k =>
   dsimp only [stepR, stepE]
   unfold errV
   have hc3 := k3.cell 0
   simp only [List.getElem?_toArray, List.getElem?_cons_zero] at hc3
   have HH := Lib.hid (as_hit (k : Int) ⟨w.heap.size + 1 + 1 + 1, 0, none⟩ _ W (hA.later hO.2) hc3 (k3.frozen 0))
   have HV := Lib.hid (w4_same W (w.heap.size + 1 + 1 + 1) (k : Int))
   clear hc3
   gi_wp2_with fail
   refine ⟨trivial, (CallsIn.inRound l (callsIn_wide.2 HH.out)).mono ?_⟩
   rintro e V ⟨rfl, hVe⟩
   have hV := HV.out
   rw [← hVe] at hV
   obtain ⟨v1, v2, v3, v4⟩ := hV
   have n0 : Blk V w.heap.size 53 #[.slice none 0 0] := (v2 _ (by omega) (by omega)).trans k0
   have n1 : Blk V (w.heap.size + 1) 3 #[.int .i64 0] := (v2 _ (by omega) (by omega)).trans k1
   have n2 : Blk V (w.heap.size + 1 + 1) 53 #[v] := (v2 _ (by omega) (by omega)).trans k2
   have n3 : Blk V (w.heap.size + 1 + 1 + 1) 123 #[.int .i64 k] := v3 _ _ k3
   have c0 := n0.cell 0
   have c1 := n1.cell 0
   have c2 := n2.cell 0
   have c3 := n3.cell 0
   simp only [List.getElem?_toArray, List.getElem?_cons_zero] at c0 c1 c2 c3
   have f0 := n0.frozen 0
   have f1 := n1.frozen 0
   clear hVe HH HV
   obtain ⟨A, cp, rfl, _⟩ := hO.own.form
   have R := Lib.hid (put_two (k := k) hO v1 v4 (by omega) (by omega) n0 n1)
   clear v1 v2 v3 v4 n0 n1 n2 n3 k0 k1 k2 k3 hO
   gi_wp2
   gi_region
   all_goals gi_wp2
   all_goals exact ⟨keeps_drew R.out.1, out_drew ⟨_, xs, k, rfl, R.out.2.1, R.out.2.2.1, R.out.2.2.2⟩⟩
 case done =>
  rintro D ys W hD rfl ⟨v, xs, he, hO, k0, k1, k2, k3⟩ hK
  obtain ⟨hr, hn⟩ := full_inl he
  have HR := Lib.hid hr
  have HN := Lib.hid hn
  have c2 := k2.cell 0
  have c0 := k0.cell 0
  have c1 := k1.cell 0
  simp only [List.getElem?_toArray, List.getElem?_cons_zero] at c0 c1 c2
  have f0 := k0.frozen 0
  have f1 := k1.frozen 0
  obtain ⟨A, cp, rfl, _⟩ := hO.own.form
  clear he hr hn
  gi_wp2
  have hK' := (KeepsOthers.setCell _ ⟨w.heap.size + 1, 0, none⟩ (.int .i64 (s.size : Nat))).same D _ ((KeepsOthers.setCell W ⟨w.heap.size, 0, none⟩ (.slice A (recV xs).length cp)).same D _ hK rfl) rfl
  refine ⟨by simp, .inl ⟨_, _, rfl, run_takeDeferred hK', ?_⟩⟩
  obtain ⟨_, hO', g0, g1⟩ := put_two (k := s.size) hO (KeepsOthers.refl W) (World.grownBy.refl W (some w.heap.size)) (Nat.le_refl _) (by omega) k0 k1
  have hne0 : w.heap.size ≠ D := by omega
  have hne1 : w.heap.size + 1 ≠ D := by omega
  have d0 := (show Blk _ w.heap.size 53 _ from (World.putObj_heap_other (o := .deferred none) hne0).trans g0).cell 0
  have d1 := (show Blk _ (w.heap.size + 1) 3 _ from (World.putObj_heap_other (o := .deferred none) hne1).trans g1).cell 0
  simp only [List.getElem?_toArray, List.getElem?_cons_zero] at d0 d1
  refine ⟨.tuple #[.slice A (recV xs).length cp, .int .i64 (s.size : Nat)], by simp [results, Tryz.results65, go_sem, d0, d1], _, by rw [HN.out, ← Lib.size_eq], ?_⟩
  rw [HR.out]
  exact put_own hO'.own D hK' (by omega)
 case stop =>
  rintro D pre W hD hpre ⟨v, xs, k, rfl, hO, k0, k1⟩ hK
  obtain ⟨hr, hn⟩ := full_inr hpre
  have HR := Lib.hid hr
  have HN := Lib.hid hn
  clear hr hn
  gi_wp2
  refine ⟨by simp, .inl ⟨_, _, rfl, run_takeDeferred hK, ?_⟩⟩
  have hne0 : w.heap.size ≠ D := by omega
  have hne1 : w.heap.size + 1 ≠ D := by omega
  have g0 : Blk (W.putObj D (.deferred none)) w.heap.size 53 #[v] := (World.putObj_heap_other hne0).trans k0
  have g1 : Blk (W.putObj D (.deferred none)) (w.heap.size + 1) 3 #[.int .i64 (k : Nat)] := (World.putObj_heap_other hne1).trans k1
  have d0 := g0.cell 0
  have d1 := g1.cell 0
  simp only [List.getElem?_toArray, List.getElem?_cons_zero] at d0 d1
  refine ⟨.tuple #[v, .int .i64 (k : Nat)], by simp [results, Tryz.results65, go_sem, d0, d1], v, by rw [HN.out], ?_⟩
  rw [HR.out]
  exact put_own hO.own D hK (by omega)
end Go.Proofs.YtckicpnnclbkpaaGreatDoor.sh

namespace Go.Proofs.YtckicpnnclbkpaaGreatDoor.sh
open nb dc
abbrev shv (s : ByteArray) (f : Int) : Value := .agg #[.string s, .int .i64 f]
def okL (l : List UInt8) (f : Int) : Prop := l.length ≤ 2400 ∧ 0 ≤ f ∧ f ≤ l.length ∧ en l = l.length ∧ en (l.take f.toNat) = f.toNat
instance (l : List UInt8) (f : Int) : Decidable (okL l f) := by unfold okL; exact inferInstance
def okSh (s : ByteArray) (f : Int) : Bool := decide (okL s.data.toList f)
theorem okSh_iff {s : ByteArray} {f : Int} : okSh s f = true ↔ okL s.data.toList f := by unfold okSh; exact decide_eq_true_iff
theorem okSh_f {s : ByteArray} {f : Int} (h : ¬ okL s.data.toList f) : okSh s f = false := decide_eq_false h
theorem okSh_nat {s : ByteArray} {m : Nat} (h1 : s.size ≤ 2400) (hm : m ≤ s.size) : okSh s (m : Int) = ((en s.data.toList == s.size) && (en (s.data.toList.take m) == m)) := by
 rw [Bool.eq_iff_iff, okSh_iff, Bool.and_eq_true, beq_iff_eq, beq_iff_eq]
 unfold okL
 rw [← Lib.size_eq]
 simp only [Int.toNat_natCast]
 omega
def fits (s x : ByteArray) : Bool := decide (1 ≤ x.size ∧ x.size ≤ 60 ∧ s.size + (stS x).size ≤ 2400)
def addS (s : ByteArray) (f : Int) (x : ByteArray) : ByteArray := if okSh s f then (if fits s x then s ++ stS x else s) else ⟨#[]⟩
def addF (s : ByteArray) (f : Int) : Int := if okSh s f then f else 0
def addB (s : ByteArray) (f : Int) (x : ByteArray) : Bool := okSh s f && fits s x
def forceS (s : ByteArray) (f : Int) : ByteArray := if okSh s f then s else ⟨#[]⟩
def forceF (s : ByteArray) (f : Int) : Int := if okSh s f then (s.size : Nat) else 0
def left (s : ByteArray) (f k : Int) : Nat := f.toNat + min k.toNat (s.size - f.toNat)
def fallN (s : ByteArray) (f k : Int) : Nat := en (s.data.toList.take (left s f k))
def fallS (s : ByteArray) (f k : Int) : ByteArray := if okSh s f then s.extract 0 (fallN s f k) else ⟨#[]⟩
def fallF (s : ByteArray) (f k : Int) : Int := if okSh s f then (fallN s f k : Nat) else 0
def cat : List ByteArray → ByteArray
 | [] => ⟨#[]⟩
 | x :: xs => stS x ++ cat xs
def packOk (xs : List ByteArray) : Bool := xs.all (fun x => inB x.size 1 60) && decide ((cat xs).size ≤ 2400)
def packS (s : ByteArray) (f : Int) (xs : List ByteArray) : ByteArray := if okSh s f then (if packOk xs then cat xs else s) else ⟨#[]⟩
def packF (s : ByteArray) (f : Int) (xs : List ByteArray) : Int := if okSh s f then (if packOk xs then ((cat xs).size : Nat) else f) else 0
def packB (s : ByteArray) (f : Int) (xs : List ByteArray) : Bool := okSh s f && packOk xs
end Go.Proofs.YtckicpnnclbkpaaGreatDoor.sh

namespace Go.Proofs.YtckicpnnclbkpaaGreatDoor.sh
open Go.ChangeShapes Go.WideShapes Go.ChangeAt Go.RowKit
open wd
def BoolPost (w : World) (b : Bool) (e : Ending) (w' : World) : Prop := e = .returned (.bool b) ∧ Below w.heap.size w w'
def ShPost (w : World) (s : ByteArray) (f : Int) (e : Ending) (w' : World) : Prop := e = .returned (shv s f) ∧ Below w.heap.size w w'
def ShbPost (w : World) (s : ByteArray) (f : Int) (b : Bool) (e : Ending) (w' : World) : Prop := e = .returned (.tuple #[shv s f, .bool b]) ∧ Below w.heap.size w w'
structure Two (w V : World) (s : ByteArray) (f : Int) : Prop where
 arg : Blk V w.heap.size 29 #[.string s, .int .i64 f]
 res : Blk V (w.heap.size + 1) 29 #[.string ⟨#[]⟩, .int .i64 0]
 bel : Below w.heap.size w V
section
variable {w V V' : World} {s : ByteArray} {f : Int}
theorem Two.new (w : World) (s : ByteArray) (f : Int) : Two w ((w.alloc (.cells #[.string s, .int .i64 f] 29)).alloc (.cells #[.string ⟨#[]⟩, .int .i64 0] 29)) s f := by
 have k1 := Blk.new (w.alloc (.cells #[.string s, .int .i64 f] 29)) 29 #[.string ⟨#[]⟩, .int .i64 0]
 simp only [World.size_alloc] at k1
 exact ⟨(Blk.new w _ _).alloc _, k1, ((Below.refl _ w).alloc (Nat.le_refl _) _).alloc (by simp) _⟩
theorem Two.later (h : Two w V s f) (hb : Below V.heap.size V V') : Two w V' s f := ⟨h.arg.below hb h.arg.lt, h.res.below hb h.res.lt, h.bel.trans (hb.mono h.bel.size)⟩
theorem Two.cells (h : Two w V s f) : V.cell? ⟨w.heap.size, 0, none⟩ = some (.string s) ∧ V.cell? ⟨w.heap.size, 1, none⟩ = some (.int .i64 f) ∧ V.cell? ⟨w.heap.size + 1, 0, none⟩ = some (.string ⟨#[]⟩) ∧ V.cell? ⟨w.heap.size + 1, 1, none⟩ = some (.int .i64 0) ∧
  V.frozen? ⟨w.heap.size + 1, 0, none⟩ = false ∧ V.frozen? ⟨w.heap.size + 1, 1, none⟩ = false := ⟨h.arg.cell 0, h.arg.cell 1, h.res.cell 0, h.res.cell 1, h.res.frozen 0, h.res.frozen 1⟩
theorem Two.drewN (h : Two w V s f) (n : Nat) : Two w (V.drewN n) s f := ⟨h.arg, h.res, ⟨h.bel.os, h.bel.tape, h.bel.output, h.bel.size, h.bel.block⟩⟩
theorem Two.put (h : Two w V s f) (a : ByteArray) (g : Int) :
  ((V.setCell ⟨w.heap.size + 1, 0, none⟩ (.string a)).setCell ⟨w.heap.size + 1, 1, none⟩ (.int .i64 g)).cell? ⟨w.heap.size + 1, 0, none⟩ = some (.string a) ∧
  ((V.setCell ⟨w.heap.size + 1, 0, none⟩ (.string a)).setCell ⟨w.heap.size + 1, 1, none⟩ (.int .i64 g)).cell? ⟨w.heap.size + 1, 1, none⟩ = some (.int .i64 g) ∧
  Below w.heap.size w ((V.setCell ⟨w.heap.size + 1, 0, none⟩ (.string a)).setCell ⟨w.heap.size + 1, 1, none⟩ (.int .i64 g)) := by
 have hB := (h.res.put 0 (.string a)).put 1 (.int .i64 g)
 exact ⟨hB.cell 0, hB.cell 1, (h.bel.setCell (p := ⟨w.heap.size + 1, 0, none⟩) (by simp) _).setCell (p := ⟨w.heap.size + 1, 1, none⟩) (by simp) _⟩
end
end Go.Proofs.YtckicpnnclbkpaaGreatDoor.sh

