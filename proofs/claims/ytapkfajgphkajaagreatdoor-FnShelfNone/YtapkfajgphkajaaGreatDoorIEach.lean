/-
  Contract of the iterator impl.eachRecord: the records of a log one by one, and an error where it goes on with anything but a record.
-/
import Derived.Test.YtapkfajgphkajaaGreatDoorINext
import Derived.Test.YtapkfajgphkajaaGreatDoorRangeCur
import Derived.RangeFuncNested
import Derived.RangeFuncBound
import Derived.RangeFuncCalls
import Derived.RangeFuncLeaves
import Derived.Shelf.Abstract
import Derived.Shelf.RegionOpen
import Derived.WalkKit
import Derived.OwnWalkIn
import Derived.TacticsInMore
import Derived.LoopNIn
import Derived.LoopIn
namespace Go.Proofs.YtapkfajgphkajaaGreatDoor.sh
open Go.ChangeShapes Go.WideShapes Go.ChangeAt Go.RowKit Go.Shelf
open Go.Proofs.YtapkfajgphkajaaGreatDoor.nb Go.Proofs.YtapkfajgphkajaaGreatDoor.ok Go.Proofs.YtapkfajgphkajaaGreatDoor.wd Go.Proofs.YtapkfajgphkajaaGreatDoor.dc
open Go.Proofs.YtapkfajgphkajaaGreatDoor.rc (Free SeqCur)
attribute [local go_sem] Oper.semAt_some

/-- what comes in a round: a record, or that there is none at a byte -/
abbrev Step := List UInt8 ⊕ Nat
def stepR : Step → Value
  | .inl x => .string (str x)
  | .inr _ => .string ⟨#[]⟩
def stepE : Step → Value
  | .inl _ => .nilIface
  | .inr k => errV k
def stepV (x : Step) : Array Value := #[stepR x, stepE x]
/-- all that comes -/
def full (l : List UInt8) : List Step := (rd l).map .inl ++ (if en l < l.length then [.inr (en l)] else [])

theorem Part.pre {l : List UInt8} {xs : List (List UInt8)} (h : Part l xs) : ∃ c, rd l = xs ++ c := by
  obtain ⟨h1, u, h2, h3⟩ := rd_spec l
  obtain ⟨t, ht⟩ := h.rest
  obtain ⟨c, hc, _⟩ := lg_part (t := t) h.rks h1 h3 (ht.symm.trans h2)
  exact ⟨c, hc⟩
theorem full_on {l : List UInt8} {xs : List (List UInt8)} {x : List UInt8} (h : Part l (xs ++ [x])) : (xs.map Sum.inl ++ [.inl x] : List Step) <+: full l ∧ (xs.map Sum.inl : List Step).length < (full l).length := by
  obtain ⟨c, hc⟩ := h.pre
  have e : full l = (xs.map Sum.inl ++ [.inl x]) ++ (c.map Sum.inl ++ (if en l < l.length then [.inr (en l)] else [])) := by unfold full; rw [hc]; simp
  exact ⟨⟨_, e.symm⟩, by rw [e]; simp⟩
theorem full_stop {l : List UInt8} {xs : List (List UInt8)} (h : Part l xs) (h0 : one (l.drop (lg xs).length) = none) (hlt : (lg xs).length < l.length) :
    full l = xs.map Sum.inl ++ [.inr (lg xs).length] ∧ (xs.map Sum.inl : List Step).length < (full l).length := by
  obtain ⟨h1, h2⟩ := h.done h0
  have e : full l = xs.map Sum.inl ++ [.inr (lg xs).length] := by unfold full; rw [h1, h2, if_pos hlt]
  exact ⟨e, by rw [e]; simp⟩
theorem full_end {l : List UInt8} {xs : List (List UInt8)} (h : Part l xs) (hle : l.length ≤ (lg xs).length) : full l = xs.map Sum.inl := by
  obtain ⟨h1, h2⟩ := h.end_ hle
  unfold full
  rw [h1, h2, if_neg (by omega)]
  simp

theorem each_any (s : ByteArray) (w : World) :
    Calls Tryz.prog 30 #[.string s] w fun e w' => e = .returned (.func (.func 45) #[] #[.pointer (some ⟨w.heap.size, 0, none⟩)]) ∧ w' = w.alloc (.cells #[.string s] 9) := by
  go_enter Tryz.func30, Tryz.ntmps30
  go_wp2
  go_ret
  exact ⟨rfl, rfl⟩

/-- what a round keeps for the iterator: what lay when the caller began, the log's box, the cursor -/
def Kept (B n₀ C : Nat) (V V' : World) : Prop := Below n₀ V V' ∧ V'.heap[B]? = V.heap[B]? ∧ V'.heap[C]? = V.heap[C]?

/-- how far the cursor is -/
def curAt (C : Nat) (V : World) : Nat := match V.cell? ⟨C, 1, none⟩ with | some (.int _ z) => z.toNat | _ => 0
theorem curAt_blk {V : World} {C : Nat} {s : ByteArray} {k : Nat} (h : Blk V C 80 #[.string s, .int .i64 k]) : curAt C V = k := by
  unfold curAt
  rw [h.cell 1]
  simp

/-- at the loop's head -/
def Head (w₀ : World) (B C : Nat) (s : ByteArray) (J : List Step → World → Prop) (V : World) : Prop :=
  ∃ xs : List (List UInt8), Part s.data.toList xs ∧ Blk V C 80 #[.string s, .int .i64 ((lg xs).length : Nat)] ∧ Blk V B 9 #[.string s] ∧ Below w₀.heap.size w₀ V ∧ J (xs.map Sum.inl) V

theorem below_grownC {A B : World} (h : Below A.heap.size A B) (C : Nat) : A.grownBy B (some C) := ⟨h.os, h.tape, h.output, h.size, fun k hk _ => h.block k hk⟩
theorem grown_setC {A B : World} {C : Nat} (h : A.grownBy B (some C)) (i : Nat) (v : Value) : A.grownBy (B.setCell ⟨C, i, none⟩ v) (some C) :=
  ⟨h.os, h.tape, h.output, by simpa using h.size, fun k hk hne => (Below.heap_setCell B ⟨C, i, none⟩ v k (fun e => hne (by rw [e]))).trans (h.block k hk hne)⟩

set_option maxRecDepth 100000 in
set_option maxHeartbeats 4000000 in
theorem each1_in (n : Nat) (w₀ W : World) (B : Nat) (s : ByteArray) (hs : s.size ≤ 8388608) (hB : Blk W B 9 #[.string s]) (hw : Below w₀.heap.size w₀ W) (hT : Tab w₀) (hE : Errs w₀) :
    SeqCur Fence.wide n Tryz.prog 45 #[.pointer (some ⟨B, 0, none⟩)] stepV (Kept B w₀.heap.size) (fun xs => xs = full s.data.toList) (fun pre => pre <+: full s.data.toList) (full s.data.toList).length W := by
  intro l J Jx hJ hJx hY h0
  have b0 := hB.cell 0
  simp only [List.getElem?_toArray, List.getElem?_cons_zero] at b0
  refine callsIn_of_wp Tryz.func45 rfl trivial ?_ rfl
  simp only [Tryz.ntmps45, List.size_toArray, List.length_cons, List.length_nil, Nat.reduceAdd, Nat.reduceSub, Array.replicate_succ, Array.replicate_zero, List.push_toArray, List.append_toArray, List.nil_append, List.cons_append]
  gi_wp2
  gi_loopw [4] (fun _ V => Head w₀ B W.heap.size s J V) (fun _ V => s.size - curAt W.heap.size V)
  case atStart => exact ⟨[], Part.nil _, Blk.new W _ _, hB.alloc _, hw.alloc hw.size _, hJ _ _ _ h0 (World.grownBy_alloc W _ _)⟩
  case round =>
    obtain ⟨xs, hP, hCb, hBb, hBel, hJs⟩ := hrel
    have hc0 := hCb.cell 0
    have hc1 := hCb.cell 1
    have hb0 := hBb.cell 0
    simp only [List.getElem?_toArray, List.getElem?_cons_zero, List.getElem?_cons_succ] at hc0 hc1 hb0
    have hCl := hCb.lt
    have hBl := hBb.lt
    have hM := curAt_blk hCb
    have HCb := Lib.hid hCb
    have HBb := Lib.hid hBb
    have HBel := Lib.hid hBel
    have HJs := Lib.hid hJs
    have HP := Lib.hid hP
    have hle : (lg xs).length ≤ s.size := by have := hP.le; rwa [← Lib.size_eq] at this
    clear hCb hBb hBel hJs hP b0
    generalize hk : (lg xs).length = k at hc1 HCb hM hle
    have HK := Lib.hid hk
    clear hk
    by_cases hlt : k < s.size
    · have HN := Lib.hid (inext_any W.heap.size s k wr HCb.out hle hs (hT.later HBel.out) (hE.later HBel.out))
      gi_wp2_with fail
      refine ⟨trivial, fun h => (by cases h), (callsIn_wide.2 HN.out).mono ?_⟩
      rintro e w2 (⟨h1, rfl, hB2⟩ | ⟨x, m, h1, rfl, V, hB2, rfl⟩)
      · -- no record: the error is yielded
        have HJ2 := hJ _ _ _ HJs.out (below_grownC hB2 _)
        rw [← HK.out] at h1
        obtain ⟨hF1, hF2⟩ := full_stop HP.out h1 (by rw [HK.out, ← Lib.size_eq]; exact hlt)
        rw [HK.out] at hF1
        obtain ⟨fn, tmps, assign, body, hy, hR⟩ := hY (xs.map Sum.inl) (.inr k) w2 HJ2 hF2 (Nat.lt_of_lt_of_le hCl hB2.size)
        have HF1 := Lib.hid hF1
        clear hF1 hF2 HJ2 h1
        dsimp only [stepV, stepR, stepE] at hy
        unfold errV at hy ⊢
        gi_wp2
        refine ⟨fun h => (by cases h), hR.mono ?_⟩
        rintro e W3 (⟨rfl, hJ3, hk3⟩ | ⟨rfl, hJx3⟩)
        · gi_wp2
          refine bodyPost_ret (results_none rfl _ _ _) rfl ?_
          exact ⟨⟨_, rfl⟩, .inl ⟨_, HF1.out.symm, hJ3⟩⟩
        · gi_wp2
          refine bodyPost_ret (results_none rfl _ _ _) rfl ?_
          exact ⟨⟨_, rfl⟩, .inr ⟨_, ⟨[], by rw [HF1.out]; simp⟩, hJx3⟩⟩
      · -- a record is yielded
        have hG2 := grown_setC (below_grownC hB2 W.heap.size) 1 (.int .i64 ((k + m : Nat) : Int))
        have HJ2 := hJ _ _ _ HJs.out hG2
        rw [← HK.out] at h1
        obtain ⟨hP2, hl2, hm1, hm2⟩ := HP.out.on h1
        rw [HK.out] at hl2
        obtain ⟨hF1, hF2⟩ := full_on hP2
        have hsz2 : W.heap.size < (V.setCell ⟨W.heap.size, 1, none⟩ (.int .i64 ((k + m : Nat) : Int))).heap.size := Nat.lt_of_lt_of_le hCl hG2.size
        obtain ⟨fn, tmps, assign, body, hy, hR⟩ := hY (xs.map Sum.inl) (.inl x) _ HJ2 hF2 hsz2
        have HF1 := Lib.hid hF1
        have HP2 := Lib.hid hP2
        have HL2 := Lib.hid hl2
        have hC2 : Blk (V.setCell ⟨W.heap.size, 1, none⟩ (.int .i64 ((k + m : Nat) : Int))) W.heap.size 80 #[.string s, .int .i64 ((k + m : Nat) : Int)] := ((HCb.out.below hB2 hCl).put 1 _)
        have hBC : B ≠ W.heap.size := fun e => by have := hB.lt; omega
        have hBx : Blk (V.setCell ⟨W.heap.size, 1, none⟩ (.int .i64 ((k + m : Nat) : Int))) B 9 #[.string s] := (HBb.out.below hB2 hBl).far (p := ⟨W.heap.size, 1, none⟩) hBC _
        have hBe2 : Below w₀.heap.size w₀ (V.setCell ⟨W.heap.size, 1, none⟩ (.int .i64 ((k + m : Nat) : Int))) := (HBel.out.trans (hB2.mono HBel.out.size)).setCell (p := ⟨W.heap.size, 1, none⟩) hw.size _
        have HC2 := Lib.hid hC2
        have HBx := Lib.hid hBx
        have HBe2 := Lib.hid hBe2
        clear hF1 hF2 HJ2 h1 hP2 hl2 hG2 hB2 hC2 hBx hBe2
        dsimp only [stepV, stepR, stepE] at hy
        generalize V.setCell ⟨W.heap.size, 1, none⟩ (.int .i64 ((k + m : Nat) : Int)) = W2 at *
        gi_wp2
        refine ⟨fun h => (by cases h), hR.mono ?_⟩
        rintro e W3 (⟨rfl, hJ3, hk3⟩ | ⟨rfl, hJx3⟩)
        · have hC3 : Blk W3 W.heap.size 80 #[.string s, .int .i64 ((k + m : Nat) : Int)] := hk3.2.2.trans HC2.out
          have hM3 := curAt_blk hC3
          have HH : Hid (Head w₀ B W.heap.size s J W3) := ⟨xs ++ [x], HP2.out, by rw [HL2.out]; exact hC3, hk3.2.1.trans HBx.out, HBe2.out.trans hk3.1, by simpa using hJ3⟩
          clear hC3 hk3 hJ3
          gi_wp2
          go_roundw
          case rel => exact HH.out
          case measure => rw [hM3, hM]; omega
        · gi_wp2
          refine bodyPost_ret (results_none rfl _ _ _) rfl ?_
          exact ⟨⟨_, rfl⟩, .inr ⟨_, HF1.out, hJx3⟩⟩
    · have HF := Lib.hid (full_end HP.out (by rw [HK.out, ← Lib.size_eq]; omega))
      gi_wp2
      go_end0
      exact ⟨⟨_, rfl⟩, .inl ⟨_, HF.out.symm, HJs.out⟩⟩
end Go.Proofs.YtapkfajgphkajaaGreatDoor.sh
