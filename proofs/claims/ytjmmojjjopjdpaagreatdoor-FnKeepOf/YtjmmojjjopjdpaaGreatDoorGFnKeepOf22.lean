/-
  Merged texts: KeepDrawn, AppendS, DrawKeepOf, OfPlain, LawK.
-/
import Derived.Test.YtjmmojjjopjdpaaGreatDoorGFnKeepOf21
import Derived.Test.YtjmmojjjopjdpaaGreatDoorGFnKeepOf19
import Derived.Test.YtjmmojjjopjdpaaGreatDoorGFnKeepOf10
import Derived.Test.YtjmmojjjopjdpaaGreatDoorGFnKeepOf20
import Derived.Laws.AppendOwnNone
import Derived.BigFrame
import Derived.Deep.AppendLies
/-
  While a keeper's records are drawn (spec.DrawKeepOf): the reader, the list so far, the keep's box, and how each step leaves them.
-/
namespace Go.Proofs.YtjmmojjjopjdpaaGreatDoor.kp
open Go.ChangeShapes Go.WideShapes Go.ChangeAt Go.RowKit
open Go.Proofs.YtjmmojjjopjdpaaGreatDoor.wd Go.Proofs.YtjmmojjjopjdpaaGreatDoor.ow Go.Proofs.YtjmmojjjopjdpaaGreatDoor.rl Go.Proofs.YtjmmojjjopjdpaaGreatDoor.ok Go.Proofs.YtjmmojjjopjdpaaGreatDoor.nb Go.Proofs.YtjmmojjjopjdpaaGreatDoor.pk Go.Proofs.YtjmmojjjopjdpaaGreatDoor.dr

/-- the reader, the list so far, and the keep's box -/
structure Ko (w : World) (b : Nat) (A : Option Addr) (len cap : Nat) (R : Nat) (W : World) (v : Value) (xs : List ByteArray) (q : Int) (k : Kp) (a1 b1 c1 : Value) : Prop where
  rd : Rd W b A len cap q
  own : W.ownsRow (b + 1) 9 1 v xs.length (xs.map Value.string)
  bel : Below w.heap.size w W
  hb : w.heap.size ≤ b
  hR : b < R
  box : Blk W R 29 #[.int .i64 k.id, .int .i64 k.time, .int .i64 k.next, a1, b1, c1]
  sees : SeesK W k a1 b1 c1
  offb : Off b a1 b1 c1
  offR : Off R a1 b1 c1
  vR : v.ownBlock ≠ some R
  offv : ∀ g, v.ownBlock = some g → Off g a1 b1 c1
  near : NearK k
  sz : Sz 14 k
section
variable {w W W' : World} {b : Nat} {A : Option Addr} {len cap R : Nat} {v v' : Value} {xs : List ByteArray} {q q' : Int} {k k' : Kp} {a1 b1 c1 a2 b2 c2 : Value}
theorem seesK_grown {o : Nat} (h : SeesK W k a1 b1 c1) (hG : W.grownBy W' (some o)) (ho : Off o a1 b1 c1) : SeesK W' k a1 b1 c1 :=
  ⟨seesR_grown h.held hG ho.1, seesR_grown h.marks hG ho.2.1, seesR_grown h.inbox hG ho.2.2⟩
theorem lt_of_sees {α : Type} {S : Shape α} {V : World} {u : Value} {l : List α} {g : Nat} (h : SeesR S V u l) (hg : V.heap.size ≤ g) : u.ownBlock ≠ some g := by
  obtain ⟨A, c, rfl, hc⟩ := h
  rcases hc with ⟨rfl, _, _⟩ | ⟨g', rfl, hlt, _⟩
  · intro e; cases e
  · intro e
    have e2 : g' = g := by injection e with e
    omega
/-- the reader alone has turned -/
theorem Ko.grown (h : Ko w b A len cap R W v xs q k a1 b1 c1) (hG : W.grownBy W' (some b)) (hr : Rd W' b A len cap q') : Ko w b A len cap R W' v xs q' k a1 b1 c1 := by
  have hR := h.hR
  refine ⟨hr, h.own.kept hG ?_, h.bel.trans (grown_below hG h.hb h.bel.size), h.hb, h.hR, blk_grown h.box hG (by omega), seesK_grown h.sees hG h.offb, h.offb, h.offR, h.vR, h.offv, h.near, h.sz⟩
  cases hv : v.ownBlock with
  | none => exact .inl rfl
  | some g => exact .inr (fun e => by have := (h.own.lt g hv).1; injection e; omega)
/-- memory was made -/
theorem Ko.later (h : Ko w b A len cap R W v xs q k a1 b1 c1) (hB : Below W.heap.size W W') : Ko w b A len cap R W' v xs q k a1 b1 c1 := by
  have hl := h.rd.1.lt
  refine ⟨rd_later h.rd (hB.mono (by omega)), h.own.kept (dr.below_grown hB none) ?_, h.bel.trans (hB.mono h.bel.size), h.hb, h.hR, h.box.below hB h.box.lt, h.sees.later hB, h.offb, h.offR, h.vR, h.offv, h.near, h.sz⟩
  cases hv : v.ownBlock with
  | none => exact .inl rfl
  | some g => exact .inr (by simp)
/-- a text was appended -/
theorem Ko.more {n : Nat} {x : ByteArray} (h : Ko w b A len cap R W v xs q k a1 b1 c1) (h1 : W'.ownsRow (b + 1) 9 1 v' n (xs.map Value.string ++ [.string x])) (hg : W.grownBy W' v.ownBlock) (hv : v'.ownBlock = v.ownBlock ∨ ∀ g, v'.ownBlock = some g → W.heap.size ≤ g) : Ko w b A len cap R W' v' (xs ++ [x]) q k a1 b1 c1 := by
  have hb := h.hb
  have hl := h.rd.1.lt
  have hRl := h.box.lt
  have hB : Below (b + 1) W W' := (Below.refl (b + 1) W).grown hg (by omega) (fun k hk => (h.own.lt k hk).1)
  have hs : SeesK W' k a1 b1 c1 := by
    cases hv : v.ownBlock with
    | none => rw [hv] at hg; exact h.sees.later ⟨hg.os, hg.tape, hg.output, hg.size, fun i hi => hg.block i hi (by simp)⟩
    | some g => rw [hv] at hg; exact seesK_grown h.sees hg (h.offv g hv)
  have lts : ∀ g, W.heap.size ≤ g → Off g a1 b1 c1 := fun g hg => ⟨lt_of_sees h.sees.held hg, lt_of_sees h.sees.marks hg, lt_of_sees h.sees.inbox hg⟩
  refine ⟨rd_later h.rd hB, ?_, h.bel.trans (hB.mono (by omega)), h.hb, h.hR, (hg.block R hRl (fun e => h.vR e.symm)).trans h.box, hs, h.offb, h.offR, ?_, ?_, h.near, h.sz⟩
  · obtain rfl : n = (xs ++ [x]).length := by have := h1.1; simp at this; simp; omega
    rw [List.map_append]
    exact h1
  · rcases hv with hv | hv
    · rw [hv]; exact h.vR
    · intro e; have := hv R e; omega
  · intro g hg'
    rcases hv with hv | hv
    · exact h.offv g (hv ▸ hg')
    · exact lts g (hv g hg')
/-- another keep is stored into the box -/
theorem Ko.put (h : Ko w b A len cap R W v xs q k a1 b1 c1) (hs : SeesK W k' a2 b2 c2) (hb : Off b a2 b2 c2) (hO : Off R a2 b2 c2) (hv : ∀ g, v.ownBlock = some g → Off g a2 b2 c2) (hn : NearK k') (hz : Sz 14 k') :
    Ko w b A len cap R (put6 W R (.int .i64 k'.id) (.int .i64 k'.time) (.int .i64 k'.next) a2 b2 c2) v xs q k' a2 b2 c2 := by
  have hl := h.rd.1.lt
  have hR := h.hR
  have hbw := h.hb
  have hRl := h.box.lt
  have hG : W.grownBy (put6 W R (.int .i64 k'.id) (.int .i64 k'.time) (.int .i64 k'.next) a2 b2 c2) (some R) :=
    kp.set_grown (kp.set_grown (kp.set_grown (kp.set_grown (kp.set_grown (kp.set_grown (dr.below_grown (Below.refl _ _) _) 0 _) 1 _) 2 _) 3 _) 4 _) 5 _
  exact ⟨rd_later h.rd (grown_below hG (by omega) (by omega)), h.own.kept hG (.inr h.vR), h.bel.trans (grown_below hG (by omega) h.bel.size), h.hb, h.hR, put6_blk h.box, seesK_grown hs hG hO, hb, hO, h.vR, hv, hn, hz⟩
/-- what spec.KeepDo made lies off all that there was -/
theorem Ko.off (h : Ko w b A len cap R W v xs q k a1 b1 c1) (ho : OwnK W W' k' a2 b2 c2) : Off b a2 b2 c2 ∧ Off R a2 b2 c2 ∧ ∀ g, v.ownBlock = some g → Off g a2 b2 c2 :=
  ⟨ho.off' h.rd.1.lt, ho.off' h.box.lt, fun g hg => ho.off' (h.own.lt g hg).2⟩
theorem doK_near {l : List UInt8} {o : Bool} (h : DoK k l k' o) (hn : NearK k) : NearK k' := by
  rcases h with ⟨_, rfl, _⟩ | ⟨hk, ⟨_, r, _, _, _, hk'⟩ | ⟨_, rfl, _⟩⟩
  · exact nearK_zero
  · exact nearK_ok hk'
  · exact nearK_ok hk
theorem start_near (id : Int) : NearK (startK id) ∧ Sz 14 (startK id) := by
  unfold startK
  cases h : inB id 0 3 with
  | false => exact ⟨nearK_zero, Nat.zero_le _, Nat.zero_le _, Nat.zero_le _, (fun _ h => by cases h), (fun _ h => by cases h)⟩
  | true => exact ⟨⟨inB_iff.1 h, (show (0 : Int) ≤ 0 ∧ (0 : Int) ≤ 999 by decide), (show (0 : Int) ≤ 1 ∧ (1 : Int) ≤ 100 by decide), (fun _ h => by cases h), (fun _ h => by cases h), Nat.zero_le _, Nat.zero_le _⟩, Nat.zero_le _, Nat.zero_le _, Nat.zero_le _, (fun _ h => by cases h), (fun _ h => by cases h)⟩
/-- at first: an empty list, and what KeepStart made, in its box -/
theorem Ko.new {V W : World} (hr : Rd V w.heap.size A len cap q) (hB : Below w.heap.size w V) (ho : OwnK (V.alloc (.cells #[] 9)) W k a1 b1 c1) (hn : NearK k) (hz : Sz 14 k) :
    Ko w w.heap.size A len cap W.heap.size (W.alloc (.cells #[.int .i64 k.id, .int .i64 k.time, .int .i64 k.next, a1, b1, c1] 29)) (.slice (some ⟨V.heap.size, 0, none⟩) 0 0) [] q k a1 b1 c1 := by
  have hl := hr.1.lt
  have hs : (V.alloc (.cells #[] 9)).heap.size = V.heap.size + 1 := by simp
  have hB1 := (Below.refl V.heap.size V).alloc (Nat.le_refl _) (.cells #[] 9)
  have hB2 := ho.bel
  have hsz := hB2.size
  have hB3 := (Below.refl W.heap.size W).alloc (Nat.le_refl _) (.cells #[.int .i64 k.id, .int .i64 k.time, .int .i64 k.next, a1, b1, c1] 29)
  have hB4 := hB2.trans (hB3.mono hB2.size)
  have hB5 := hB1.trans (hB4.mono (by omega))
  have hN : (V.alloc (.cells #[] 9)).ownsRow (w.heap.size + 1) 9 1 (.slice (some ⟨V.heap.size, 0, none⟩) 0 0) 0 [] := World.ownsRow_lit V #[] 0 (by omega) (by unfold maxLen; omega) rfl
  have hN2 := hN.kept (dr.below_grown hB4 none) (.inr (by simp [Value.ownBlock]))
  exact ⟨rd_later hr (hB5.mono (by omega)), hN2, hB.trans (hB5.mono hB.size), Nat.le_refl _, by omega, Blk.new W _ _, ho.sees.later hB3, ho.off' (by omega), ho.off (Nat.le_refl _), (by intro e; have e2 : V.heap.size = W.heap.size := (by injection e with e); omega), (fun g e => ho.off' (by have e2 : V.heap.size = g := (by injection e with e); omega)), hn, hz⟩
theorem seesK_far {r : Option Nat} (h : SeesK W k a1 b1 c1) (hg : W.grownBy W' r) (hv : ∀ g, r = some g → Off g a1 b1 c1) : SeesK W' k a1 b1 c1 := by
  cases r with
  | none => exact h.later ⟨hg.os, hg.tape, hg.output, hg.size, fun i hi => hg.block i hi (by simp)⟩
  | some g => exact seesK_grown h hg (hv g rfl)
theorem Ko.done (h : Ko w b A len cap R W v xs q k a1 b1 c1) : Own 9 w W v (xs.map Value.string) := by
  have hb := h.hb
  refine ⟨?_, h.bel⟩
  rw [List.length_map]
  refine ⟨h.own.1, ?_⟩
  rcases h.own.2 with h' | ⟨g', cap', cur, h1, h2, h3⟩
  · exact .inl h'
  · exact .inr ⟨g', cap', cur, h1, by omega, h3⟩
end
end Go.Proofs.YtjmmojjjopjdpaaGreatDoor.kp

/-
  append(list, list...) of lists of texts: as a law for the walk, whether the second list is nil or not.
-/
namespace Go.Proofs.YtjmmojjjopjdpaaGreatDoor.sl
open Go.ChangeShapes Go.WideShapes Go.ChangeAt Go.RowKit
open Go.Proofs.YtjmmojjjopjdpaaGreatDoor.wd Go.Proofs.YtjmmojjjopjdpaaGreatDoor.cp Go.Proofs.YtjmmojjjopjdpaaGreatDoor.ow

/-- a slice of texts, or nil -/
def PartS (w : World) (A : Option Addr) (c : Nat) (l : List Value) : Prop :=
  (A = none ∧ c = 0 ∧ l = []) ∨ ∃ g, A = some ⟨g, 0, none⟩ ∧ ∀ j u, l[j]? = some u → w.cell? ⟨g, j, none⟩ = some u

theorem wp_append_strs {w : World} {o : Oper} {a : Act} {K : Act → World → Prop} {Q : Exit → Act → World → Prop} (s x : Operand) (t : TypeId)
    (ho : o.op = .call { callee := .builtin .append, args := #[s, x], argTypes := #[t, t] })
    (base : Nat) (e : TypeId) (i : TypeInfo) (z : Value) (bytes : Nat) (ht : Tryz.prog.underlying t = some (.slice e)) (hi : Tryz.prog.info? e = some i) (hz : i.zero = some z)
    (hsize : i.size = 1) (hby : i.bytes = bytes) (hzs : z.cells.size = 1)
    (v : Value) (n : Nat) (xs : List Value) (hs : a.eval s = v) (hown : w.ownsRow base e 1 v n xs)
    (A : Option Addr) (m c : Nat) (l : List Value) (hx : a.eval x = .slice A m c) (hm : m = l.length) (hP : PartS w A c l) (h1 : ∀ u ∈ l, u.oneCell' = true)
    (h63 : n + l.length ≤ maxLen) (hbytes : (n + l.length) * bytes ≤ 140737488355328) (hbase : base ≤ w.heap.size)
    (h : ∀ v' w', w'.ownsRow base e 1 v' (n + l.length) (xs ++ l) → w.grownBy w' v.ownBlock → K (a.put o.dst v') w') : o.wp Tryz.prog a w K Q := by
  subst hm
  rcases hP with ⟨rfl, rfl, rfl⟩ | ⟨g, rfl, hc⟩
  · have hrun := run_append_owned_none (P := Tryz.prog) (w := w) base t o.type e i 1 ht hi v n xs hown
    have hk := h v w (by simpa using hown) ⟨rfl, rfl, rfl, Nat.le_refl _, fun _ _ _ => rfl⟩
    unfold Oper.wp
    simp at hx
    simp [execOp, ho, resolve, invoke, builtin, hs, hx, hrun, Result.andThen]
    exact hk
  · exact wp_append_own w s x t ho base e i z 1 bytes ht hi hz hsize hby hzs (by decide) v n xs hs hown ⟨g, 0, none⟩ l.length c l hx (by omega) (fun j u hu => by
      have hadd : (⟨g, 0, none⟩ : Addr).add j = ⟨g, j, none⟩ := by unfold Addr.add; split <;> simp_all
      rw [hadd]; exact hc j u hu) h1 h63 hbytes hbase (fun v' w' h1 h2 _ => h v' w' h1 h2)

theorem wpList_append_strs {w : World} {ops : Array Oper} {rest : List Oper} {o : Oper} {a : Act} {Q : Exit → Act → World → Prop} (hw : Region.wanted o (yielded ops a.tmps) = true) (s x : Operand) (t : TypeId)
    (ho : o.op = .call { callee := .builtin .append, args := #[s, x], argTypes := #[t, t] })
    (base : Nat) (e : TypeId) (i : TypeInfo) (z : Value) (bytes : Nat) (ht : Tryz.prog.underlying t = some (.slice e)) (hi : Tryz.prog.info? e = some i) (hz : i.zero = some z)
    (hsize : i.size = 1) (hby : i.bytes = bytes) (hzs : z.cells.size = 1)
    (v : Value) (n : Nat) (xs : List Value) (hs : a.eval s = v) (hown : w.ownsRow base e 1 v n xs)
    (A : Option Addr) (m c : Nat) (l : List Value) (hx : a.eval x = .slice A m c) (hm : m = l.length) (hP : PartS w A c l) (h1 : ∀ u ∈ l, u.oneCell' = true)
    (h63 : n + l.length ≤ maxLen) (hbytes : (n + l.length) * bytes ≤ 140737488355328) (hbase : base ≤ w.heap.size)
    (h : ∀ v' w', w'.ownsRow base e 1 v' (n + l.length) (xs ++ l) → w.grownBy w' v.ownBlock → wpList Tryz.prog ops Q rest (a.put o.dst v') w') : wpList Tryz.prog ops Q (o :: rest) a w := by
  unfold wpList
  rw [if_pos hw]
  exact .inl (wp_append_strs s x t ho base e i z bytes ht hi hz hsize hby hzs v n xs hs hown A m c l hx hm hP h1 h63 hbytes hbase h)

theorem part_of_own {w0 w : World} {A : Option Addr} {m c : Nat} {l : List Value} (h : Own 9 w0 w (.slice A m c) l) : PartS w A c l := by
  rcases h.1.2 with ⟨e, hn⟩ | ⟨g, cap, cur, e, _⟩
  · injection e with e1 e2 e3
    exact .inl ⟨e1, e3, List.eq_nil_of_length_eq_zero hn⟩
  · injection e with e1 e2 e3
    subst e1; subst e2; subst e3
    refine .inr ⟨g, rfl, fun j u hu => ?_⟩
    have hj := (List.getElem?_eq_some_iff.mp hu).1
    rw [World.ownsRow.cellAt (g := g) (cap := _) h.1 j (by omega)]
    exact hu
/-- a list of the call's own lies on through an append to another one -/
theorem Own.far {w0 w w1 w2 : World} {v u : Value} {l : List Value} (h : Own 9 w0 w v l) (hb : Below w.heap.size w w1) (hg : w1.grownBy w2 u.ownBlock) (hu : ∀ k, u.ownBlock = some k → w.heap.size ≤ k) : Own 9 w0 w2 v l := by
  refine ⟨(h.later hb).1.kept hg ?_, (h.later hb).2.trans ⟨hg.os, hg.tape, hg.output, hg.size, fun k hk => hg.block k (by have := h.2.size; have := hb.size; omega) (fun e => by have := hu k e.symm; have := h.2.size; omega)⟩⟩
  cases hv : v.ownBlock with
  | none => exact .inl rfl
  | some k =>
    refine .inr (fun e => ?_)
    have h1 := (h.lt hv).2
    have h2 := hu k e.symm
    omega
theorem own_grow {w0 w w1 : World} {v v1 : Value} {xs ys : List Value} {n : Nat} (h : Own 9 w0 w v xs) (h1 : w1.ownsRow w0.heap.size 9 1 v1 n ys) (hg : w.grownBy w1 v.ownBlock) : Own 9 w0 w1 v1 ys := by
  obtain rfl : n = ys.length := by have := h1.1; omega
  exact ⟨h1, h.2.trans ⟨hg.os, hg.tape, hg.output, hg.size, fun k hk => hg.block k (Nat.lt_of_lt_of_le hk h.2.size) (fun e => by have := (h.lt e.symm).1; omega)⟩⟩
theorem str_ones (l : List ByteArray) : ∀ u ∈ l.map Value.string, u.oneCell' = true := fun u hu => by
  obtain ⟨x, _, rfl⟩ := List.mem_map.1 hu
  rfl
end Go.Proofs.YtjmmojjjopjdpaaGreatDoor.sl

/-
  Contract of spec.DrawKeepOf: whatever the code, a number from -1 to 4 and at most 11 texts in a list of the call's own.
-/
namespace Go.Proofs.YtjmmojjjopjdpaaGreatDoor.kp
open Go.ChangeShapes Go.WideShapes Go.ChangeAt Go.RowKit
open Go.Proofs.YtjmmojjjopjdpaaGreatDoor.wd Go.Proofs.YtjmmojjjopjdpaaGreatDoor.ow Go.Proofs.YtjmmojjjopjdpaaGreatDoor.rl Go.Proofs.YtjmmojjjopjdpaaGreatDoor.ok Go.Proofs.YtjmmojjjopjdpaaGreatDoor.nb Go.Proofs.YtjmmojjjopjdpaaGreatDoor.pk Go.Proofs.YtjmmojjjopjdpaaGreatDoor.dr Go.Proofs.YtjmmojjjopjdpaaGreatDoor.cp

def OfDrawn (w : World) (e : Ending) (w' : World) : Prop :=
  ∃ (id : Int) (v : Value) (xs : List ByteArray), e = .returned (.tuple #[.int .i64 id, v]) ∧ -1 ≤ id ∧ id ≤ 4 ∧ xs.length ≤ 11 ∧ (∀ x ∈ xs, x.size ≤ 100) ∧ Own 9 w w' v (xs.map Value.string)

set_option maxRecDepth 100000 in
set_option maxHeartbeats 4000000 in
theorem drawKeepOf (w : World) (A : Option Addr) (len cap : Nat) (h : Bytes w w.heap.size A len) (hl : len ≤ cap) (hm : cap ≤ maxLen) :
    Calls Tryz.prog 11 #[.slice A len cap] w (OfDrawn w) := by
  obtain ⟨s0, si, sz0, sz1, sz2⟩ := info_parts infoStr
  go_enter Tryz.func11, Tryz.ntmps11
  go_wp2_with fail
  refine (open_any _ _ _ _ h hl hm).mono ?_
  rintro e w1 ⟨len1, cap1, rfl, hR1, hB1, hz⟩
  clear hz h hl hm
  go_wp2_with fail
  refine (picked _ _ _ _ _ _ _ hR1 (by omega) (by omega) (by omega)).mono ?_
  rintro e w2 ⟨id, rfl, i0, i1, hR2, hO2⟩
  have hB2 := hB1.trans (grown_below (only_grown hO2) (Nat.le_refl _) hB1.size)
  clear hR1 hO2 hB1
  go_wp2_with fail
  refine (picked _ _ _ _ _ _ _ hR2 (by omega) (by omega) (by omega)).mono ?_
  rintro e w3 ⟨z, rfl, z0, z1, hR3, hO3⟩
  have hB3 := hB2.trans (grown_below (only_grown hO3) (Nat.le_refl _) hB2.size)
  clear hR2 hO3 hB2
  by_cases ez : z = 0
  · subst ez
    have hba := (Below.refl w3.heap.size w3).alloc (Nat.le_refl _) (.cells #[.int .i64 (-1), .int .i64 4] 3)
    have hbl := hR3.1.lt
    have hN := Blk.new w3 3 #[.int .i64 (-1), .int .i64 4]
    have hB4 := hB3.trans (hba.mono hB3.size)
    have hR4 := rd_later hR3 (hba.mono (by omega))
    clear hR3 hB3 hba
    go_wp2_with fail
    refine (picked _ _ _ _ _ _ _ hR4 (by omega) (by omega) (by omega)).mono ?_
    rintro e w4 ⟨j, rfl, j0, j1, hR5, hO5⟩
    have hN4 := blk_only hN hO5 (by omega)
    obtain ⟨j, rfl⟩ := Int.eq_ofNat_of_zero_le j0
    obtain ⟨id2, hc, g0, g1⟩ : ∃ id2 : Int, w4.cell? ⟨w3.heap.size, j, none⟩ = some (.int .i64 id2) ∧ -1 ≤ id2 ∧ id2 ≤ 4 := by
      rcases (by omega : j = 0 ∨ j = 1) with rfl | rfl
      · exact ⟨-1, hN4.cell 0, by omega, by omega⟩
      · exact ⟨4, hN4.cell 1, by omega, by omega⟩
    have HB := Lib.hid (hB4.trans (grown_below (only_grown hO5) (Nat.le_refl _) hB4.size))
    have HR := Lib.hid hR5
    clear hR5 hR4 hO5 hB4 hN hN4
    go_upto_region 5 with (fail)
    have HS := Lib.hid (start_near id2)
    go_wp2_with fail
    refine (start_any id2 _).mono ?_
    rintro e w5 ⟨a1, b1, c1, rfl, ho⟩
    obtain ⟨Aa, ca, rfl, _⟩ := ho.sees.held
    obtain ⟨Ab, cb, rfl, _⟩ := ho.sees.marks
    obtain ⟨Ac, cc, rfl, _⟩ := ho.sees.inbox
    have HK := Lib.hid (Ko.new HR.out HB.out ho HS.out.1 HS.out.2)
    clear ho HR HB HS
    generalize startK id2 = k0 at HK ⊢
    go_upto_region 7 with (fail)
    generalize w5.alloc (.cells #[.int .i64 k0.id, .int .i64 k0.time, .int .i64 k0.next, .slice Aa k0.held.length ca, .slice Ab k0.marks.length cb, .slice Ac k0.inbox.length cc] 29) = V at HK ⊢
    generalize w5.heap.size = R at HK ⊢
    go_wp2_with fail
    refine (picked _ _ _ _ _ _ _ HK.out.rd (by omega) (by omega) (by omega)).mono ?_
    rintro e w6 ⟨n, rfl, n0, n1, hR6, hO6⟩
    obtain ⟨n, rfl⟩ := Int.eq_ofNat_of_zero_le n0
    have HK1 := Lib.hid (HK.out.grown (only_grown hO6) hR6)
    clear hR6 hO6 HK
    go_wp2
    generalize (Value.slice (some ⟨w4.heap.size, 0, none⟩) 0 0) = v0 at HK1 ⊢
    have HN0 := Lib.hid (show (∀ x ∈ ([] : List ByteArray), x.size ≤ 100) from fun _ h => by cases h)
    go_loopw [6, 8] (fun lv i wr => ∃ (r : Nat) (xs : List ByteArray) (q : Int) (k : Kp) (a1 b1 c1 : Value), i = .int .i64 r ∧ xs.length + r ≤ 11 ∧ 0 ≤ q ∧ q + 130 * r ≤ 2000 ∧ Hid (Ko w w.heap.size A len1 cap1 R wr lv xs q k a1 b1 c1) ∧ Hid (∀ x ∈ xs, x.size ≤ 100)) (fun _ i _ => (intOf i).toNat)
    case atStart => exact ⟨n, [], _, k0, _, _, _, rfl, by simp; omega, by omega, by omega, HK1.out, HN0⟩
    case round =>
      obtain ⟨r, xs, q, k, a1, b1, c1, rfl, hr, hq0, hq1, HK2, HN⟩ := hrel
      clear HK1 HN0
      by_cases hr0 : 0 < r
      · obtain ⟨Aa, ca, rfl, _⟩ := HK2.out.sees.held
        obtain ⟨Ab, cb, rfl, _⟩ := HK2.out.sees.marks
        obtain ⟨Ac, cc, rfl, _⟩ := HK2.out.sees.inbox
        obtain ⟨k0, k1, k2, k3, k4, k5⟩ := cells6 HK2.out.box
        go_wp2_with fail
        refine (near72 _ _ _ _ _ _ HK2.out.rd (by omega) k _ _ _ HK2.out.sees HK2.out.near HK2.out.offb).mono ?_
        rintro e w7 ⟨s, q', rfl, hs, hq2, hq3, hR7, hG7⟩
        have HK3 := Lib.hid (HK2.out.grown hG7 hR7)
        clear hG7 hR7 HK2 k0 k1 k2 k3 k4 k5
        obtain ⟨k0, k1, k2, k3, k4, k5⟩ := cells6 HK3.out.box
        go_wp2_with fail
        refine (keepDo_any _ k _ _ _ s (by omega) HK3.out.sees (HK3.out.sz.few (by omega)) HK3.out.sz.texts).mono ?_
        rintro e w8 ⟨k', did, a2, b2, c2, rfl, hd, hz, ho⟩
        obtain ⟨Ad, cd, rfl, _⟩ := ho.sees.held
        obtain ⟨Ae, ce, rfl, _⟩ := ho.sees.marks
        obtain ⟨Af, cf, rfl, _⟩ := ho.sees.inbox
        have HOf := Lib.hid (HK3.out.off ho)
        have HNr := Lib.hid (doK_near hd HK3.out.near)
        have HSz := Lib.hid hz
        have hBa := (Below.refl w8.heap.size w8).alloc (Nat.le_refl _) (.cells #[.int .i64 k'.id, .int .i64 k'.time, .int .i64 k'.next, .slice Ad k'.held.length cd, .slice Ae k'.marks.length ce, .slice Af k'.inbox.length cf] 29)
        have HK4 := HK3.out.later ho.bel
        have HK5 := Lib.hid (HK4.later hBa)
        have HX5 := Lib.hid (Blk.new w8 29 #[.int .i64 k'.id, .int .i64 k'.time, .int .i64 k'.next, .slice Ad k'.held.length cd, .slice Ae k'.marks.length ce, .slice Af k'.inbox.length cf])
        have HS5 := Lib.hid (ho.sees.later hBa)
        have hR2 : R < w8.heap.size := HK4.box.lt
        have hv2 : u6.ownBlock ≠ some w8.heap.size := fun e => by have := (HK4.own.lt _ e).2; omega
        have HV2 := Lib.hid hv2
        clear hd hz ho hBa HK4 HK3 k0 k1 k2 k3 k4 k5 hv2
        go_upto_region 12 with (fail)
        generalize w8.alloc (.cells #[.int .i64 k'.id, .int .i64 k'.time, .int .i64 k'.next, .slice Ad k'.held.length cd, .slice Ae k'.marks.length ce, .slice Af k'.inbox.length cf] 29) = W9 at HK5 HX5 HS5 ⊢
        generalize w8.heap.size = R2 at HX5 hR2 HV2 ⊢
        cases did with
        | true =>
          have hlA := HK5.out.rd.1.lt
          have hxl := HX5.out.lt
          have hBl := (Below.refl W9.heap.size W9).alloc (Nat.le_refl _) (.cells #[.string s] 9)
          have HKa := Lib.hid (HK5.out.later hBl)
          have HXa := Lib.hid (HX5.out.below hBl hxl)
          have HSa := Lib.hid (HS5.out.later hBl)
          have hz9 : (W9.alloc (.cells #[.string s] 9)).heap.size = W9.heap.size + 1 := by simp
          have hx4 : (xs ++ [s]).length = xs.length + 1 := by simp
          have HOs := Lib.hid (fun (g : Nat) (hg : W9.heap.size ≤ g) => (show Off g _ _ _ from ⟨lt_of_sees HS5.out.held hg, lt_of_sees HS5.out.marks hg, lt_of_sees HS5.out.inbox hg⟩))
          clear hBl HX5 HS5 HK5
          go_wp2_with (at_builtin; refine wpList_append_lies _ rfl _ _ 23 rfl (w.heap.size + 1) 9 s0 (.string ⟨#[]⟩) 1 16 Tryz.underlying23 si sz0 sz1 sz2 rfl (by decide) _ _ _ rfl HKa.out.own ⟨W9.heap.size, 0, none⟩ 1 1 [.string s] rfl rfl ?e1 ?e2 (by decide) ?e3 ?e4 ?e5 _ rfl ?_)
          case e1 => exact cell_one_new _ _ _
          case e2 => intro x hx; simp at hx; subst hx; rfl
          case e3 => unfold maxLen; omega
          case e4 => omega
          case e5 => simp; omega
          intro g cap2 wA hown1 hgrow1 hlie hglt
          have HK6 := Lib.hid (HKa.out.more hown1 hgrow1 (hlie.elim (fun hl => .inl hl.symm) (fun hl => .inr (fun g' e => by have e2 : g = g' := (by injection e with e); omega))))
          have HX6 := Lib.hid ((hgrow1.block R2 (by simp; omega) (fun e => HV2.out e.symm)).trans HXa.out)
          have HS6 := Lib.hid (seesK_far HSa.out hgrow1 HOf.out.2.2)
          clear hown1 hgrow1 HKa HXa HSa
          obtain ⟨k0, k1, k2, k3, k4, k5⟩ := cells6 HX6.out
          have f0 := HK6.out.box.frozen 0
          have f1 := HK6.out.box.frozen 1
          have f2 := HK6.out.box.frozen 2
          have f3 := HK6.out.box.frozen 3
          have f4 := HK6.out.box.frozen 4
          have f5 := HK6.out.box.frozen 5
          obtain ⟨m0, m1, m2, m3, m4, m5⟩ := cells6 HK6.out.box
          have HK7 := Lib.hid (HK6.out.put HS6.out HOf.out.1 HOf.out.2.1 (hlie.elim (fun hl g' e => HOf.out.2.2 g' (hl.trans (by have e2 : g = g' := (by injection e with e); rw [e2]))) (fun hl g' e => by have e2 : g = g' := (by injection e with e); exact HOs.out g' (by omega))) HNr.out HSz.out)
          have HN7 := Lib.hid (show (∀ x ∈ xs ++ [s], x.size ≤ 100) from fun x hx => (List.mem_append.1 hx).elim (HN.out x) (fun h => by rw [List.mem_singleton.1 h]; exact hs))
          clear HK6 HS6 HX6
          go_wp2
          go_roundw
          case rel => exact ⟨r - 1, xs ++ [s], q', k', _, _, _, by go_num, by omega, by omega, by omega, HK7.out, HN7⟩
          case measure => simp [intOf]; omega
        | false =>
          have hbR := HK5.out.hR
          go_wp2_with fail
          refine (picked _ _ _ _ _ _ _ HK5.out.rd (by omega) (by omega) (by omega)).mono ?_
          rintro e w9 ⟨y, rfl, y0, y1, hR9, hO9⟩
          have HX5 := Lib.hid (blk_only HX5.out hO9 (by omega))
          have HS5 := Lib.hid (seesK_grown HS5.out (only_grown hO9) HOf.out.1)
          have HK5 := Lib.hid (HK5.out.grown (only_grown hO9) hR9)
          clear hR9 hO9
          by_cases ey : y = 0
          · subst ey
            have hlA := HK5.out.rd.1.lt
            have hxl := HX5.out.lt
            have hBl := (Below.refl w9.heap.size w9).alloc (Nat.le_refl _) (.cells #[.string s] 9)
            have HKa := Lib.hid (HK5.out.later hBl)
            have HXa := Lib.hid (HX5.out.below hBl hxl)
            have HSa := Lib.hid (HS5.out.later hBl)
            have hz9 : (w9.alloc (.cells #[.string s] 9)).heap.size = w9.heap.size + 1 := by simp
            have hx4 : (xs ++ [s]).length = xs.length + 1 := by simp
            have HOs := Lib.hid (fun (g : Nat) (hg : w9.heap.size ≤ g) => (show Off g _ _ _ from ⟨lt_of_sees HS5.out.held hg, lt_of_sees HS5.out.marks hg, lt_of_sees HS5.out.inbox hg⟩))
            clear hBl HX5 HS5 HK5
            go_wp2_with (at_builtin; refine wpList_append_lies _ rfl _ _ 23 rfl (w.heap.size + 1) 9 s0 (.string ⟨#[]⟩) 1 16 Tryz.underlying23 si sz0 sz1 sz2 rfl (by decide) _ _ _ rfl HKa.out.own ⟨w9.heap.size, 0, none⟩ 1 1 [.string s] rfl rfl ?e1 ?e2 (by decide) ?e3 ?e4 ?e5 _ rfl ?_)
            case e1 => exact cell_one_new _ _ _
            case e2 => intro x hx; simp at hx; subst hx; rfl
            case e3 => unfold maxLen; omega
            case e4 => omega
            case e5 => simp; omega
            intro g cap2 wA hown1 hgrow1 hlie hglt
            have HK6 := Lib.hid (HKa.out.more hown1 hgrow1 (hlie.elim (fun hl => .inl hl.symm) (fun hl => .inr (fun g' e => by have e2 : g = g' := (by injection e with e); omega))))
            have HX6 := Lib.hid ((hgrow1.block R2 (by simp; omega) (fun e => HV2.out e.symm)).trans HXa.out)
            have HS6 := Lib.hid (seesK_far HSa.out hgrow1 HOf.out.2.2)
            clear hown1 hgrow1 HKa HXa HSa
            obtain ⟨k0, k1, k2, k3, k4, k5⟩ := cells6 HX6.out
            have f0 := HK6.out.box.frozen 0
            have f1 := HK6.out.box.frozen 1
            have f2 := HK6.out.box.frozen 2
            have f3 := HK6.out.box.frozen 3
            have f4 := HK6.out.box.frozen 4
            have f5 := HK6.out.box.frozen 5
            obtain ⟨m0, m1, m2, m3, m4, m5⟩ := cells6 HK6.out.box
            have HK7 := Lib.hid (HK6.out.put HS6.out HOf.out.1 HOf.out.2.1 (hlie.elim (fun hl g' e => HOf.out.2.2 g' (hl.trans (by have e2 : g = g' := (by injection e with e); rw [e2]))) (fun hl g' e => by have e2 : g = g' := (by injection e with e); exact HOs.out g' (by omega))) HNr.out HSz.out)
            have HN7 := Lib.hid (show (∀ x ∈ xs ++ [s], x.size ≤ 100) from fun x hx => (List.mem_append.1 hx).elim (HN.out x) (fun h => by rw [List.mem_singleton.1 h]; exact hs))
            clear HK6 HS6 HX6
            go_wp2
            go_roundw
            case rel => exact ⟨r - 1, xs ++ [s], q' + 1, k', _, _, _, by go_num, by omega, by omega, by omega, HK7.out, HN7⟩
            case measure => simp [intOf]; omega
          · have ey' : (y == 0) = false := by simpa using ey
            go_wp2
            go_roundw
            case rel => exact ⟨r - 1, xs, q' + 1, k, _, _, _, by go_num, by omega, by omega, by omega, HK5.out, HN⟩
            case measure => simp [intOf]; omega
      · obtain rfl : r = 0 := by omega
        have HD := Lib.hid HK2.out.done
        go_wp2
        exact bodyPost_ret (v := .tuple #[.int .i64 id2, u6]) (by simp [results, Tryz.results11, go_sem]) rfl ⟨_, _, xs, rfl, by omega, by omega, by omega, HN.out, HD.out⟩
  · have ez' : (z == 0) = false := by simpa using ez
    have HR := Lib.hid hR3
    have HB := Lib.hid hB3
    clear hR3 hB3
    have HS := Lib.hid (start_near id)
    go_wp2_with fail
    refine (start_any id _).mono ?_
    rintro e w5 ⟨a1, b1, c1, rfl, ho⟩
    obtain ⟨Aa, ca, rfl, _⟩ := ho.sees.held
    obtain ⟨Ab, cb, rfl, _⟩ := ho.sees.marks
    obtain ⟨Ac, cc, rfl, _⟩ := ho.sees.inbox
    have HK := Lib.hid (Ko.new HR.out HB.out ho HS.out.1 HS.out.2)
    clear ho HR HB HS
    generalize startK id = k0 at HK ⊢
    go_upto_region 7 with (fail)
    generalize w5.alloc (.cells #[.int .i64 k0.id, .int .i64 k0.time, .int .i64 k0.next, .slice Aa k0.held.length ca, .slice Ab k0.marks.length cb, .slice Ac k0.inbox.length cc] 29) = V at HK ⊢
    generalize w5.heap.size = R at HK ⊢
    go_wp2_with fail
    refine (picked _ _ _ _ _ _ _ HK.out.rd (by omega) (by omega) (by omega)).mono ?_
    rintro e w6 ⟨n, rfl, n0, n1, hR6, hO6⟩
    obtain ⟨n, rfl⟩ := Int.eq_ofNat_of_zero_le n0
    have HK1 := Lib.hid (HK.out.grown (only_grown hO6) hR6)
    clear hR6 hO6 HK
    go_wp2
    generalize (Value.slice (some ⟨w3.heap.size, 0, none⟩) 0 0) = v0 at HK1 ⊢
    have HN0 := Lib.hid (show (∀ x ∈ ([] : List ByteArray), x.size ≤ 100) from fun _ h => by cases h)
    go_loopw [6, 8] (fun lv i wr => ∃ (r : Nat) (xs : List ByteArray) (q : Int) (k : Kp) (a1 b1 c1 : Value), i = .int .i64 r ∧ xs.length + r ≤ 11 ∧ 0 ≤ q ∧ q + 130 * r ≤ 2000 ∧ Hid (Ko w w.heap.size A len1 cap1 R wr lv xs q k a1 b1 c1) ∧ Hid (∀ x ∈ xs, x.size ≤ 100)) (fun _ i _ => (intOf i).toNat)
    case atStart => exact ⟨n, [], _, k0, _, _, _, rfl, by simp; omega, by omega, by omega, HK1.out, HN0⟩
    case round =>
      obtain ⟨r, xs, q, k, a1, b1, c1, rfl, hr, hq0, hq1, HK2, HN⟩ := hrel
      clear HK1 HN0
      by_cases hr0 : 0 < r
      · obtain ⟨Aa, ca, rfl, _⟩ := HK2.out.sees.held
        obtain ⟨Ab, cb, rfl, _⟩ := HK2.out.sees.marks
        obtain ⟨Ac, cc, rfl, _⟩ := HK2.out.sees.inbox
        obtain ⟨k0, k1, k2, k3, k4, k5⟩ := cells6 HK2.out.box
        go_wp2_with fail
        refine (near72 _ _ _ _ _ _ HK2.out.rd (by omega) k _ _ _ HK2.out.sees HK2.out.near HK2.out.offb).mono ?_
        rintro e w7 ⟨s, q', rfl, hs, hq2, hq3, hR7, hG7⟩
        have HK3 := Lib.hid (HK2.out.grown hG7 hR7)
        clear hG7 hR7 HK2 k0 k1 k2 k3 k4 k5
        obtain ⟨k0, k1, k2, k3, k4, k5⟩ := cells6 HK3.out.box
        go_wp2_with fail
        refine (keepDo_any _ k _ _ _ s (by omega) HK3.out.sees (HK3.out.sz.few (by omega)) HK3.out.sz.texts).mono ?_
        rintro e w8 ⟨k', did, a2, b2, c2, rfl, hd, hz, ho⟩
        obtain ⟨Ad, cd, rfl, _⟩ := ho.sees.held
        obtain ⟨Ae, ce, rfl, _⟩ := ho.sees.marks
        obtain ⟨Af, cf, rfl, _⟩ := ho.sees.inbox
        have HOf := Lib.hid (HK3.out.off ho)
        have HNr := Lib.hid (doK_near hd HK3.out.near)
        have HSz := Lib.hid hz
        have hBa := (Below.refl w8.heap.size w8).alloc (Nat.le_refl _) (.cells #[.int .i64 k'.id, .int .i64 k'.time, .int .i64 k'.next, .slice Ad k'.held.length cd, .slice Ae k'.marks.length ce, .slice Af k'.inbox.length cf] 29)
        have HK4 := HK3.out.later ho.bel
        have HK5 := Lib.hid (HK4.later hBa)
        have HX5 := Lib.hid (Blk.new w8 29 #[.int .i64 k'.id, .int .i64 k'.time, .int .i64 k'.next, .slice Ad k'.held.length cd, .slice Ae k'.marks.length ce, .slice Af k'.inbox.length cf])
        have HS5 := Lib.hid (ho.sees.later hBa)
        have hR2 : R < w8.heap.size := HK4.box.lt
        have hv2 : u6.ownBlock ≠ some w8.heap.size := fun e => by have := (HK4.own.lt _ e).2; omega
        have HV2 := Lib.hid hv2
        clear hd hz ho hBa HK4 HK3 k0 k1 k2 k3 k4 k5 hv2
        go_upto_region 12 with (fail)
        generalize w8.alloc (.cells #[.int .i64 k'.id, .int .i64 k'.time, .int .i64 k'.next, .slice Ad k'.held.length cd, .slice Ae k'.marks.length ce, .slice Af k'.inbox.length cf] 29) = W9 at HK5 HX5 HS5 ⊢
        generalize w8.heap.size = R2 at HX5 hR2 HV2 ⊢
        cases did with
        | true =>
          have hlA := HK5.out.rd.1.lt
          have hxl := HX5.out.lt
          have hBl := (Below.refl W9.heap.size W9).alloc (Nat.le_refl _) (.cells #[.string s] 9)
          have HKa := Lib.hid (HK5.out.later hBl)
          have HXa := Lib.hid (HX5.out.below hBl hxl)
          have HSa := Lib.hid (HS5.out.later hBl)
          have hz9 : (W9.alloc (.cells #[.string s] 9)).heap.size = W9.heap.size + 1 := by simp
          have hx4 : (xs ++ [s]).length = xs.length + 1 := by simp
          have HOs := Lib.hid (fun (g : Nat) (hg : W9.heap.size ≤ g) => (show Off g _ _ _ from ⟨lt_of_sees HS5.out.held hg, lt_of_sees HS5.out.marks hg, lt_of_sees HS5.out.inbox hg⟩))
          clear hBl HX5 HS5 HK5
          go_wp2_with (at_builtin; refine wpList_append_lies _ rfl _ _ 23 rfl (w.heap.size + 1) 9 s0 (.string ⟨#[]⟩) 1 16 Tryz.underlying23 si sz0 sz1 sz2 rfl (by decide) _ _ _ rfl HKa.out.own ⟨W9.heap.size, 0, none⟩ 1 1 [.string s] rfl rfl ?e1 ?e2 (by decide) ?e3 ?e4 ?e5 _ rfl ?_)
          case e1 => exact cell_one_new _ _ _
          case e2 => intro x hx; simp at hx; subst hx; rfl
          case e3 => unfold maxLen; omega
          case e4 => omega
          case e5 => simp; omega
          intro g cap2 wA hown1 hgrow1 hlie hglt
          have HK6 := Lib.hid (HKa.out.more hown1 hgrow1 (hlie.elim (fun hl => .inl hl.symm) (fun hl => .inr (fun g' e => by have e2 : g = g' := (by injection e with e); omega))))
          have HX6 := Lib.hid ((hgrow1.block R2 (by simp; omega) (fun e => HV2.out e.symm)).trans HXa.out)
          have HS6 := Lib.hid (seesK_far HSa.out hgrow1 HOf.out.2.2)
          clear hown1 hgrow1 HKa HXa HSa
          obtain ⟨k0, k1, k2, k3, k4, k5⟩ := cells6 HX6.out
          have f0 := HK6.out.box.frozen 0
          have f1 := HK6.out.box.frozen 1
          have f2 := HK6.out.box.frozen 2
          have f3 := HK6.out.box.frozen 3
          have f4 := HK6.out.box.frozen 4
          have f5 := HK6.out.box.frozen 5
          obtain ⟨m0, m1, m2, m3, m4, m5⟩ := cells6 HK6.out.box
          have HK7 := Lib.hid (HK6.out.put HS6.out HOf.out.1 HOf.out.2.1 (hlie.elim (fun hl g' e => HOf.out.2.2 g' (hl.trans (by have e2 : g = g' := (by injection e with e); rw [e2]))) (fun hl g' e => by have e2 : g = g' := (by injection e with e); exact HOs.out g' (by omega))) HNr.out HSz.out)
          have HN7 := Lib.hid (show (∀ x ∈ xs ++ [s], x.size ≤ 100) from fun x hx => (List.mem_append.1 hx).elim (HN.out x) (fun h => by rw [List.mem_singleton.1 h]; exact hs))
          clear HK6 HS6 HX6
          go_wp2
          go_roundw
          case rel => exact ⟨r - 1, xs ++ [s], q', k', _, _, _, by go_num, by omega, by omega, by omega, HK7.out, HN7⟩
          case measure => simp [intOf]; omega
        | false =>
          have hbR := HK5.out.hR
          go_wp2_with fail
          refine (picked _ _ _ _ _ _ _ HK5.out.rd (by omega) (by omega) (by omega)).mono ?_
          rintro e w9 ⟨y, rfl, y0, y1, hR9, hO9⟩
          have HX5 := Lib.hid (blk_only HX5.out hO9 (by omega))
          have HS5 := Lib.hid (seesK_grown HS5.out (only_grown hO9) HOf.out.1)
          have HK5 := Lib.hid (HK5.out.grown (only_grown hO9) hR9)
          clear hR9 hO9
          by_cases ey : y = 0
          · subst ey
            have hlA := HK5.out.rd.1.lt
            have hxl := HX5.out.lt
            have hBl := (Below.refl w9.heap.size w9).alloc (Nat.le_refl _) (.cells #[.string s] 9)
            have HKa := Lib.hid (HK5.out.later hBl)
            have HXa := Lib.hid (HX5.out.below hBl hxl)
            have HSa := Lib.hid (HS5.out.later hBl)
            have hz9 : (w9.alloc (.cells #[.string s] 9)).heap.size = w9.heap.size + 1 := by simp
            have hx4 : (xs ++ [s]).length = xs.length + 1 := by simp
            have HOs := Lib.hid (fun (g : Nat) (hg : w9.heap.size ≤ g) => (show Off g _ _ _ from ⟨lt_of_sees HS5.out.held hg, lt_of_sees HS5.out.marks hg, lt_of_sees HS5.out.inbox hg⟩))
            clear hBl HX5 HS5 HK5
            go_wp2_with (at_builtin; refine wpList_append_lies _ rfl _ _ 23 rfl (w.heap.size + 1) 9 s0 (.string ⟨#[]⟩) 1 16 Tryz.underlying23 si sz0 sz1 sz2 rfl (by decide) _ _ _ rfl HKa.out.own ⟨w9.heap.size, 0, none⟩ 1 1 [.string s] rfl rfl ?e1 ?e2 (by decide) ?e3 ?e4 ?e5 _ rfl ?_)
            case e1 => exact cell_one_new _ _ _
            case e2 => intro x hx; simp at hx; subst hx; rfl
            case e3 => unfold maxLen; omega
            case e4 => omega
            case e5 => simp; omega
            intro g cap2 wA hown1 hgrow1 hlie hglt
            have HK6 := Lib.hid (HKa.out.more hown1 hgrow1 (hlie.elim (fun hl => .inl hl.symm) (fun hl => .inr (fun g' e => by have e2 : g = g' := (by injection e with e); omega))))
            have HX6 := Lib.hid ((hgrow1.block R2 (by simp; omega) (fun e => HV2.out e.symm)).trans HXa.out)
            have HS6 := Lib.hid (seesK_far HSa.out hgrow1 HOf.out.2.2)
            clear hown1 hgrow1 HKa HXa HSa
            obtain ⟨k0, k1, k2, k3, k4, k5⟩ := cells6 HX6.out
            have f0 := HK6.out.box.frozen 0
            have f1 := HK6.out.box.frozen 1
            have f2 := HK6.out.box.frozen 2
            have f3 := HK6.out.box.frozen 3
            have f4 := HK6.out.box.frozen 4
            have f5 := HK6.out.box.frozen 5
            obtain ⟨m0, m1, m2, m3, m4, m5⟩ := cells6 HK6.out.box
            have HK7 := Lib.hid (HK6.out.put HS6.out HOf.out.1 HOf.out.2.1 (hlie.elim (fun hl g' e => HOf.out.2.2 g' (hl.trans (by have e2 : g = g' := (by injection e with e); rw [e2]))) (fun hl g' e => by have e2 : g = g' := (by injection e with e); exact HOs.out g' (by omega))) HNr.out HSz.out)
            have HN7 := Lib.hid (show (∀ x ∈ xs ++ [s], x.size ≤ 100) from fun x hx => (List.mem_append.1 hx).elim (HN.out x) (fun h => by rw [List.mem_singleton.1 h]; exact hs))
            clear HK6 HS6 HX6
            go_wp2
            go_roundw
            case rel => exact ⟨r - 1, xs ++ [s], q' + 1, k', _, _, _, by go_num, by omega, by omega, by omega, HK7.out, HN7⟩
            case measure => simp [intOf]; omega
          · have ey' : (y == 0) = false := by simpa using ey
            go_wp2
            go_roundw
            case rel => exact ⟨r - 1, xs, q' + 1, k, _, _, _, by go_num, by omega, by omega, by omega, HK5.out, HN⟩
            case measure => simp [intOf]; omega
      · obtain rfl : r = 0 := by omega
        have HD := Lib.hid HK2.out.done
        go_wp2
        exact bodyPost_ret (v := .tuple #[.int .i64 id, u6]) (by simp [results, Tryz.results11, go_sem]) rfl ⟨_, _, xs, rfl, by omega, by omega, by omega, HN.out, HD.out⟩
end Go.Proofs.YtjmmojjjopjdpaaGreatDoor.kp

/-
  Plain: records done one behind the other. Nothing here speaks of a program.
-/
namespace Go.Proofs.YtjmmojjjopjdpaaGreatDoor.kp
open Go.Proofs.YtjmmojjjopjdpaaGreatDoor.nb Go.Proofs.YtjmmojjjopjdpaaGreatDoor.ok Go.Proofs.YtjmmojjjopjdpaaGreatDoor.dc

/-- each of the records can be done, one behind the other -/
def Runs : Kp → List (List UInt8) → Kp → Prop
  | k, [], k' => k' = k
  | k, l :: ls, k' => ∃ k1, Does k l k1 true ∧ Runs k1 ls k'
theorem runs_one {k : Kp} {ls : List (List UInt8)} {a b : Kp} (h1 : Runs k ls a) (h2 : Runs k ls b) : a = b := by
  induction ls generalizing k with
  | nil => exact h1.trans h2.symm
  | cons l ls ih =>
    obtain ⟨x, hx, h1⟩ := h1
    obtain ⟨y, hy, h2⟩ := h2
    obtain ⟨e, _⟩ := does_one hx hy
    subst e
    exact ih h1 h2
theorem runs_snoc {k k1 k2 : Kp} {ls : List (List UInt8)} {l : List UInt8} (h : Runs k ls k1) (hd : Does k1 l k2 true) : Runs k (ls ++ [l]) k2 := by
  induction ls generalizing k with
  | nil => cases h; exact ⟨_, hd, rfl⟩
  | cons a ls ih =>
    obtain ⟨x, hx, h⟩ := h
    exact ⟨x, hx, ih h⟩
theorem does_ok {k k' : Kp} {l : List UInt8} (h : Does k l k' true) : okK k' = true := by
  rcases h with ⟨_, _, _, _, _, h⟩ | ⟨h, _⟩
  · exact h
  · cases h
theorem runs_ok {k k' : Kp} {ls : List (List UInt8)} (hk : okK k = true) (h : Runs k ls k') : okK k' = true := by
  induction ls generalizing k with
  | nil => cases h; exact hk
  | cons a ls ih =>
    obtain ⟨x, hx, h⟩ := h
    exact ih (does_ok hx) h
/-- one of the records can't be done -/
def Stops (k : Kp) (ls : List (List UInt8)) : Prop := ∃ i l k1, ls[i]? = some l ∧ Runs k (ls.take i) k1 ∧ Does k1 l k1 false
theorem runs_take {k k' : Kp} {ls : List (List UInt8)} (h : Runs k ls k') (i : Nat) (l : List UInt8) (hi : ls[i]? = some l) : ∃ k1 k2, Runs k (ls.take i) k1 ∧ Does k1 l k2 true := by
  induction ls generalizing k i with
  | nil => simp at hi
  | cons a ls ih =>
    obtain ⟨x, hx, h⟩ := h
    cases i with
    | zero =>
      simp only [List.getElem?_cons_zero, Option.some.injEq] at hi
      subst hi
      exact ⟨k, x, rfl, hx⟩
    | succ i =>
      rw [List.getElem?_cons_succ] at hi
      obtain ⟨k1, k2, h1, h2⟩ := ih h i hi
      exact ⟨k1, k2, ⟨x, hx, h1⟩, h2⟩
theorem runs_stops {k k' : Kp} {ls : List (List UInt8)} (h : Runs k ls k') (hs : Stops k ls) : False := by
  obtain ⟨i, l, k1, hi, hr, hd⟩ := hs
  obtain ⟨k2, k3, h1, h2⟩ := runs_take h i l hi
  have := runs_one hr h1
  subst this
  cases (does_one hd h2).2
/-- what KeepOf is to answer -/
def OfK (id : Int) (ls : List (List UInt8)) (k' : Kp) (b : Bool) : Prop :=
  (inB id 0 3 = true ∧ b = true ∧ Runs (startK id) ls k') ∨ (b = false ∧ k' = zeroK ∧ (inB id 0 3 = false ∨ inB id 0 3 = true ∧ Stops (startK id) ls))
theorem ofK_one {id : Int} {ls : List (List UInt8)} {k1 k2 : Kp} {b1 b2 : Bool} (h1 : OfK id ls k1 b1) (h2 : OfK id ls k2 b2) : k1 = k2 ∧ b1 = b2 := by
  rcases h1 with ⟨hi, rfl, h1⟩ | ⟨rfl, rfl, h1⟩
  · rcases h2 with ⟨_, rfl, h2⟩ | ⟨rfl, rfl, h2 | ⟨_, h2⟩⟩
    · exact ⟨runs_one h1 h2, rfl⟩
    · rw [hi] at h2; cases h2
    · exact (runs_stops h1 h2).elim
  · rcases h2 with ⟨hi, rfl, h2⟩ | ⟨rfl, rfl, h2⟩
    · rcases h1 with h1 | ⟨_, h1⟩
      · rw [hi] at h1; cases h1
      · exact (runs_stops h2 h1).elim
    · exact ⟨rfl, rfl⟩
theorem take_snoc {α : Type} {ls : List α} {i : Nat} {l : α} (h : ls[i]? = some l) : ls.take (i + 1) = ls.take i ++ [l] := by
  rw [List.take_add_one, h]; rfl
end Go.Proofs.YtjmmojjjopjdpaaGreatDoor.kp

/-
  Words for the laws over what a keeper has: where the lists of a call's answer lie; lists beside others that are written over by marks.
-/
namespace Go.Proofs.YtjmmojjjopjdpaaGreatDoor.kp
open Go.ChangeShapes Go.WideShapes Go.ChangeAt Go.RowKit
open Go.Proofs.YtjmmojjjopjdpaaGreatDoor.wd Go.Proofs.YtjmmojjjopjdpaaGreatDoor.ow Go.Proofs.YtjmmojjjopjdpaaGreatDoor.rl Go.Proofs.YtjmmojjjopjdpaaGreatDoor.ok Go.Proofs.YtjmmojjjopjdpaaGreatDoor.nb

/-- the blocks of three lists lie from lo on, below hi -/
def Rg (a b c : Value) (lo hi : Nat) : Prop := ∀ g, a.ownBlock = some g ∨ b.ownBlock = some g ∨ c.ownBlock = some g → lo ≤ g ∧ g < hi
section
variable {B lo hi R : Nat} {w W W' : World} {k : Kp} {a b c a' b' c' : Value}
theorem OwnK.rg (h : OwnK w W k a b c) : Rg a b c w.heap.size W.heap.size := fun g hg => by
  rcases hg with hg | hg | hg
  · exact h.held.lt hg
  · exact h.marks.lt hg
  · exact h.inbox.lt hg
theorem Own3.keep (h : Own3 B W k a b c) (hs : ∀ g, a.ownBlock = some g ∨ b.ownBlock = some g ∨ c.ownBlock = some g → W'.heap[g]? = W.heap[g]?) : Own3 B W' k a b c :=
  ⟨h.held.same fun g hg => hs g (.inl hg), h.marks.same fun g hg => hs g (.inr (.inl hg)), h.inbox.same fun g hg => hs g (.inr (.inr hg)), h.hm, h.hi, h.mi⟩
theorem Own3.rg (h : Own3 B W k a b c) : Rg a b c B W.heap.size := fun g hg => by
  rcases hg with hg | hg | hg
  · exact h.held.lt hg
  · exact h.marks.lt hg
  · exact h.inbox.lt hg
/-- lists that lie elsewhere are not written over -/
theorem Own3.beside (h : Own3 B W k a b c) (hm : Marked W W' a' b' c') (hr : Rg a' b' c' lo hi) (hB : hi ≤ B) : Own3 B W' k a b c :=
  h.keep fun g hg => by
    obtain ⟨h1, h2⟩ := h.rg g hg
    exact hm.block g h2 (fun e => by have := (hr g (.inl e)).2; omega) (fun e => by have := (hr g (.inr (.inl e))).2; omega) (fun e => by have := (hr g (.inr (.inr e))).2; omega)
theorem Rg.off (h : Rg a b c lo hi) (hR : R < lo ∨ hi ≤ R) : Off R a b c :=
  ⟨fun e => by have := h R (.inl e); omega, fun e => by have := h R (.inr (.inl e)); omega, fun e => by have := h R (.inr (.inr e)); omega⟩
end
end Go.Proofs.YtjmmojjjopjdpaaGreatDoor.kp

