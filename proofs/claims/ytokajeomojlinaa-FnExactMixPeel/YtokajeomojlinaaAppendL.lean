/-
  append(list, list...) of lists of encoded blocks: as a law for the walk, guarded or not, whether the second list is nil or not.
-/
import Derived.Test.YtokajeomojlinaaPeelTrue2
import Derived.Laws.AppendOwnNone
import Derived.BigFrame
import Derived.Deep.AppendLies
namespace Go.Proofs.Ytokajeomojlinaa.ls
open Go.ChangeShapes Go.WideShapes Go.ChangeAt Go.RowKit
open Go.Proofs.Ytokajeomojlinaa.wd Go.Proofs.Ytokajeomojlinaa.cp Go.Proofs.Ytokajeomojlinaa.mp Go.Proofs.Ytokajeomojlinaa.pp Go.Proofs.Ytokajeomojlinaa.ow

/-- a slice of encoded blocks from a place of its block on, or nil -/
def Part (w : World) (A : Option Addr) (c : Nat) (l : List Mx) : Prop :=
  (A = none ∧ c = 0 ∧ l = []) ∨ ∃ g o, A = some ⟨g, o, none⟩ ∧ ∀ j u, (l.flatMap mc)[j]? = some u → w.cell? ⟨g, o + j, none⟩ = some u

theorem mc_ones (l : List Mx) : ∀ u ∈ l.flatMap mc, u.oneCell' = true := fun u hu => by
  obtain ⟨m, _, hm⟩ := List.mem_flatMap.mp hu
  exact mc_one m u hm

theorem wp_append_mixed {w : World} {o : Oper} {a : Act} {K : Act → World → Prop} {Q : Exit → Act → World → Prop} (s x : Operand) (t : TypeId)
    (ho : o.op = .call { callee := .builtin .append, args := #[s, x], argTypes := #[t, t] })
    (base : Nat) (e : TypeId) (i : TypeInfo) (z : Value) (bytes : Nat) (ht : Try.prog.underlying t = some (.slice e)) (hi : Try.prog.info? e = some i) (hz : i.zero = some z)
    (hsize : i.size = 2) (hby : i.bytes = bytes) (hzs : z.cells.size = 2)
    (v : Value) (n : Nat) (xs : List Value) (hs : a.eval s = v) (hown : w.ownsRow base e 2 v n xs)
    (A : Option Addr) (m c : Nat) (l : List Mx) (hx : a.eval x = .slice A m c) (hm : m = l.length) (hP : Part w A c l)
    (h63 : n + l.length ≤ maxLen) (hbytes : (n + l.length) * bytes ≤ 140737488355328) (hbase : base ≤ w.heap.size)
    (h : ∀ v' w', w'.ownsRow base e 2 v' (n + l.length) (xs ++ l.flatMap mc) → w.grownBy w' v.ownBlock → K (a.put o.dst v') w') : o.wp Try.prog a w K Q := by
  subst hm
  rcases hP with ⟨rfl, rfl, rfl⟩ | ⟨g, off, rfl, hc⟩
  · have hrun := run_append_owned_none (P := Try.prog) (w := w) base t o.type e i 2 ht hi v n xs hown
    have hk := h v w (by simpa using hown) ⟨rfl, rfl, rfl, Nat.le_refl _, fun _ _ _ => rfl⟩
    unfold Oper.wp
    simp at hx
    simp [execOp, ho, resolve, invoke, builtin, hs, hx, hrun, Result.andThen]
    exact hk
  · exact wp_append_own w s x t ho base e i z 2 bytes ht hi hz hsize hby hzs (by decide) v n xs hs hown ⟨g, off, none⟩ l.length c (l.flatMap mc) hx (by rw [flat_len mc_len]) (fun j u hu => by
      have hadd : (⟨g, off, none⟩ : Addr).add j = ⟨g, off + j, none⟩ := by unfold Addr.add; split <;> simp_all
      rw [hadd]; exact hc j u hu) (mc_ones l) h63 hbytes hbase (fun v' w' h1 h2 _ => h v' w' h1 h2)

theorem wpList_append_mixed {w : World} {ops : Array Oper} {rest : List Oper} {o : Oper} {a : Act} {Q : Exit → Act → World → Prop} (hw : Region.wanted o (yielded ops a.tmps) = true) (s x : Operand) (t : TypeId)
    (ho : o.op = .call { callee := .builtin .append, args := #[s, x], argTypes := #[t, t] })
    (base : Nat) (e : TypeId) (i : TypeInfo) (z : Value) (bytes : Nat) (ht : Try.prog.underlying t = some (.slice e)) (hi : Try.prog.info? e = some i) (hz : i.zero = some z)
    (hsize : i.size = 2) (hby : i.bytes = bytes) (hzs : z.cells.size = 2)
    (v : Value) (n : Nat) (xs : List Value) (hs : a.eval s = v) (hown : w.ownsRow base e 2 v n xs)
    (A : Option Addr) (m c : Nat) (l : List Mx) (hx : a.eval x = .slice A m c) (hm : m = l.length) (hP : Part w A c l)
    (h63 : n + l.length ≤ maxLen) (hbytes : (n + l.length) * bytes ≤ 140737488355328) (hbase : base ≤ w.heap.size)
    (h : ∀ v' w', w'.ownsRow base e 2 v' (n + l.length) (xs ++ l.flatMap mc) → w.grownBy w' v.ownBlock → wpList Try.prog ops Q rest (a.put o.dst v') w') : wpList Try.prog ops Q (o :: rest) a w := by
  unfold wpList
  rw [if_pos hw]
  exact .inl (wp_append_mixed s x t ho base e i z bytes ht hi hz hsize hby hzs v n xs hs hown A m c l hx hm hP h63 hbytes hbase h)

theorem OwnZ.part {w0 w : World} {A : Option Addr} {m c : Nat} {l : List Mx} (h : OwnZ 40 2 w0 w (.slice A m c) l.length (l.flatMap mc)) : Part w A c l := by
  rcases h.1.2 with ⟨e, hn⟩ | ⟨g, cap, cur, e, _⟩
  · injection e with e1 e2 e3
    exact .inl ⟨e1, e3, List.eq_nil_of_length_eq_zero hn⟩
  · injection e with e1 e2 e3
    subst e1; subst e2; subst e3
    refine .inr ⟨g, 0, rfl, fun j u hu => ?_⟩
    have hj := (List.getElem?_eq_some_iff.mp hu).1
    rw [flat_len mc_len] at hj
    rw [Nat.zero_add, World.ownsRow.cellAt (g := g) (cap := _) h.1 j (by omega)]
    exact hu
theorem Part.later {w w' : World} {B : Nat} {A : Option Addr} {c : Nat} {l : List Mx} (h : Part w A c l) (hB : Below B w w') (hA : ∀ g o, A = some ⟨g, o, none⟩ → l ≠ [] → g < B) : Part w' A c l := by
  rcases h with h | ⟨g, o, rfl, hc⟩
  · exact .inl h
  · refine .inr ⟨g, o, rfl, fun j u hu => ?_⟩
    have hl : l ≠ [] := fun e => by rw [e] at hu; simp at hu
    exact (hB.cell (p := ⟨g, o + j, none⟩) (hA g o rfl hl)).trans (hc j u hu)
theorem OwnZ.grow {t : TypeId} {sz : Nat} {w0 w w1 : World} {v v1 : Value} {n m : Nat} {xs ys : List Value} (h : OwnZ t sz w0 w v n xs) (h1 : w1.ownsRow w0.heap.size t sz v1 m ys) (hg : w.grownBy w1 v.ownBlock) : OwnZ t sz w0 w1 v1 m ys :=
  ⟨h1, h.2.trans ⟨hg.os, hg.tape, hg.output, hg.size, fun k hk => hg.block k (Nat.lt_of_lt_of_le hk h.2.size) (fun e => by have := (h.1.lt k e.symm).1; omega)⟩⟩
theorem sees_grown {w w' : World} {v : Value} {l : List ByteArray} {row : Option Nat} (h : sl.SeesS w v l) (hg : w.grownBy w' row) (hn : ∀ g n c, v = .slice (some ⟨g, 0, none⟩) n c → some g ≠ row) : sl.SeesS w' v l := by
  obtain ⟨A, c, rfl, hc⟩ := h
  refine ⟨A, c, rfl, fun hl => ?_⟩
  obtain ⟨g, rfl, hlt, hcell⟩ := hc hl
  exact ⟨g, rfl, Nat.lt_of_lt_of_le hlt hg.size, fun i x hx => (hg.cell_far ⟨g, i, none⟩ hlt (hn g _ c rfl)).trans (hcell i x hx)⟩
end Go.Proofs.Ytokajeomojlinaa.ls
