/-
  append(list, list...) of lists of texts: as a law for the walk, whether the second list is nil or not.
-/
import Derived.Test.YtapkfajgphkajaaGreatDoorStrLists
import Derived.Laws.AppendOwnNone
import Derived.BigFrame
import Derived.Deep.AppendLies
namespace Go.Proofs.YtapkfajgphkajaaGreatDoor.sl
open Go.ChangeShapes Go.WideShapes Go.ChangeAt Go.RowKit
open Go.Proofs.YtapkfajgphkajaaGreatDoor.wd Go.Proofs.YtapkfajgphkajaaGreatDoor.cp Go.Proofs.YtapkfajgphkajaaGreatDoor.ow

/-- a slice of texts, or nil -/
def PartS (w : World) (A : Option Addr) (c : Nat) (l : List Value) : Prop :=
  (A = none ∧ c = 0 ∧ l = []) ∨ ∃ g, A = some ⟨g, 0, none⟩ ∧ ∀ j u, l[j]? = some u → w.cell? ⟨g, j, none⟩ = some u

theorem wp_append_strs {w : World} {o : Oper} {a : Act} {K : Act → World → Prop} {Q : Exit → Act → World → Prop} (s x : Operand) (t : TypeId)
    (ho : o.op = .call { callee := .builtin .append, args := #[s, x], argTypes := #[t, t] })
    (base : Nat) (e : TypeId) (i : TypeInfo) (z : Value) (bytes : Nat) (ht : Tryz.prog.underlying t = some (.slice e)) (hi : Tryz.prog.info? e = some i) (hz : i.zero = some z)
    (hsize : i.size = 1) (hby : i.bytes = bytes) (hzs : z.cells.size = 1)
    (v : Value) (n : Nat) (xs : List Value) (hs : a.eval s = v) (hown : w.ownsRow base e 1 v n xs)
    (A : Option Addr) (m c : Nat) (l : List Value) (hx : a.eval x = .slice A m c) (hm : m = l.length) (hP : PartS w A c l) (h1 : ∀ u ∈ l, u.oneCell' = true)
    (h63 : n + l.length ≤ maxLen) (hbytes : (n + l.length) * bytes ≤ 140737488355328) (hbase : base ≤ w.heap.size)
    (h : ∀ v' w', w'.ownsRow base e 1 v' (n + l.length) (xs ++ l) → w.grownBy w' v.ownBlock → K (a.put o.dst v') w') : o.wp Tryz.prog a w K Q := by
  subst hm
  rcases hP with ⟨rfl, rfl, rfl⟩ | ⟨g, rfl, hc⟩
  · have hrun := run_append_owned_none (P := Tryz.prog) (w := w) base t o.type e i 1 ht hi v n xs hown
    have hk := h v w (by simpa using hown) ⟨rfl, rfl, rfl, Nat.le_refl _, fun _ _ _ => rfl⟩
    unfold Oper.wp
    simp at hx
    simp [execOp, ho, resolve, invoke, builtin, hs, hx, hrun, Result.andThen]
    exact hk
  · exact wp_append_own w s x t ho base e i z 1 bytes ht hi hz hsize hby hzs (by decide) v n xs hs hown ⟨g, 0, none⟩ l.length c l hx (by omega) (fun j u hu => by
      have hadd : (⟨g, 0, none⟩ : Addr).add j = ⟨g, j, none⟩ := by unfold Addr.add; split <;> simp_all
      rw [hadd]; exact hc j u hu) h1 h63 hbytes hbase (fun v' w' h1 h2 _ => h v' w' h1 h2)

theorem wpList_append_strs {w : World} {ops : Array Oper} {rest : List Oper} {o : Oper} {a : Act} {Q : Exit → Act → World → Prop} (hw : Region.wanted o (yielded ops a.tmps) = true) (s x : Operand) (t : TypeId)
    (ho : o.op = .call { callee := .builtin .append, args := #[s, x], argTypes := #[t, t] })
    (base : Nat) (e : TypeId) (i : TypeInfo) (z : Value) (bytes : Nat) (ht : Tryz.prog.underlying t = some (.slice e)) (hi : Tryz.prog.info? e = some i) (hz : i.zero = some z)
    (hsize : i.size = 1) (hby : i.bytes = bytes) (hzs : z.cells.size = 1)
    (v : Value) (n : Nat) (xs : List Value) (hs : a.eval s = v) (hown : w.ownsRow base e 1 v n xs)
    (A : Option Addr) (m c : Nat) (l : List Value) (hx : a.eval x = .slice A m c) (hm : m = l.length) (hP : PartS w A c l) (h1 : ∀ u ∈ l, u.oneCell' = true)
    (h63 : n + l.length ≤ maxLen) (hbytes : (n + l.length) * bytes ≤ 140737488355328) (hbase : base ≤ w.heap.size)
    (h : ∀ v' w', w'.ownsRow base e 1 v' (n + l.length) (xs ++ l) → w.grownBy w' v.ownBlock → wpList Tryz.prog ops Q rest (a.put o.dst v') w') : wpList Tryz.prog ops Q (o :: rest) a w := by
  unfold wpList
  rw [if_pos hw]
  exact .inl (wp_append_strs s x t ho base e i z bytes ht hi hz hsize hby hzs v n xs hs hown A m c l hx hm hP h1 h63 hbytes hbase h)

theorem part_of_own {w0 w : World} {A : Option Addr} {m c : Nat} {l : List Value} (h : Own 9 w0 w (.slice A m c) l) : PartS w A c l := by
  rcases h.1.2 with ⟨e, hn⟩ | ⟨g, cap, cur, e, _⟩
  · injection e with e1 e2 e3
    exact .inl ⟨e1, e3, List.eq_nil_of_length_eq_zero hn⟩
  · injection e with e1 e2 e3
    subst e1; subst e2; subst e3
    refine .inr ⟨g, rfl, fun j u hu => ?_⟩
    have hj := (List.getElem?_eq_some_iff.mp hu).1
    rw [World.ownsRow.cellAt (g := g) (cap := _) h.1 j (by omega)]
    exact hu
/-- a list of the call's own lies on through an append to another one -/
theorem Own.far {w0 w w1 w2 : World} {v u : Value} {l : List Value} (h : Own 9 w0 w v l) (hb : Below w.heap.size w w1) (hg : w1.grownBy w2 u.ownBlock) (hu : ∀ k, u.ownBlock = some k → w.heap.size ≤ k) : Own 9 w0 w2 v l := by
  refine ⟨(h.later hb).1.kept hg ?_, (h.later hb).2.trans ⟨hg.os, hg.tape, hg.output, hg.size, fun k hk => hg.block k (by have := h.2.size; have := hb.size; omega) (fun e => by have := hu k e.symm; have := h.2.size; omega)⟩⟩
  cases hv : v.ownBlock with
  | none => exact .inl rfl
  | some k =>
    refine .inr (fun e => ?_)
    have h1 := (h.lt hv).2
    have h2 := hu k e.symm
    omega
theorem own_grow {w0 w w1 : World} {v v1 : Value} {xs ys : List Value} {n : Nat} (h : Own 9 w0 w v xs) (h1 : w1.ownsRow w0.heap.size 9 1 v1 n ys) (hg : w.grownBy w1 v.ownBlock) : Own 9 w0 w1 v1 ys := by
  obtain rfl : n = ys.length := by have := h1.1; omega
  exact ⟨h1, h.2.trans ⟨hg.os, hg.tape, hg.output, hg.size, fun k hk => hg.block k (Nat.lt_of_lt_of_le hk h.2.size) (fun e => by have := (h.lt e.symm).1; omega)⟩⟩
theorem str_ones (l : List ByteArray) : ∀ u ∈ l.map Value.string, u.oneCell' = true := fun u hu => by
  obtain ⟨x, _, rfl⟩ := List.mem_map.1 hu
  rfl
end Go.Proofs.YtapkfajgphkajaaGreatDoor.sl
