/-
  Plain: the encoded blocks that are a text's blocks alone, all of them and all but one.
-/
import Derived.Test.YtokajeomojlinaaAppendL
namespace Go.Proofs.Ytokajeomojlinaa.ls
open Go.Proofs.Ytokajeomojlinaa.wd Go.Proofs.Ytokajeomojlinaa.cp Go.Proofs.Ytokajeomojlinaa.mp Go.Proofs.Ytokajeomojlinaa.pp Go.Proofs.Ytokajeomojlinaa.ow

def al (t : ByteArray) (k : Nat) : List Mx := (List.range k).map fun (i : Nat) => ((i : Int), mk t (i : Int))
theorem al_on (t : ByteArray) (k : Nat) : al t (k + 1) = al t k ++ [((k : Int), mk t k)] := by simp [al, List.range_succ]
theorem al_len (t : ByteArray) (k : Nat) : (al t k).length = k := by simp [al]
theorem al_mem {t : ByteArray} {k : Nat} {m : Mx} (h : m ∈ al t k) : ∃ i : Nat, i < k ∧ m = ((i : Int), mk t i) := by
  obtain ⟨i, hi, rfl⟩ := List.mem_map.mp h
  exact ⟨i, List.mem_range.mp hi, rfl⟩
theorem al_TL (t : ByteArray) (k : Nat) : TL t (al t k) := fun m hm => by
  obtain ⟨i, _, rfl⟩ := al_mem hm
  rfl
theorem al_known {t : ByteArray} : allK (fin (pcs (cutN t) (al t (cutN t)))) (cutN t) = true :=
  decide_eq_true fun i hi => first_known hi (List.mem_map.mpr ⟨i, List.mem_range.mpr hi, rfl⟩)
theorem al_less {t : ByteArray} {g : Nat} (hg : g < cutN t) : ∀ m ∈ (al t (cutN t)).take g ++ (al t (cutN t)).drop (g + 1), ∃ i : Nat, i < cutN t ∧ i ≠ g ∧ m = ((i : Int), mk t i) := fun m hm => by
  rcases List.mem_append.mp hm with h | h
  · obtain ⟨j, hj, rfl⟩ := List.mem_iff_getElem.mp h
    rw [List.length_take, al_len] at hj
    refine ⟨j, by omega, by omega, ?_⟩
    rw [List.getElem_take]
    simp [al]
  · obtain ⟨j, hj, rfl⟩ := List.mem_iff_getElem.mp h
    rw [List.length_drop, al_len] at hj
    refine ⟨g + 1 + j, by omega, by omega, ?_⟩
    rw [List.getElem_drop]
    simp [al]
theorem al_part_TL {t : ByteArray} {k g : Nat} : TL t ((al t k).take g ++ (al t k).drop (g + 1)) := fun m hm => by
  rcases List.mem_append.mp hm with h | h
  · exact al_TL t k m (List.mem_of_mem_take h)
  · exact al_TL t k m (List.mem_of_mem_drop h)
theorem flat_take (L : List Mx) (g : Nat) : ∀ (j : Nat) (u : Value), ((L.take g).flatMap mc)[j]? = some u → (L.flatMap mc)[j]? = some u := fun j u h => by
  have e : L.flatMap mc = (L.take g).flatMap mc ++ (L.drop g).flatMap mc := by rw [← List.flatMap_append, List.take_append_drop]
  rw [e, List.getElem?_append_left (List.getElem?_eq_some_iff.mp h).1]
  exact h
theorem flat_drop (L : List Mx) {g : Nat} (hg : g ≤ L.length) : ∀ (j : Nat) (u : Value), ((L.drop g).flatMap mc)[j]? = some u → (L.flatMap mc)[g * 2 + j]? = some u := fun j u h => by
  have e : L.flatMap mc = (L.take g).flatMap mc ++ (L.drop g).flatMap mc := by rw [← List.flatMap_append, List.take_append_drop]
  have hl : ((L.take g).flatMap mc).length = g * 2 := by rw [flat_len mc_len, List.length_take]; congr 1; omega
  rw [e, List.getElem?_append_right (by omega), hl, Nat.add_sub_cancel_left]
  exact h
theorem step_append_mixed {w : World} {ops : Array Oper} {o : Oper} {a : Act} {K : Act → World → Prop} {Q : Exit → Act → World → Prop} {E : Prop} (hgd : o.guard = none) (s x : Operand) (t : TypeId)
    (ho : o.op = .call { callee := .builtin .append, args := #[s, x], argTypes := #[t, t] })
    (base : Nat) (e : TypeId) (i : TypeInfo) (z : Value) (bytes : Nat) (ht : Try.prog.underlying t = some (.slice e)) (hi : Try.prog.info? e = some i) (hz : i.zero = some z)
    (hsize : i.size = 2) (hby : i.bytes = bytes) (hzs : z.cells.size = 2)
    (v : Value) (n : Nat) (xs : List Value) (hs : a.eval s = v) (hown : w.ownsRow base e 2 v n xs)
    (A : Option Addr) (m c : Nat) (l : List Mx) (hx : a.eval x = .slice A m c) (hm : m = l.length) (hP : Part w A c l)
    (h63 : n + l.length ≤ maxLen) (hbytes : (n + l.length) * bytes ≤ 140737488355328) (hbase : base ≤ w.heap.size)
    (h : ∀ v' w', w'.ownsRow base e 2 v' (n + l.length) (xs ++ l.flatMap mc) → w.grownBy w' v.ownBlock → K (a.put o.dst v') w') :
    if Region.wanted o (yielded ops a.tmps) = true then Oper.wp Try.prog o a w K Q else E := by
  have hw : Region.wanted o (yielded ops a.tmps) = true := by simp [Region.wanted, hgd]
  rw [if_pos hw]
  exact wp_append_mixed s x t ho base e i z bytes ht hi hz hsize hby hzs v n xs hs hown A m c l hx hm hP h63 hbytes hbase h
theorem part_take {w W : World} {b c : Nat} {L : List Mx} (hb : b < w.heap.size) (hc : ∀ i x, (L.flatMap mc)[i]? = some x → w.cell? ⟨b, i, none⟩ = some x) (hB : Go.RowKit.Below w.heap.size w W) (g : Nat) : Part W (some ⟨b, 0, none⟩) c (L.take g) :=
  .inr ⟨b, 0, rfl, fun j u hu => by rw [Nat.zero_add]; exact (hB.cell (p := ⟨b, j, none⟩) hb).trans (hc j u (flat_take L g j u hu))⟩
theorem part_drop {w W : World} {b c : Nat} {L : List Mx} (hb : b < w.heap.size) (hc : ∀ i x, (L.flatMap mc)[i]? = some x → w.cell? ⟨b, i, none⟩ = some x) (hB : Go.RowKit.Below w.heap.size w W) {g : Nat} (hg : g ≤ L.length) : Part W (some ⟨b, g * 2, none⟩) c (L.drop g) :=
  .inr ⟨b, g * 2, rfl, fun j u hu => (hB.cell (p := ⟨b, g * 2 + j, none⟩) hb).trans (hc _ u (flat_drop L hg j u hu))⟩
theorem part_none {w : World} (b : Nat) {o c : Nat} {l : List Mx} (h : l = []) : Part w (some ⟨b, o, none⟩) c l := .inr ⟨b, o, rfl, fun j u hu => by rw [h] at hu; simp at hu⟩
end Go.Proofs.Ytokajeomojlinaa.ls
