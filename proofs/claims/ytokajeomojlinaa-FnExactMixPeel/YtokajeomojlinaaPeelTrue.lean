/-
  Plain: what peeling a text's own encoded blocks gives, block by block.
-/
import Derived.Test.YtokajeomojlinaaDraw5
import Derived.Test.YtokajeomojlinaaPeelSpec2
import Derived.Test.YtokajeomojlinaaStrLists
namespace Go.Proofs.Ytokajeomojlinaa.ls
open Go.Proofs.Ytokajeomojlinaa.wd Go.Proofs.Ytokajeomojlinaa.cp Go.Proofs.Ytokajeomojlinaa.mp Go.Proofs.Ytokajeomojlinaa.pp Go.Proofs.Ytokajeomojlinaa.ow

theorem strs_at {n : Nat} (s : St) {i : Nat} (h : i < n) : (strs n s)[i]? = some (tx s i) := by simp [strs, h]
theorem tx_true {t : ByteArray} {l : List Mx} (h : TL t l) (i : Nat) : tx (fin (pcs (cutN t) l)) i = if (fin (pcs (cutN t) l)).K i then (qb t i).str else ⟨#[]⟩ := by
  unfold tx
  cases hK : (fin (pcs (cutN t) l)).K i with
  | false => rfl
  | true => rw [((Rt.fin (tl_pieces h)) i).1 hK]
theorem peel_true {t : ByteArray} (h0 : 1 ≤ t.size) (h1 : t.size ≤ 24) {l : List Mx} (h : TL t l) :
    peelL (cutN t) l = (List.range (cutN t)).map fun i => if (fin (pcs (cutN t) l)).K i then (qb t i).str else ⟨#[]⟩ := by
  have hN := cutN_in h0 h1
  rw [peelL_in (by omega) (cutN_le t)]
  unfold strs
  congr 1
  funext i
  exact tx_true h i
theorem peel_len {t : ByteArray} (h0 : 1 ≤ t.size) (h1 : t.size ≤ 24) (l : List Mx) : (peelL (cutN t) l).length = cutN t := by
  have hN := cutN_in h0 h1
  rw [peelL_in (by omega) (cutN_le t), strs_len]
theorem peel_short (b : Int) (l : List Mx) : (peelL b l).length ≤ 1000000 := by
  unfold peelL
  split
  · rw [strs_len]; omega
  · simp
theorem peel_at {t : ByteArray} (h0 : 1 ≤ t.size) (h1 : t.size ≤ 24) {l : List Mx} (h : TL t l) {i : Nat} (hi : i < cutN t) :
    (peelL (cutN t) l)[i]? = some (if (fin (pcs (cutN t) l)).K i then (qb t i).str else ⟨#[]⟩) := by
  rw [peel_true h0 h1 h]
  simp [hi]
theorem pcs_mem {b : Int} {l : List Mx} {p : Pc} (h : p ∈ pcs b l) : ∃ m ∈ l, okP b m = true ∧ p = pcOf b m := by
  obtain ⟨m, hm, rfl⟩ := List.mem_map.mp h
  exact ⟨m, (List.mem_filter.mp hm).1, (List.mem_filter.mp hm).2, rfl⟩
theorem pcs_sub {b : Int} {l l' : List Mx} (h : ∀ m ∈ l, m ∈ l') : ∀ p ∈ pcs b l, p ∈ pcs b l' := fun p hp => by
  obtain ⟨m, hm, ho, rfl⟩ := pcs_mem hp
  exact mem_pcs (h m hm) ho
/-- of more encoded blocks no less is known -/
theorem peel_more {t : ByteArray} {l l' : List Mx} (h : ∀ m ∈ l, m ∈ l') {i : Nat} (hK : (fin (pcs (cutN t) l)).K i = true) : (fin (pcs (cutN t) l')).K i = true := known_more (pcs_sub h) i hK
/-- in another order, and more than once: the same -/
theorem peel_same {t : ByteArray} (h0 : 1 ≤ t.size) (h1 : t.size ≤ 24) {l l' : List Mx} (h : TL t l) (hm : ∀ m, m ∈ l ↔ m ∈ l') : peelL (cutN t) l' = peelL (cutN t) l := by
  have h' : TL t l' := fun m hx => h m ((hm m).mpr hx)
  rw [peel_true h0 h1 h, peel_true h0 h1 h']
  apply List.map_congr_left
  intro i _
  rw [known_same (ps := pcs (cutN t) l) (qs := pcs (cutN t) l') (fun p => ⟨pcs_sub (fun m hx => (hm m).mp hx) p, pcs_sub (fun m hx => (hm m).mpr hx) p⟩) i]
end Go.Proofs.Ytokajeomojlinaa.ls
