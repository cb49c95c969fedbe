/-
  Plain mathematics of chapter 2: the first encoded blocks of a text, one of them missing. And the words for lists of encoded blocks in memory.
-/
import Derived.Test.YtokajeomojlinaaTruePlain
namespace Go.Proofs.Ytokajeomojlinaa.ls
open Go.ChangeShapes Go.WideShapes Go.ChangeAt Go.RowKit
open Go.Proofs.Ytokajeomojlinaa.wd Go.Proofs.Ytokajeomojlinaa.cp Go.Proofs.Ytokajeomojlinaa.mp Go.Proofs.Ytokajeomojlinaa.pp Go.Proofs.Ytokajeomojlinaa.ow Go.Proofs.Ytokajeomojlinaa.pe

theorem mk_first {t : ByteArray} {i : Nat} (hi : i < cutN t) : mk t i = (qb t i).str := by
  have hm : mo (cutN t : Int) (i : Int) = [(i : Int)] := mo_first (cutN_le t) hi
  rw [mk_yes (by rw [hm]; simp), hm]
  show ((qb t (i : Int).toNat).xor Q.zero).str = _
  rw [Q.xor_zero, Int.toNat_natCast]
theorem ok_first {t : ByteArray} {i : Nat} (hi : i < cutN t) : okP (cutN t) ((i : Int), mk t i) = true := by
  have h6 := cutN_le t
  unfold okP
  rw [mk_first hi, okM_t (by omega) (by omega) (by omega) (by omega)]
  rfl
theorem mem_pcs {b : Int} {l : List Mx} {m : Mx} (h : m ∈ l) (ho : okP b m = true) : pcOf b m ∈ pcs b l := List.mem_map.mpr ⟨m, List.mem_filter.mpr ⟨h, ho⟩, rfl⟩
/-- an encoded block of block i alone makes it known -/
theorem first_known {t : ByteArray} {l : List Mx} {i : Nat} (hi : i < cutN t) (h : ((i : Int), mk t i) ∈ l) : (fin (pcs (cutN t) l)).K i = true := by
  cases hK : (fin (pcs (cutN t) l)).K i with
  | true => rfl
  | false =>
    refine absurd ?_ ((fin_spec (pcs (cutN t) l)).2 _ (mem_pcs h (ok_first hi)) i)
    have hm : mo (cutN t : Int) (i : Int) = [(i : Int)] := mo_first (cutN_le t) hi
    have h6 := cutN_le t
    have hS : ∀ j, (pcOf (cutN t) ((i : Int), mk t i)).S j = decide (j = i) := fun j => by
      show inL (mo (cutN t : Int) (i : Int)) j = _
      rw [hm]
      unfold inL
      rw [decide_eq_decide]
      simp
      omega
    refine ⟨by omega, lk_t.mpr ⟨by rw [hS]; simp, hK⟩, fun j _ hl => ?_⟩
    have := (lk_t.mp hl).1
    rw [hS] at this
    exact of_decide_eq_true this
/-- one encoded block that combines the missing one completes the rest -/
theorem one_known {t : ByteArray} {l : List Mx} {num : Int} {g : Nat} (hg : (g : Int) ∈ mo (cutN t) num) (hn : (num, mk t num) ∈ l) (h : ∀ i, i < cutN t → i ≠ g → ((i : Int), mk t i) ∈ l) : allK (fin (pcs (cutN t) l)) (cutN t) = true := by
  have hne : mo (cutN t : Int) num ≠ [] := fun e => by rw [e] at hg; cases hg
  have h6 := cutN_le t
  have hlt := fun x hx => asc_lt' (mo_asc (cutN t : Int) num) x hx
  refine decide_eq_true fun i hi => ?_
  by_cases e : i = g
  · subst e
    cases hK : (fin (pcs (cutN t) l)).K i with
    | true => rfl
    | false =>
      have hok : okP (cutN t) (num, mk t num) = true := by
        have : okM (cutN t) num = true := by
          cases ho : okM (cutN t) num with
          | true => rfl
          | false => exact absurd (mo_no ho) hne
        unfold okP
        rw [this, mk_yes hne]
        rfl
      refine absurd ?_ ((fin_spec (pcs (cutN t) l)).2 _ (mem_pcs hn hok) i)
      refine ⟨by omega, lk_t.mpr ⟨decide_eq_true hg, hK⟩, fun j _ hl => ?_⟩
      obtain ⟨k1, k2⟩ := lk_t.mp hl
      have hjm : (j : Int) ∈ mo (cutN t : Int) num := of_decide_eq_true k1
      have hjn : j < cutN t := by have := hlt _ hjm; omega
      by_cases e : j = i
      · exact e
      · rw [first_known hjn (h j hjn e)] at k2; cases k2
  · exact first_known hi (h i hi e)
/-- without one of them they are not enough -/
theorem less_known {t : ByteArray} {l : List Mx} {g : Nat} (hgn : g < cutN t) (h : ∀ m ∈ l, ∃ i : Nat, i < cutN t ∧ i ≠ g ∧ m = ((i : Int), mk t i)) : allK (fin (pcs (cutN t) l)) (cutN t) = false := by
  refine decide_eq_false fun hh => ?_
  have hk := known_in (ps := pcs (cutN t) l) (C := fun j => decide (j ≠ g)) (fun p hp b ho => ?_) g (hh g hgn)
  · simp at hk
  · unfold pcs at hp
    obtain ⟨m, hm, rfl⟩ := List.mem_map.mp hp
    obtain ⟨i, hi, hig, rfl⟩ := h m (List.mem_filter.mp hm).1
    have hmo : mo (cutN t : Int) (i : Int) = [(i : Int)] := mo_first (cutN_le t) hi
    obtain ⟨k1, k2⟩ := lk_t.mp ho.2.1
    have : inL (mo (cutN t : Int) (i : Int)) b = true := k1
    rw [hmo] at this
    have hb' : (b : Int) = (i : Int) := by simpa [inL] using this
    have hb : b = i := by omega
    subst hb
    simp [hig] at k2

theorem infoMixed : (Try.prog.info? 40).map (fun i => (i.zero, i.size, i.bytes)) = some (some (.agg #[.int .i64 0, .string ⟨#[]⟩]), 2, 24) := by kernel_rfl
theorem mc_one (m : Mx) : ∀ u ∈ mc m, u.oneCell' = true := by
  intro u hu
  simp only [mc, List.mem_cons, List.not_mem_nil, or_false] at hu
  rcases hu with rfl | rfl <;> rfl
/-- the encoded blocks 0 to k-1 but one -/
def fl (t : ByteArray) (g k : Nat) : List Mx := ((List.range k).filter fun i => decide (i ≠ g)).map fun (i : Nat) => ((i : Int), mk t (i : Int))
theorem fl_t {t : ByteArray} {g k : Nat} (h : k ≠ g) : fl t g (k + 1) = fl t g k ++ [((k : Int), mk t k)] := by simp [fl, List.range_succ, h]
theorem fl_f {t : ByteArray} {g k : Nat} (h : k = g) : fl t g (k + 1) = fl t g k := by simp [fl, List.range_succ, h]
theorem fl_len (t : ByteArray) (g k : Nat) : (fl t g k).length ≤ k := by
  unfold fl
  rw [List.length_map]
  exact Nat.le_trans (List.length_filter_le _ _) (by simp)
theorem fl_mem {t : ByteArray} {g k i : Nat} (hi : i < k) (hg : i ≠ g) : ((i : Int), mk t i) ∈ fl t g k := List.mem_map.mpr ⟨i, List.mem_filter.mpr ⟨List.mem_range.mpr hi, by simp [hg]⟩, rfl⟩
theorem fl_of {t : ByteArray} {g k : Nat} {m : Mx} (h : m ∈ fl t g k) : ∃ i : Nat, i < k ∧ i ≠ g ∧ m = ((i : Int), mk t i) := by
  obtain ⟨i, hi, rfl⟩ := List.mem_map.mp h
  obtain ⟨h1, h2⟩ := List.mem_filter.mp hi
  exact ⟨i, List.mem_range.mp h1, by simpa using h2, rfl⟩
theorem fl_TL (t : ByteArray) (g k : Nat) : TL t (fl t g k) := fun m hm => by
  obtain ⟨i, _, _, rfl⟩ := fl_of hm
  rfl
end Go.Proofs.Ytokajeomojlinaa.ls
