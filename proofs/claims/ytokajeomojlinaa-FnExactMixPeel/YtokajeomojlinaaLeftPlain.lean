/-
  Plain mathematics of chapter 2: what is left of an encoded block, list by list. Nothing here speaks of a program.
-/
import Derived.Test.YtokajeomojlinaaPeelImpl
import Derived.Test.YtokajeomojlinaaUnlikePlain
namespace Go.Proofs.Ytokajeomojlinaa.ls
open Go.Proofs.Ytokajeomojlinaa.cp Go.Proofs.Ytokajeomojlinaa.mp Go.Proofs.Ytokajeomojlinaa.pp Go.Proofs.Ytokajeomojlinaa.pe

/-- the sum of the blocks that a list names -/
def xL (D : Nat → Q) : List Int → Q
  | [] => Q.zero
  | i :: l => (D i.toNat).xor (xL D l)
theorem xL_append (D : Nat → Q) (l m : List Int) : xL D (l ++ m) = (xL D l).xor (xL D m) := by
  induction l with
  | nil => rw [List.nil_append]; show _ = Q.zero.xor _; rw [Q.zero_xor]
  | cons i l ih => show (D i.toNat).xor (xL D (l ++ m)) = ((D i.toNat).xor (xL D l)).xor (xL D m); rw [ih, Q.xor_assoc]
theorem xL_on (D : Nat → Q) {l : List Int} {k : Nat} (h : k < l.length) : xL D (l.take (k + 1)) = (xL D (l.take k)).xor (D (l.getD k 0).toNat) := by
  rw [take_on h, xL_append]
  show _ = _
  congr 1
  show (D (l.getD k 0).toNat).xor Q.zero = _
  rw [Q.xor_zero]
theorem sm_congr {S T : Nat → Bool} {D : Nat → Q} {n : Nat} (h : ∀ i, i < n → S i = T i) : sm S D n = sm T D n := by
  induction n with
  | zero => rfl
  | succ n ih => simp only [sm]; rw [ih (fun i hi => h i (by omega)), h n (by omega)]
theorem sm_upd {S : Nat → Bool} {D : Nat → Q} {b n : Nat} (hb : b < n) (hS : S b = false) : sm (upd S b) D n = (D b).xor (sm S D n) := by
  induction n with
  | zero => omega
  | succ n ih =>
    simp only [sm]
    by_cases e : b = n
    · subst e
      rw [sm_congr (T := S) (fun i hi => by unfold upd; rw [if_neg (by omega)])]
      simp [upd, hS, Q.xor_zero]
      exact Q.xor_comm _ _
    · rw [ih (by omega)]
      have : upd S b n = S n := by unfold upd; rw [if_neg (by omega)]
      rw [this, Q.xor_assoc]
theorem inL_cons {x : Int} (hx : 0 ≤ x) (l : List Int) (i : Nat) : inL (x :: l) i = upd (inL l) x.toNat i := by
  unfold inL upd
  by_cases e : i = x.toNat
  · rw [if_pos e]; subst e
    have : ((x.toNat : Nat) : Int) = x := Int.toNat_of_nonneg hx
    simp [this]
  · rw [if_neg e]
    have : ¬ ((i : Int) = x) := by omega
    simp [this]
theorem xL_sm (D : Nat → Q) {l : List Int} (h0 : ∀ x ∈ l, 0 ≤ x) (h1 : ∀ x ∈ l, x < 6) (hd : l.Nodup) : xL D l = sm (inL l) D 6 := by
  induction l with
  | nil =>
    have : ∀ n, sm (inL []) D n = Q.zero := fun n => by
      induction n with
      | zero => rfl
      | succ n ih => simp only [sm]; rw [ih]; simp [inL, Q.xor_zero]
    exact (this 6).symm
  | cons x l ih =>
    obtain ⟨hxl, hd'⟩ := List.nodup_cons.mp hd
    have hx0 := h0 x List.mem_cons_self
    have hx1 := h1 x List.mem_cons_self
    show (D x.toNat).xor (xL D l) = _
    rw [ih (fun y hy => h0 y (List.mem_cons_of_mem _ hy)) (fun y hy => h1 y (List.mem_cons_of_mem _ hy)) hd', sm_congr (fun i _ => inL_cons hx0 l i), sm_upd (by omega) ?_]
    unfold inL
    rw [decide_eq_false]
    rw [Int.toNat_of_nonneg hx0]
    exact hxl
theorem asc_lt' {hi : Int} {l : List Int} (h : Asc 0 hi l) : ∀ x ∈ l, x < hi := by
  intro x hx
  obtain ⟨i, hi', rfl⟩ := List.getElem_of_mem hx
  have := (h.1 i hi').2
  simpa [List.getD, hi'] using this
/-- what is left: the unknown ones -/
def lf (K : Nat → Bool) (l : List Int) : List Int := l.filter fun i => !K i.toNat
theorem lf_on_f {K : Nat → Bool} {l : List Int} {k : Nat} (h : k < l.length) (hK : K (l.getD k 0).toNat = false) : lf K (l.take (k + 1)) = lf K (l.take k) ++ [l.getD k 0] := by
  rw [take_on h]; unfold lf; rw [List.filter_append]; generalize l.getD k 0 = x at hK; simp [hK]
theorem lf_on_t {K : Nat → Bool} {l : List Int} {k : Nat} (h : k < l.length) (hK : K (l.getD k 0).toNat = true) : lf K (l.take (k + 1)) = lf K (l.take k) := by
  rw [take_on h]; unfold lf; rw [List.filter_append]; generalize l.getD k 0 = x at hK; simp [hK]
theorem lf_one {K : Nat → Bool} {l : List Int} (h0 : ∀ x ∈ l, 0 ≤ x) (h1 : ∀ x ∈ l, x < 6) {y : Int} (h : lf K l = [y]) : One (inL l) K y.toNat := by
  have hy : y ∈ lf K l := by rw [h]; exact List.mem_cons_self
  unfold lf at hy
  obtain ⟨hm, hk⟩ := List.mem_filter.mp hy
  have hy0 := h0 y hm
  have hy1 := h1 y hm
  refine ⟨by omega, lk_t.mpr ⟨?_, by simpa using hk⟩, fun i hi hl => ?_⟩
  · unfold inL
    rw [Int.toNat_of_nonneg hy0]
    exact decide_eq_true hm
  · obtain ⟨g1, g2⟩ := lk_t.mp hl
    have hmi : (i : Int) ∈ l := of_decide_eq_true g1
    have : (i : Int) ∈ lf K l := by
      unfold lf
      exact List.mem_filter.mpr ⟨hmi, by simpa using g2⟩
    rw [h] at this
    have := List.mem_singleton.mp this
    omega
theorem lf_of {K : Nat → Bool} {l : List Int} (h0 : ∀ x ∈ l, 0 ≤ x) (h1 : ∀ x ∈ l, x < 6) (hd : l.Nodup) {b : Nat} (h : One (inL l) K b) : lf K l = [(b : Int)] := by
  have hmem : ∀ x ∈ lf K l, x = (b : Int) := by
    intro x hx
    unfold lf at hx
    obtain ⟨hm, hk⟩ := List.mem_filter.mp hx
    have hx0 := h0 x hm
    have hx1 := h1 x hm
    have := h.2.2 x.toNat (by omega) (lk_t.mpr ⟨by unfold inL; rw [Int.toNat_of_nonneg hx0]; exact decide_eq_true hm, by simpa using hk⟩)
    omega
  obtain ⟨g1, g2⟩ := lk_t.mp h.2.1
  have hb : (b : Int) ∈ lf K l := by
    unfold lf
    exact List.mem_filter.mpr ⟨of_decide_eq_true g1, by simpa using g2⟩
  have hnd : (lf K l).Nodup := by unfold lf; exact hd.filter _
  cases hlf : lf K l with
  | nil => rw [hlf] at hb; cases hb
  | cons x xs =>
    rw [hlf] at hmem hnd
    have hx := hmem x List.mem_cons_self
    subst hx
    cases xs with
    | nil => rfl
    | cons y ys =>
      have hy := hmem y (List.mem_cons_of_mem _ List.mem_cons_self)
      subst hy
      exact absurd List.mem_cons_self (List.nodup_cons.mp hnd).1
theorem lf_len {K : Nat → Bool} {l : List Int} : (lf K l).length ≤ l.length := List.length_filter_le _ _

/-- an unknown block's data is zero -/
def Zd (s : St) : Prop := ∀ i, s.K i = false → s.D i = Q.zero
theorem Zd.det {s : St} (h : Zd s) (p : Pc) (b : Nat) : Zd (pp.det s p b) := fun i hi => by
  by_cases e : i = b
  · subst e; simp [pp.det, upd] at hi
  · have h1 : s.K i = false := by simpa [pp.det, upd, e] using hi
    show updQ s.D b _ i = _
    unfold updQ; rw [if_neg e]; exact h i h1
theorem Zd.step {s : St} (h : Zd s) (p : Pc) : Zd (pp.step s p) := by
  by_cases hx : ∃ b, One p.S s.K b
  · obtain ⟨b, hb⟩ := hx
    rw [step_one hb]; exact h.det p b
  · rw [step_none (fun b hb => hx ⟨b, hb⟩)]; exact h
theorem Zd.part {s : St} (h : Zd s) (ps : List Pc) : Zd (pp.part ps s) := by
  induction ps generalizing s with
  | nil => exact h
  | cons p ps ih => exact ih (h.step p)
theorem Zd.iter (ps : List Pc) (k : Nat) : Zd (pp.iter ps k) := by
  induction k with
  | zero => exact fun _ _ => rfl
  | succ k ih => exact ih.part ps
theorem data_str {d : ByteArray} (h : d.size = 4) : d = (qb d 0).str := by
  have e : d.data.toList = (qb d 0).list := by
    rw [← bys_all d, h]
    rfl
  cases d with
  | mk a =>
    show ByteArray.mk a = ⟨_⟩
    rw [← e]
end Go.Proofs.Ytokajeomojlinaa.ls
