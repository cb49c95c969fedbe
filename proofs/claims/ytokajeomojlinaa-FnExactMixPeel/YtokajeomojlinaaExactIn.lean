/-
  A list of encoded blocks that came in, in our words.
-/
import Derived.Test.YtokajeomojlinaaExactL3
import Derived.Deep.Slices
import Derived.ChangeSame
namespace Go.Proofs.Ytokajeomojlinaa.ls
open Go.ChangeShapes Go.WideShapes Go.ChangeAt Go.RowKit Go.Deep
open Go.Proofs.Ytokajeomojlinaa.wd Go.Proofs.Ytokajeomojlinaa.cp Go.Proofs.Ytokajeomojlinaa.mp Go.Proofs.Ytokajeomojlinaa.pp Go.Proofs.Ytokajeomojlinaa.ow

theorem cells_rec : Try.prog.cellsOf 94 = 2 := by kernel_rfl
theorem cells_int : Try.prog.cellsOf 3 = 1 := by kernel_rfl
theorem cells_str : Try.prog.cellsOf 9 = 1 := by kernel_rfl

theorem grow_list {P : Nat → Mx → Prop} (n : Nat) (h : ∀ i, i < n → ∃ m, P i m) : ∃ l : List Mx, l.length = n ∧ ∀ i m, l[i]? = some m → P i m := by
  induction n with
  | zero => exact ⟨[], rfl, fun i m hm => by simp at hm⟩
  | succ n ih =>
    obtain ⟨l, hl, hP⟩ := ih (fun i hi => h i (by omega))
    obtain ⟨m, hm⟩ := h n (by omega)
    refine ⟨l ++ [m], by simp [hl], fun i m' hm' => ?_⟩
    by_cases e : i < l.length
    · rw [List.getElem?_append_left e] at hm'; exact hP i m' hm'
    · rw [List.getElem?_append_right (by omega)] at hm'
      have hi : i - l.length = 0 := by
        rcases Nat.eq_zero_or_pos (i - l.length) with h | h
        · exact h
        · rw [List.getElem?_eq_none (by simp; omega)] at hm'; cases hm'
      rw [hi] at hm'
      simp at hm'
      subst hm'
      obtain rfl : i = n := by omega
      exact hm

section
variable {H : Type} {enc : TypeId × Value → H} {w : World} {base : Nat} {spare : Nat → Bool} {held : Bool}
set_option maxRecDepth 100000 in
theorem sees_in {fuel : Nat} {A : Option Addr} {len cap : Nat} {x : DataW H × List MemPlace} (h : DataW.trod enc Try.prog w base spare held fuel 47 [.slice A len cap] = some x) : ∃ l : List Mx, l.length = len ∧ SeesL w (.slice A len cap) l := by
  rcases open_slice Try.underlying47 h with ⟨hcs, _⟩ | ⟨a, len', cap', m, n, D, Pl, hcs, hb, hl, hm, hmm, hx, hi⟩
  · injection hcs with hcs _
    injection hcs with e1 e2 e3
    subst e1; subst e2; subst e3
    exact ⟨[], rfl, none, 0, rfl, by simp, fun m hm => by simp at hm, fun h => absurd h (by simp)⟩
  · injection hcs with hcs _
    injection hcs with e1 e2 e3
    subst e1; subst e2; subst e3
    have hlm : len ≤ m := by rw [hmm]; split <;> omega
    obtain ⟨l, hll, hP⟩ := grow_list (P := fun i (r : Mx) => w.cell? (a.add (i * 2)) = some (.int .i64 r.1) ∧ w.cell? (a.add (i * 2 + 1)) = some (.string r.2) ∧ r.2.size ≤ maxLen) len (fun i hilt => by
      obtain ⟨cs', hc, ht⟩ := hi i (by omega)
      rw [cells_rec] at hc
      obtain ⟨_, hcl, hat⟩ := World.cells?_some hc
      obtain ⟨y0, y1, n', _, _, h0, h1⟩ := trod_struct2 Try.underlying94 ht
      match cs', hcl with
      | [c0, c1], _ =>
        simp only [cells_int, cells_str] at h0 h1
        obtain ⟨num, e0, _, _⟩ := DataW.trod_int Try.underlying3 h0
        obtain ⟨d, e1, _, hd⟩ := DataW.trod_string Try.underlying9 h1
        simp at e0 e1
        refine ⟨(num, d), ?_, ?_, hd⟩
        · have := hat 0 (by omega)
          simp [Go.Deep.add_add] at this
          rw [this, e0]
        · have := hat 1 (by omega)
          rw [Go.Deep.add_add] at this
          rw [this]
          simp [e1])
    refine ⟨l, hll, some a, cap, by rw [hll], by omega, fun r hr => ?_, fun hn => ?_⟩
    · obtain ⟨i, hi, rfl⟩ := List.mem_iff_getElem.mp hr
      exact (hP i _ (List.getElem?_eq_getElem hi)).2.2
    · have h0 := (hP 0 _ (List.getElem?_eq_getElem hn)).1
      obtain ⟨g, o, spot⟩ := a
      have hspot : spot = none := by simpa [Addr.add] using World.cell?_spot h0
      subst hspot
      have e : ∀ j, (⟨g, o, none⟩ : Addr).add j = ⟨g, o + j, none⟩ := fun j => by
        unfold Addr.add; split <;> simp_all
      refine ⟨g, o, rfl, ?_, fun i r hr => ?_⟩
      · rcases Nat.lt_or_ge g w.heap.size with hlt | hge
        · exact hlt
        · rw [e] at h0
          have : w.heap[g]? = none := Array.getElem?_eq_none hge
          simp [World.cell?, this] at h0
      · obtain ⟨k0, k1, _⟩ := hP i r hr
        rw [e] at k0 k1
        exact ⟨k0, k1⟩
end
end Go.Proofs.Ytokajeomojlinaa.ls
