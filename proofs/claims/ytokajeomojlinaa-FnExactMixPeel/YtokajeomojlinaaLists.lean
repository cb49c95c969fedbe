/-
  Words: slices whose elements have several cells (pieces, encoded blocks); the pieces of a list of encoded blocks.
-/
import Derived.Test.YtokajeomojlinaaPeeler
namespace Go.Proofs.Ytokajeomojlinaa.ls
open Go.ChangeShapes Go.WideShapes Go.ChangeAt Go.RowKit
open Go.Proofs.Ytokajeomojlinaa.wd Go.Proofs.Ytokajeomojlinaa.cp Go.Proofs.Ytokajeomojlinaa.mp Go.Proofs.Ytokajeomojlinaa.pp Go.Proofs.Ytokajeomojlinaa.ow Go.Proofs.Ytokajeomojlinaa.mk Go.Proofs.Ytokajeomojlinaa.pe

/-- a slice of the call's own, of elements of sz cells -/
def OwnZ (t : TypeId) (sz : Nat) (w0 w : World) (v : Value) (n : Nat) (xs : List Value) : Prop := w.ownsRow w0.heap.size t sz v n xs ∧ Below w0.heap.size w0 w
section
variable {t : TypeId} {sz n m : Nat} {w0 w w1 : World} {v v1 : Value} {xs ys : List Value} {o : Obj}
theorem OwnZ.nil (w : World) : OwnZ t sz w w (.slice none 0 0) 0 [] := ⟨World.ownsRow_nil _ _ _ _, Below.refl _ _⟩
theorem OwnZ.empty (w : World) : OwnZ t sz w (w.alloc (.cells #[] t)) (.slice (some ⟨w.heap.size, 0, none⟩) 0 0) 0 [] :=
  ⟨World.ownsRow_lit w #[] 0 (Nat.le_refl _) (by unfold maxLen; omega) (by simp), (Below.refl _ _).alloc (Nat.le_refl _) _⟩
theorem OwnZ.more (h : OwnZ t sz w0 w v n xs) (h1 : w1.ownsRow w0.heap.size t sz v1 m ys) (hg : (w.alloc o).grownBy w1 v.ownBlock) : OwnZ t sz w0 w1 v1 m ys := by
  refine ⟨h1, ?_⟩
  have hs : (w.alloc o).heap.size = w.heap.size + 1 := by simp
  exact (h.2.alloc h.2.size o).grown hg (by have := h.2.size; omega) (fun k hk => (h.1.lt k hk).1)
theorem OwnZ.later (h : OwnZ t sz w0 w v n xs) (hb : Below w.heap.size w w1) : OwnZ t sz w0 w1 v n xs := by
  refine ⟨h.1.kept (row := none) ⟨hb.os, hb.tape, hb.output, hb.size, fun i hi _ => hb.block i hi⟩ ?_, h.2.trans (hb.mono h.2.size)⟩
  cases hv : v.ownBlock with
  | none => exact .inl rfl
  | some k => exact .inr (by simp)
theorem OwnZ.from_ (h : OwnZ t sz w w1 v n xs) (hb : Below w0.heap.size w0 w) : OwnZ t sz w0 w1 v n xs := by
  refine ⟨⟨h.1.1, ?_⟩, hb.trans (h.2.mono hb.size)⟩
  have := hb.size
  rcases h.1.2 with h' | ⟨g, cap, cur, h1, h2, h3⟩
  · exact .inl h'
  · exact .inr ⟨g, cap, cur, h1, by omega, h3⟩
theorem OwnZ.drew (h : OwnZ t sz w0 w v n xs) : OwnZ t sz w0 w.drew v n xs := ⟨h.1, h.2.drew⟩
theorem OwnZ.form (h : OwnZ t sz w0 w v n xs) : ∃ A c, v = .slice A n c ∧ (0 < n → ∃ g, A = some ⟨g, 0, none⟩ ∧ w0.heap.size ≤ g ∧ g < w.heap.size ∧ ∀ i x, xs[i]? = some x → w.cell? ⟨g, i, none⟩ = some x) := by
  rcases h.1.2 with ⟨rfl, hn⟩ | ⟨g, cap, cur, rfl, hb, hh, hn, hm, hs, ht⟩
  · exact ⟨none, 0, by rw [hn], fun h => absurd h (by omega)⟩
  · refine ⟨_, cap, rfl, fun _ => ⟨g, rfl, hb, (h.1.lt g rfl).2, fun i x hx => ?_⟩⟩
    have hi : i < xs.length := (List.getElem?_eq_some_iff.1 hx).1
    rw [World.ownsRow.cellAt (g := g) (cap := cap) h.1 i (by have := h.1.1; omega), hx]
end

theorem flat_at {α β : Type} {f : α → List β} {n : Nat} (hf : ∀ x, (f x).length = n) : ∀ (l : List α) (i : Nat) (x : α), l[i]? = some x → ∀ j, j < n → (l.flatMap f)[i * n + j]? = (f x)[j]?
  | [], _, _, h, _, _ => by simp at h
  | a :: l, 0, x, h, j, hj => by
    simp at h
    subst h
    rw [List.flatMap_cons, Nat.zero_mul, Nat.zero_add, List.getElem?_append_left (by rw [hf]; exact hj)]
  | a :: l, i + 1, x, h, j, hj => by
    simp at h
    rw [List.flatMap_cons, List.getElem?_append_right (by rw [hf, Nat.succ_mul]; omega), hf, show (i + 1) * n + j - n = i * n + j by rw [Nat.succ_mul]; omega]
    exact flat_at hf l i x h j hj
theorem flat_len {α β : Type} {f : α → List β} {n : Nat} (hf : ∀ x, (f x).length = n) (l : List α) : (l.flatMap f).length = l.length * n := by
  induction l with
  | nil => simp
  | cons a l ih => rw [List.flatMap_cons, List.length_append, hf, ih, List.length_cons, Nat.succ_mul]; omega

theorem pc_len (x : Pc) : (pc x).length = 5 := rfl
theorem sees_pieces {w0 w : World} {v : Value} {ps : List Pc} (h : OwnZ 113 5 w0 w v ps.length (ps.flatMap pc)) : SeesP w v ps ∧ ∀ k, v.ownBlock = some k → k < w.heap.size := by
  refine ⟨?_, fun k hk => (h.1.lt k hk).2⟩
  obtain ⟨A, c, rfl, hc⟩ := h.form
  refine ⟨A, c, rfl, fun hn => ?_⟩
  obtain ⟨g, rfl, _, hg, hcell⟩ := hc hn
  refine ⟨g, rfl, hg, fun i x hx j u hu => hcell _ _ ?_⟩
  rw [flat_at pc_len ps i x hx j (by have := (List.getElem?_eq_some_iff.1 hu).1; rwa [pc_len] at this)]
  exact hu

/-- an encoded block: its number, its data -/
abbrev Mx := Int × ByteArray
def mc (m : Mx) : List Value := [.int .i64 m.1, .string m.2]
theorem mc_len (m : Mx) : (mc m).length = 2 := rfl
/-- a slice that reads as encoded blocks -/
def SeesM (w : World) (v : Value) (l : List Mx) : Prop :=
  ∃ A c, v = .slice A l.length c ∧ (0 < l.length → ∃ g, A = some ⟨g, 0, none⟩ ∧ g < w.heap.size ∧ ∀ i m, l[i]? = some m → w.cell? ⟨g, i * 2, none⟩ = some (.int .i64 m.1) ∧ w.cell? ⟨g, i * 2 + 1, none⟩ = some (.string m.2))
theorem sees_mixed {w0 w : World} {v : Value} {l : List Mx} (h : OwnZ 40 2 w0 w v l.length (l.flatMap mc)) : SeesM w v l := by
  obtain ⟨A, c, rfl, hc⟩ := h.form
  refine ⟨A, c, rfl, fun hn => ?_⟩
  obtain ⟨g, rfl, _, hg, hcell⟩ := hc hn
  refine ⟨g, rfl, hg, fun i m hm => ⟨hcell _ _ ?_, hcell _ _ ?_⟩⟩
  · exact flat_at mc_len l i m hm 0 (by omega)
  · exact flat_at mc_len l i m hm 1 (by omega)
theorem SeesM.later {w w' : World} {v : Value} {l : List Mx} (h : SeesM w v l) (hB : Below w.heap.size w w') : SeesM w' v l := by
  obtain ⟨A, c, rfl, hc⟩ := h
  refine ⟨A, c, rfl, fun hn => ?_⟩
  obtain ⟨g, rfl, hg, hcell⟩ := hc hn
  exact ⟨g, rfl, Nat.lt_of_lt_of_le hg hB.size, fun i m hm => ⟨(hB.cell (p := ⟨g, _, none⟩) hg).trans (hcell i m hm).1, (hB.cell (p := ⟨g, _, none⟩) hg).trans (hcell i m hm).2⟩⟩
theorem SeesM.at {w : World} {v : Value} {l : List Mx} (h : SeesM w v l) {i : Nat} {m : Mx} (hm : l[i]? = some m) :
    ∃ g c, v = .slice (some ⟨g, 0, none⟩) l.length c ∧ g < w.heap.size ∧ i < l.length ∧ w.cell? ⟨g, i * 2, none⟩ = some (.int .i64 m.1) ∧ w.cell? ⟨g, i * 2 + 1, none⟩ = some (.string m.2) := by
  obtain ⟨A, c, rfl, hc⟩ := h
  have hi := (List.getElem?_eq_some_iff.mp hm).1
  obtain ⟨g, rfl, hlt, hr⟩ := hc (by omega)
  exact ⟨g, c, rfl, hlt, hi, (hr i m hm).1, (hr i m hm).2⟩

/-- is an encoded block usable? -/
def okP (b : Int) (m : Mx) : Bool := okM b m.1 && (m.2.size == 4)
/-- which blocks a list names -/
def inL (l : List Int) : Nat → Bool := fun i => decide ((i : Int) ∈ l)
def pcOf (b : Int) (m : Mx) : Pc := ⟨inL (mo b m.1), qb m.2 0⟩
/-- the usable ones -/
def pcs (b : Int) (l : List Mx) : List Pc := (l.filter (okP b)).map (pcOf b)
theorem pcs_t {b : Int} {l : List Mx} {m : Mx} (h : okP b m = true) : pcs b (l ++ [m]) = pcs b l ++ [pcOf b m] := by simp [pcs, h]
theorem pcs_f {b : Int} {l : List Mx} {m : Mx} (h : okP b m = false) : pcs b (l ++ [m]) = pcs b l := by simp [pcs, h]
theorem pcs_len (b : Int) (l : List Mx) : (pcs b l).length ≤ l.length := by
  unfold pcs
  rw [List.length_map]
  exact List.length_filter_le _ _
theorem take_snoc {l : List Mx} {i : Nat} {m : Mx} (h : l[i]? = some m) : l.take (i + 1) = l.take i ++ [m] := by
  obtain ⟨hi, e⟩ := List.getElem?_eq_some_iff.mp h
  rw [List.take_succ_eq_append_getElem hi, e]

/-- the program's setOf -/
theorem setOf_any (w : World) (v : Value) (l : List Int) (hv : ∃ A c, v = .slice A l.length c ∧ (0 < l.length → ∃ g, A = some ⟨g, 0, none⟩ ∧ ∀ i, i < l.length → w.cell? ⟨g, i, none⟩ = some (.int .i64 (l.getD i 0)))) (hl : l.length ≤ 6) (hb : ∀ i, i < l.length → 0 ≤ l.getD i 0 ∧ l.getD i 0 < 6) :
    Calls Try.prog 82 #[v] w fun e w' => e = .returned (.int .u8 (msk (inL l) : Int)) ∧ w = w' := by
  obtain ⟨A, c, rfl, hc⟩ := hv
  have HC := Lib.hid hc
  have HB := Lib.hid hb
  clear hc hb
  go_enter Try.func82, Try.ntmps82
  go_wp2
  go_loop [3, 8] (fun s i => ∃ k : Nat, k ≤ l.length ∧ i = .int .i64 k ∧ s = .int .u8 (msk (inL (l.take k)) : Int)) (fun _ i => (l.length + 1 : Nat) - (intOf i).toNat)
  case atStart => exact ⟨0, by omega, rfl, rfl⟩
  case round =>
    obtain ⟨k, hk, rfl, rfl⟩ := hrel
    by_cases hkl : k < l.length
    · obtain ⟨g, rfl, hcell⟩ := HC.out (by omega)
      have e := hcell k hkl
      obtain ⟨x0, x1⟩ := HB.out k hkl
      have HT := Lib.hid (show l.take (k + 1) = l.take k ++ [l.getD k 0] by rw [List.take_succ_eq_append_getElem hkl]; simp [List.getD, hkl])
      clear hcell
      generalize l.getD k 0 = y at e x0 x1 HT
      obtain ⟨b, rfl⟩ := Int.eq_ofNat_of_zero_le x0
      have hb6 : b < 6 := by omega
      have HM := Lib.hid (show msk (upd (inL (l.take k)) b) = msk (inL (l.take (k + 1))) from msk_congr (fun i _ => by
        rw [HT.out]
        unfold upd inL
        by_cases e : i = b
        · subst e; simp
        · rw [if_neg e]
          have : ¬ ((i : Int) = (b : Int)) := by omega
          simp [this]))
      go_wp2_with ((go_at_call 89; refine (with_any _ hb6 _).mono ?_; rintro e w' ⟨rfl, rfl⟩))
      go_round
      case rel => exact ⟨k + 1, by omega, by go_num, by rw [HM.out]⟩
      case measure => simp [intOf]; omega
    · obtain rfl : k = l.length := by omega
      rw [List.take_length]
      go_wp2
      go_ret
      exact ⟨rfl, rfl⟩
end Go.Proofs.Ytokajeomojlinaa.ls
