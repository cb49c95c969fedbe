/-
  Words: slices of records. A record's shape: how many cells it has, and which they are.
-/
import Derived.Test.YtckicpnnclbkpaaOwn
import Derived.Laws.AppendOwnNone
import Derived.BigFrame
import Derived.Deep.AppendLies
namespace Go.Proofs.Ytckicpnnclbkpaa.rl
open Go.ChangeShapes Go.WideShapes Go.ChangeAt Go.RowKit
open Go.Proofs.Ytckicpnnclbkpaa.wd Go.Proofs.Ytckicpnnclbkpaa.cp Go.Proofs.Ytckicpnnclbkpaa.ow

structure Shape (α : Type) where
  n : Nat
  f : α → List Value
  len : ∀ x, (f x).length = n
  one : ∀ x, ∀ u ∈ f x, u.oneCell' = true

theorem flat_at {α β : Type} {f : α → List β} {n : Nat} (hf : ∀ x, (f x).length = n) : ∀ (l : List α) (i : Nat) (x : α), l[i]? = some x → ∀ j, j < n → (l.flatMap f)[i * n + j]? = (f x)[j]?
  | [], _, _, h, _, _ => by simp at h
  | a :: l, 0, x, h, j, hj => by
    simp at h
    subst h
    rw [List.flatMap_cons, Nat.zero_mul, Nat.zero_add, List.getElem?_append_left (by rw [hf]; exact hj)]
  | a :: l, i + 1, x, h, j, hj => by
    simp at h
    rw [List.flatMap_cons, List.getElem?_append_right (by rw [hf, Nat.succ_mul]; omega), hf, show (i + 1) * n + j - n = i * n + j by rw [Nat.succ_mul]; omega]
    exact flat_at hf l i x h j hj
theorem flat_len {α β : Type} {f : α → List β} {n : Nat} (hf : ∀ x, (f x).length = n) (l : List α) : (l.flatMap f).length = l.length * n := by
  induction l with
  | nil => simp
  | cons a l ih => rw [List.flatMap_cons, List.length_append, hf, ih, List.length_cons, Nat.succ_mul]; omega
theorem flat_ones {α : Type} (S : Shape α) (l : List α) : ∀ u ∈ l.flatMap S.f, u.oneCell' = true := fun u hu => by
  obtain ⟨m, _, hm⟩ := List.mem_flatMap.mp hu
  exact S.one m u hm
theorem flat_of {α : Type} (S : Shape α) {cur : List Value} {l : List α} (hs : cur.length = l.length * S.n) (h : ∀ i x, l[i]? = some x → ∀ j u, (S.f x)[j]? = some u → cur[i * S.n + j]? = some u) : cur = l.flatMap S.f := by
  apply List.ext_getElem?
  intro j
  by_cases hj : j < l.length * S.n
  · have hpos : 0 < S.n := by
      rcases Nat.eq_zero_or_pos S.n with e | e
      · rw [e, Nat.mul_zero] at hj; omega
      · exact e
    have hi : j / S.n < l.length := (Nat.div_lt_iff_lt_mul hpos).2 hj
    have hx : l[j / S.n]? = some l[j / S.n] := List.getElem?_eq_getElem hi
    have hr : j % S.n < S.n := Nat.mod_lt _ hpos
    have e : j / S.n * S.n + j % S.n = j := by rw [Nat.mul_comm]; exact Nat.div_add_mod _ _
    have hu : (S.f l[j / S.n])[j % S.n]? = some ((S.f l[j / S.n])[j % S.n]'(by rw [S.len]; exact hr)) := List.getElem?_eq_getElem _
    have h1 := h _ _ hx _ _ hu
    have h2 := flat_at S.len l _ _ hx _ hr
    rw [e] at h1 h2
    rw [h1, h2, hu]
  · rw [List.getElem?_eq_none (by omega), List.getElem?_eq_none (by rw [flat_len S.len]; omega)]

/-- a slice of the call's own, of records -/
def OwnR {α : Type} (S : Shape α) (t : TypeId) (w0 w : World) (v : Value) (l : List α) : Prop := w.ownsRow w0.heap.size t S.n v l.length (l.flatMap S.f) ∧ Below w0.heap.size w0 w
/-- a slice that reads as records -/
def SeesR {α : Type} (S : Shape α) (w : World) (v : Value) (l : List α) : Prop :=
  ∃ A c, v = .slice A l.length c ∧ ((A = none ∧ c = 0 ∧ l = []) ∨ ∃ g, A = some ⟨g, 0, none⟩ ∧ g < w.heap.size ∧ ∀ i x, l[i]? = some x → ∀ j u, (S.f x)[j]? = some u → w.cell? ⟨g, i * S.n + j, none⟩ = some u)
section
variable {α : Type} {S : Shape α} {t : TypeId} {w0 w w1 : World} {v v1 : Value} {l l1 : List α} {o : Obj}
theorem OwnR.nil (w : World) : OwnR S t w w (.slice none 0 0) [] := ⟨World.ownsRow_nil _ _ _ _, Below.refl _ _⟩
theorem OwnR.empty (w : World) : OwnR S t w (w.alloc (.cells #[] t)) (.slice (some ⟨w.heap.size, 0, none⟩) 0 0) [] :=
  ⟨World.ownsRow_lit w #[] 0 (Nat.le_refl _) (by unfold maxLen; omega) (by simp), (Below.refl _ _).alloc (Nat.le_refl _) _⟩
theorem OwnR.later (h : OwnR S t w0 w v l) (hb : Below w.heap.size w w1) : OwnR S t w0 w1 v l := by
  refine ⟨h.1.kept (row := none) ⟨hb.os, hb.tape, hb.output, hb.size, fun i hi _ => hb.block i hi⟩ ?_, h.2.trans (hb.mono h.2.size)⟩
  cases hv : v.ownBlock with
  | none => exact .inl rfl
  | some k => exact .inr (by simp)
theorem OwnR.from_ (h : OwnR S t w w1 v l) (hb : Below w0.heap.size w0 w) : OwnR S t w0 w1 v l := by
  refine ⟨⟨h.1.1, ?_⟩, hb.trans (h.2.mono hb.size)⟩
  have := hb.size
  rcases h.1.2 with h' | ⟨g, cap, cur, h1, h2, h3⟩
  · exact .inl h'
  · exact .inr ⟨g, cap, cur, h1, by omega, h3⟩
theorem OwnR.drewN (h : OwnR S t w0 w v l) (q : Nat) : OwnR S t w0 (w.drewN q) v l := ⟨h.1, below_drewN' h.2 q⟩
theorem OwnR.lt (h : OwnR S t w0 w v l) {k : Nat} (hk : v.ownBlock = some k) : w0.heap.size ≤ k ∧ k < w.heap.size := h.1.lt k hk
theorem OwnR.sees (h : OwnR S t w0 w v l) : SeesR S w v l := by
  rcases h.1.2 with ⟨rfl, hn⟩ | ⟨g, cap, cur, rfl, hb, hh, hn, hm, hs, ht⟩
  · exact ⟨none, 0, by rw [hn], .inl ⟨rfl, rfl, List.eq_nil_of_length_eq_zero hn⟩⟩
  · refine ⟨_, cap, rfl, .inr ⟨g, rfl, (h.1.lt g rfl).2, fun i x hx j u hu => ?_⟩⟩
    have hj : j < S.n := by have := (List.getElem?_eq_some_iff.1 hu).1; rwa [S.len] at this
    have hf := flat_at S.len l i x hx j hj
    rw [hu] at hf
    have hi := (List.getElem?_eq_some_iff.1 hf).1
    rw [World.ownsRow.cellAt (g := g) (cap := cap) h.1 _ (by rwa [flat_len S.len] at hi), hf]
theorem SeesR.later (h : SeesR S w v l) (hB : Below w.heap.size w w1) : SeesR S w1 v l := by
  obtain ⟨A, c, rfl, hc⟩ := h
  refine ⟨A, c, rfl, ?_⟩
  rcases hc with hc | ⟨g, rfl, hg, hcell⟩
  · exact .inl hc
  · exact .inr ⟨g, rfl, Nat.lt_of_lt_of_le hg hB.size, fun i x hx j u hu => (hB.cell (p := ⟨g, _, none⟩) hg).trans (hcell i x hx j u hu)⟩
theorem SeesR.drewN (h : SeesR S w v l) (q : Nat) : SeesR S (w.drewN q) v l := h
theorem sees_nil (w : World) : SeesR S w (.slice none 0 0) [] := ⟨none, 0, rfl, .inl ⟨rfl, rfl, rfl⟩⟩
/-- what the walk reads of a record -/
theorem SeesR.at (h : SeesR S w v l) {i : Nat} {x : α} (hx : l[i]? = some x) :
    ∃ g c, v = .slice (some ⟨g, 0, none⟩) l.length c ∧ g < w.heap.size ∧ i < l.length ∧ ∀ j u, (S.f x)[j]? = some u → w.cell? ⟨g, i * S.n + j, none⟩ = some u := by
  obtain ⟨A, c, rfl, hc⟩ := h
  have hi := (List.getElem?_eq_some_iff.mp hx).1
  rcases hc with ⟨_, _, rfl⟩ | ⟨g, rfl, hlt, hr⟩
  · simp at hx
  · exact ⟨g, c, rfl, hlt, hi, hr i x hx⟩
/-- behind an append to a list of the call's own: another list of the call's own lies on -/
theorem OwnR.far {u : Value} {w' w2 : World} (h : OwnR S t w0 w v l) (hb : Below w.heap.size w w') (hg : w'.grownBy w2 u.ownBlock) (hu : ∀ k, u.ownBlock = some k → w.heap.size ≤ k) : OwnR S t w0 w2 v l := by
  refine ⟨(h.later hb).1.kept hg ?_, (h.later hb).2.trans ⟨hg.os, hg.tape, hg.output, hg.size, fun k hk => hg.block k (by have := h.2.size; have := hb.size; omega) (fun e => by have := hu k e.symm; have := h.2.size; omega)⟩⟩
  cases hv : v.ownBlock with
  | none => exact .inl rfl
  | some k =>
    refine .inr (fun e => ?_)
    have h1 := (h.lt hv).2
    have h2 := hu k e.symm
    omega
/-- a list that was grown -/
theorem OwnR.grew (h : OwnR S t w0 w v l) (h1 : w1.ownsRow w0.heap.size t S.n v1 l1.length (l1.flatMap S.f)) (hg : w.grownBy w1 v.ownBlock) : OwnR S t w0 w1 v1 l1 :=
  ⟨h1, h.2.trans ⟨hg.os, hg.tape, hg.output, hg.size, fun k hk => hg.block k (Nat.lt_of_lt_of_le hk h.2.size) (fun e => by have := (h.lt e.symm).1; omega)⟩⟩
theorem OwnR.alloc (h : OwnR S t w0 w v l) (o : Obj) : OwnR S t w0 (w.alloc o) v l := h.later ((Below.refl _ _).alloc (Nat.le_refl _) o)
end

/-- a slice of records from a place of its block on, or nil: what an append takes -/
def PartR {α : Type} (S : Shape α) (w : World) (A : Option Addr) (c : Nat) (l : List α) : Prop :=
  (A = none ∧ c = 0 ∧ l = []) ∨ ∃ g o, A = some ⟨g, o, none⟩ ∧ ∀ j u, (l.flatMap S.f)[j]? = some u → w.cell? ⟨g, o + j, none⟩ = some u

theorem flat_get {α : Type} (S : Shape α) : ∀ (l : List α) (j : Nat) (u : Value), (l.flatMap S.f)[j]? = some u → ∃ i x k, l[i]? = some x ∧ (S.f x)[k]? = some u ∧ j = i * S.n + k
  | [], j, u, h => by simp at h
  | a :: l, j, u, h => by
    rw [List.flatMap_cons] at h
    by_cases hj : j < S.n
    · rw [List.getElem?_append_left (by rw [S.len]; exact hj)] at h
      exact ⟨0, a, j, rfl, h, by omega⟩
    · rw [List.getElem?_append_right (by rw [S.len]; omega), S.len] at h
      obtain ⟨i, x, k, h1, h2, h3⟩ := flat_get S l _ u h
      exact ⟨i + 1, x, k, h1, h2, by rw [Nat.succ_mul]; omega⟩
theorem SeesR.part {α : Type} {S : Shape α} {w : World} {A : Option Addr} {n c : Nat} {l : List α} (h : SeesR S w (.slice A n c) l) : PartR S w A c l := by
  obtain ⟨A', c', e, hc⟩ := h
  injection e with e1 e2 e3
  subst e1; subst e3
  rcases hc with hc | ⟨g, rfl, hg, hcell⟩
  · exact .inl hc
  · refine .inr ⟨g, 0, rfl, fun j u hu => ?_⟩
    obtain ⟨i, x, k, h1, h2, rfl⟩ := flat_get S l j u hu
    rw [Nat.zero_add]
    exact hcell i x h1 k u h2

theorem wp_append_recs {α : Type} (S : Shape α) (hS : 0 < S.n) {w : World} {o : Oper} {a : Act} {K : Act → World → Prop} {Q : Exit → Act → World → Prop} (s x : Operand) (t : TypeId)
    (ho : o.op = .call { callee := .builtin .append, args := #[s, x], argTypes := #[t, t] })
    (base : Nat) (e : TypeId) (i : TypeInfo) (z : Value) (bytes : Nat) (ht : Try.prog.underlying t = some (.slice e)) (hi : Try.prog.info? e = some i) (hz : i.zero = some z)
    (hsize : i.size = S.n) (hby : i.bytes = bytes) (hzs : z.cells.size = S.n)
    (v : Value) (n : Nat) (xs : List Value) (hs : a.eval s = v) (hown : w.ownsRow base e S.n v n xs)
    (A : Option Addr) (m c : Nat) (l : List α) (hx : a.eval x = .slice A m c) (hm : m = l.length) (hP : PartR S w A c l)
    (h63 : n + l.length ≤ maxLen) (hbytes : (n + l.length) * bytes ≤ 140737488355328) (hbase : base ≤ w.heap.size)
    (h : ∀ v' w', w'.ownsRow base e S.n v' (n + l.length) (xs ++ l.flatMap S.f) → w.grownBy w' v.ownBlock → K (a.put o.dst v') w') : o.wp Try.prog a w K Q := by
  subst hm
  rcases hP with ⟨rfl, rfl, rfl⟩ | ⟨g, off, rfl, hc⟩
  · have hrun := run_append_owned_none (P := Try.prog) (w := w) base t o.type e i S.n ht hi v n xs hown
    have hk := h v w (by simpa using hown) ⟨rfl, rfl, rfl, Nat.le_refl _, fun _ _ _ => rfl⟩
    unfold Oper.wp
    simp at hx
    simp [execOp, ho, resolve, invoke, builtin, hs, hx, hrun, Result.andThen]
    exact hk
  · exact wp_append_own w s x t ho base e i z S.n bytes ht hi hz hsize hby hzs hS v n xs hs hown ⟨g, off, none⟩ l.length c (l.flatMap S.f) hx (by rw [flat_len S.len]) (fun j u hu => by
      have hadd : (⟨g, off, none⟩ : Addr).add j = ⟨g, off + j, none⟩ := by unfold Addr.add; split <;> simp_all
      rw [hadd]; exact hc j u hu) (flat_ones S l) h63 hbytes hbase (fun v' w' h1 h2 _ => h v' w' h1 h2)

theorem wpList_append_recs {α : Type} (S : Shape α) (hS : 0 < S.n) {w : World} {ops : Array Oper} {rest : List Oper} {o : Oper} {a : Act} {Q : Exit → Act → World → Prop} (hw : Region.wanted o (yielded ops a.tmps) = true) (s x : Operand) (t : TypeId)
    (ho : o.op = .call { callee := .builtin .append, args := #[s, x], argTypes := #[t, t] })
    (base : Nat) (e : TypeId) (i : TypeInfo) (z : Value) (bytes : Nat) (ht : Try.prog.underlying t = some (.slice e)) (hi : Try.prog.info? e = some i) (hz : i.zero = some z)
    (hsize : i.size = S.n) (hby : i.bytes = bytes) (hzs : z.cells.size = S.n)
    (v : Value) (n : Nat) (xs : List Value) (hs : a.eval s = v) (hown : w.ownsRow base e S.n v n xs)
    (A : Option Addr) (m c : Nat) (l : List α) (hx : a.eval x = .slice A m c) (hm : m = l.length) (hP : PartR S w A c l)
    (h63 : n + l.length ≤ maxLen) (hbytes : (n + l.length) * bytes ≤ 140737488355328) (hbase : base ≤ w.heap.size)
    (h : ∀ v' w', w'.ownsRow base e S.n v' (n + l.length) (xs ++ l.flatMap S.f) → w.grownBy w' v.ownBlock → wpList Try.prog ops Q rest (a.put o.dst v') w') : wpList Try.prog ops Q (o :: rest) a w := by
  unfold wpList
  rw [if_pos hw]
  exact .inl (wp_append_recs S hS s x t ho base e i z bytes ht hi hz hsize hby hzs v n xs hs hown A m c l hx hm hP h63 hbytes hbase h)

/-- the first k records lie in block g, which has room for n -/
def Fill {α : Type} (S : Shape α) (t : TypeId) (g n : Nat) (l : List α) (k : Nat) (w : World) : Prop :=
  ∃ cur, Blk w g t cur ∧ cur.size = n * S.n ∧ ∀ i x, i < k → l[i]? = some x → ∀ j u, (S.f x)[j]? = some u → cur[i * S.n + j]? = some u
/-- cells written one behind the other -/
def putAll (w : World) (g o : Nat) : List Value → World
  | [] => w
  | u :: us => putAll (w.setCell ⟨g, o, none⟩ u) g (o + 1) us
theorem putAll_blk {w : World} {g : Nat} {t : TypeId} : ∀ {cur : Array Value} (us : List Value) (o : Nat), Blk w g t cur → ∃ cur', Blk (putAll w g o us) g t cur' ∧ cur'.size = cur.size ∧ (∀ j, j < o ∨ o + us.length ≤ j → cur'[j]? = cur[j]?) ∧ (o + us.length ≤ cur.size → ∀ j u, us[j]? = some u → cur'[o + j]? = some u)
  | cur, [], o, h => ⟨cur, h, rfl, fun _ _ => rfl, fun _ j u hu => by simp at hu⟩
  | cur, x :: us, o, h => by
    have h1 := h.put o x
    obtain ⟨cur', a1, a2, a3, a4⟩ := putAll_blk (w := w.setCell ⟨g, o, none⟩ x) us (o + 1) h1
    refine ⟨cur', a1, by simpa using a2, fun j hj => ?_, fun hs j u hu => ?_⟩
    · rw [a3 j (by simp at hj; omega), Array.getElem?_setIfInBounds, if_neg (by simp at hj; omega)]
    · cases j with
      | zero =>
        simp at hu
        subst hu
        rw [a3 _ (by omega), Nat.add_zero, Array.getElem?_setIfInBounds, if_pos rfl, if_pos (by simp at hs; omega)]
      | succ j =>
        have := a4 (by simp at hs ⊢; omega) j u (by simpa using hu)
        rw [show o + (j + 1) = o + 1 + j by omega]
        exact this
theorem putAll_below {B g : Nat} (hg : B ≤ g) : ∀ (us : List Value) (o : Nat) {w0 w : World}, Below B w0 w → Below B w0 (putAll w g o us)
  | [], _, _, _, h => h
  | u :: us, o, _, _, h => putAll_below hg us (o + 1) (h.setCell (p := ⟨g, o, none⟩) hg u)
section
variable {α : Type} {S : Shape α} {t : TypeId} {g n k : Nat} {l : List α} {w w' w0 : World}
theorem Fill.later (h : Fill S t g n l k w) (hB : Below w.heap.size w w') : Fill S t g n l k w' := by
  obtain ⟨cur, h1, h2, h3⟩ := h
  exact ⟨cur, h1.below hB h1.lt, h2, h3⟩
theorem Fill.put (h : Fill S t g n l k w) (hk : k < n) {x : α} (hx : l[k]? = some x) : Fill S t g n l (k + 1) (putAll w g (k * S.n) (S.f x)) := by
  obtain ⟨cur, h1, h2, h3⟩ := h
  have hm : (k + 1) * S.n ≤ n * S.n := Nat.mul_le_mul_right _ hk
  rw [Nat.succ_mul] at hm
  obtain ⟨cur', a1, a2, a3, a4⟩ := putAll_blk (S.f x) (k * S.n) h1
  refine ⟨cur', a1, by omega, fun i y hi hy j u hu => ?_⟩
  have hj : j < S.n := by have := (List.getElem?_eq_some_iff.1 hu).1; rwa [S.len] at this
  by_cases e : i = k
  · subst e
    rw [hx] at hy
    injection hy with hy
    subst hy
    exact a4 (by rw [S.len]; omega) j u hu
  · have hlt : (i + 1) * S.n ≤ k * S.n := Nat.mul_le_mul_right _ (by omega)
    rw [Nat.succ_mul] at hlt
    rw [a3 _ (.inl (by omega))]
    exact h3 i y (by omega) hy j u hu
theorem Fill.cell (h : Fill S t g n l k w) (hk : k < n) {j : Nat} (hj : j < S.n) : (∃ x, w.cell? ⟨g, k * S.n + j, none⟩ = some x) ∧ w.frozen? ⟨g, k * S.n + j, none⟩ = false := by
  obtain ⟨cur, h1, h2, h3⟩ := h
  have hm : (k + 1) * S.n ≤ n * S.n := Nat.mul_le_mul_right _ hk
  rw [Nat.succ_mul] at hm
  refine ⟨⟨cur[k * S.n + j]'(by omega), ?_⟩, h1.frozen _⟩
  rw [h1.cell]; exact Array.getElem?_eq_getElem (by omega)
theorem Fill.own (h : Fill S t g l.length l l.length w) (hg : w0.heap.size ≤ g) (hB : Below w0.heap.size w0 w) (hl : l.length ≤ maxLen) : OwnR S t w0 w (.slice (some ⟨g, 0, none⟩) l.length l.length) l := by
  obtain ⟨cur, h1, h2, h3⟩ := h
  have hf : cur.toList = l.flatMap S.f := flat_of S (by simpa using h2) (fun i x hx j u hu => by
    have := h3 i x (List.getElem?_eq_some_iff.mp hx).1 hx j u hu
    simpa using this)
  refine ⟨⟨by rw [flat_len S.len], .inr ⟨g, l.length, cur, rfl, hg, h1, Nat.le_refl _, hl, by omega, ?_⟩⟩, hB⟩
  rw [hf, List.take_of_length_le (by rw [flat_len S.len]; exact Nat.le_refl _)]
end
end Go.Proofs.Ytckicpnnclbkpaa.rl
