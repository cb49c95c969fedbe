/-
  A law of a range over an iterator that lays a block of its own as it begins (a cursor) and turns it between the rounds: the loop's body goes on, or returns.
-/
import Derived.RangeFuncFrom
namespace Go.Proofs.YtckicpnnclbkpaaGreatDoor.rc
open Go Go.RowKit

/-- what is said abides whatever becomes of block C, and new blocks -/
def Free {β : Type} (C : Nat) (J : β → World → Prop) : Prop := ∀ s A B, J s A → A.grownBy B (some C) → J s B

/-- what the iterator promises, called in the world W: C = W.heap.size is the cursor's block; Kp C: what a round that goes on keeps for it -/
def SeqCur {α : Type} (F : Fence) (n : Nat) (P : Program) (g : Nat) (lb : Array Value) (encs : α → Array Value) (Kp : Nat → World → World → Prop) (S Sp : List α → Prop) (N : Nat) (W : World) : Prop :=
  ∀ (l : Nat) (J Jx : List α → World → Prop), Free W.heap.size J → Free W.heap.size Jx →
    (∀ pre x V, J pre V → pre.length < N → W.heap.size < V.heap.size → YieldAt F (n - 1) P l (encs x) V fun e V' =>
      (e = .returned (.bool true) ∧ J (pre ++ [x]) V' ∧ Kp W.heap.size V V') ∨ (e = .returned (.bool false) ∧ Jx (pre ++ [x]) V')) →
    J [] W →
    CallsIn F n P g (#[.func (.yield l) #[] #[]] ++ lb) W fun e W' => (∃ v, e = .returned v) ∧ ((∃ xs, S xs ∧ J xs W') ∨ (∃ pre, Sp pre ∧ Jx pre W'))

/-- how a round's body may be left -/
def After {α : Type} (K : World → World → Prop) (I Ix : List α → World → Prop) (xs : List α) (W : World) : Exit → Act → World → Prop
  | .normal, _, W' => KeepsOthers W W' ∧ K W W' ∧ I xs W'
  | .ret, _, W' => KeepsOthers W W' ∧ Ix xs W'
  | _, _, _ => False

variable {F : Fence} {n : Nat} {P : Program}

theorem grown_none {A B : World} {r : Option Nat} (h : A.grownBy B none) : A.grownBy B r := ⟨h.os, h.tape, h.output, h.size, fun k hk _ => h.block k hk (by simp)⟩
theorem grown_put (W : World) (l : Nat) (o : Obj) : W.grownBy (W.putObj l o) (some l) := grownBy_putObj' W l o
theorem grown_keeps {A B : World} {C k : Nat} (h : A.grownBy B (some C)) (hk : k ≠ C) {o : Obj} (ho : A.heap[k]? = some o) : B.heap[k]? = some o :=
  (h.block k (Array.getElem?_eq_some_iff.1 ho).1 (fun e => hk (Option.some.inj e))).trans ho

theorem wpIn_rangeCur {α : Type} {g : Operand} {ps : Array Tmp} {assign body : Code} {Q : Exit → Act → World → Prop} {a : Act} {w : World}
    (hro : F.round = none) (h1 : 1 ≤ n) {gf : Nat} {lb : Array Value} (hg : a.eval g = .func (.func gf) #[] lb) (hF : F.fn gf) (eg : ∀ args w, (callFunc gf args).run P w = .ok (.enter gf args) w)
    {encs : α → Array Value} {Kp : Nat → World → World → Prop} {S Sp : List α → Prop} {N : Nat}
    (hseq : ∀ W : World, Below w.heap.size w W → W.heap.size = w.heap.size + 2 → SeqCur F (n - 1) P gf lb encs Kp S Sp N W)
    (hKt : ∀ {A B D : World}, Kp (w.heap.size + 2) A B → Kp (w.heap.size + 2) B D → Kp (w.heap.size + 2) A D)
    (hKb : ∀ (W : World) (l : Nat) (o : Obj), w.heap.size ≤ l → l < w.heap.size + 2 → Kp (w.heap.size + 2) W (W.putObj l o))
    (hps : ∀ x, (encs x).size = ps.size)
    (I Ix : List α → World → Prop) (hI : ∀ r, w.heap.size ≤ r → r ≤ w.heap.size + 2 → Free r I) (hIx : ∀ r, w.heap.size ≤ r → r ≤ w.heap.size + 2 → Free r Ix) (h0 : I [] w) (a₁ : α → Act)
    (hassign : ∀ (l : Nat) (x : α) (W : World) (K : Act → World → Prop), K (a₁ x) W →
      assign.wpIn (F.inRound l) (n - 1 - 1) P (Exit.then K (fun _ _ _ => False)) { tmps := (ps.zip (encs x)).foldl (fun t (p, v) => t.setIfInBounds p v) a.tmps, defers := [] } W)
    (hbody : ∀ (l : Nat) (pre : List α) (x : α) (W : World), I pre W → pre.length < N → w.heap.size + 2 < W.heap.size → body.wpIn (F.inRound l) (n - 1 - 1) P (After (Kp (w.heap.size + 2)) I Ix (pre ++ [x]) W) (a₁ x) W)
    (hdone : ∀ (D : Nat) (xs : List α) (W : World), w.heap.size ≤ D → S xs → I xs W → W.heap[D]? = some (.deferred (some [])) → Q .normal { a with defers := { target := .collected D, args := #[] } :: a.defers } W)
    (hstop : ∀ (D : Nat) (pre : List α) (W : World), w.heap.size ≤ D → Sp pre → Ix pre W → W.heap[D]? = some (.deferred (some [])) → Code.ret.wpIn F n P Q { a with defers := { target := .collected D, args := #[] } :: a.defers } W) :
    (Code.rangeFunc g ps assign body).wpIn F n P Q a w := by
  refine wpIn_rangeFunc fun fn hfn => ?_
  rw [hro]
  obtain ⟨mk, hmk⟩ : ∃ mk : LoopState → Option Code → Loop, mk = fun st pe => { state := st, pending := pe, fn, tmps := a.tmps, params := ps, assign, body, defers := w.heap.size } := ⟨_, rfl⟩
  obtain ⟨V, hV⟩ : ∃ V, V = (w.alloc (.deferred (some []))).alloc (.loop (mk .ready none)) := ⟨_, rfl⟩
  have hVs : V.heap.size = w.heap.size + 2 := by rw [hV]; simp
  have hVl : V.heap[w.heap.size + 1]? = some (.loop (mk .ready none)) := by
    rw [hV]
    have := World.alloc_heap_new (w.alloc (.deferred (some []))) (.loop (mk .ready none))
    rwa [World.size_alloc] at this
  have hVd : V.heap[w.heap.size]? = some (.deferred (some [])) := by
    rw [hV]
    exact (Below.heap_alloc _ _ _ (by simp)).trans (World.alloc_heap_new w _)
  have hVb : Below w.heap.size w V := by
    rw [hV]
    exact ((Below.refl _ w).alloc (Nat.le_refl _) _).alloc (by simp) _
  have hVg : w.grownBy V (some w.heap.size) := ⟨hVb.os, hVb.tape, hVb.output, hVb.size, fun k hk _ => hVb.block k hk⟩
  have hVI : I [] V := hI _ (Nat.le_refl _) (by omega) _ _ _ h0 hVg
  refine ⟨w.heap.size + 1, [{ target := .collected w.heap.size, args := #[] }], V, { target := .fn (.func gf) lb, args := #[.func (.yield (w.heap.size + 1)) #[] #[]] }, V, gf,
    #[.func (.yield (w.heap.size + 1)) #[] #[]] ++ lb, V, ?_, ?_, ?_, ?_, fun _ => h1, ?_⟩
  · rw [hV, hmk]; exact run_enterLoop_outer _ _ _ _ _
  · simp only [resolve, hg]
    simp [go_sem]
  · intro f' hf'; simp [Target.leads] at hf'; subst hf'; exact hF
  · simp [invoke, go_sem, eg]
  -- the iterator's call
  have hC : V.heap.size = w.heap.size + 2 := hVs
  have key := hseq V hVb hVs (w.heap.size + 1)
    (fun pre W => I pre W ∧ W.heap[w.heap.size + 1]? = some (.loop (mk .ready none)) ∧ W.heap[w.heap.size]? = some (.deferred (some [])))
    (fun pre W => Ix pre W ∧ W.heap[w.heap.size + 1]? = some (.loop (mk .done (some .ret))) ∧ W.heap[w.heap.size]? = some (.deferred (some [])))
    (fun s A B hs hgr => by
      rw [hC] at hgr
      exact ⟨hI _ (by omega) (Nat.le_refl _) _ _ _ hs.1 hgr, grown_keeps hgr (by omega) hs.2.1, grown_keeps hgr (by omega) hs.2.2⟩)
    (fun s A B hs hgr => by
      rw [hC] at hgr
      exact ⟨hIx _ (by omega) (Nat.le_refl _) _ _ _ hs.1 hgr, grown_keeps hgr (by omega) hs.2.1, grown_keeps hgr (by omega) hs.2.2⟩)
    ?_ ⟨hVI, hVl, hVd⟩
  · refine key.mono ?_
    rintro e W ⟨⟨v, rfl⟩, (⟨xs, hS, hi, hl, hd⟩ | ⟨pre, hSp, hi, hl, hd⟩)⟩
    · refine ⟨none, _, by have := run_endLoop (P := P) hl (by rw [hmk]; simp); rw [hmk] at this; exact this, ?_⟩
      exact hdone _ xs _ (Nat.le_refl _) hS (hI _ (by omega) (by omega) _ _ _ hi (grown_put W _ _)) ((World.putObj_heap_other (by omega)).trans hd)
    · refine ⟨some .ret, _, by have := run_endLoop (P := P) hl (by rw [hmk]; simp); rw [hmk] at this; exact this, ?_⟩
      exact hstop _ pre _ (Nat.le_refl _) hSp (hIx _ (by omega) (by omega) _ _ _ hi (grown_put W _ _)) ((World.putObj_heap_other (by omega)).trans hd)
  -- one round
  rintro pre x W ⟨hi, hl, hd⟩ hlen hsz
  rw [hC] at hsz ⊢
  have hlt : w.heap.size + 1 < W.heap.size := by omega
  have hy := run_yield (P := P) (args := encs x) hl (by rw [hmk]; exact hps x)
  rw [hmk] at hy
  refine ⟨fn, _, assign, body, hy, roundIn_of_wpIn hfn (hassign _ x W _ ⟨_, run_beginRound hl (by rw [hmk]), ?_⟩)⟩
  obtain ⟨U, hU⟩ : ∃ U, U = W.putObj (w.heap.size + 1) (.loop { mk .ready none with state := .busy }) := ⟨_, rfl⟩
  rw [← hU]
  have hUl : U.heap[w.heap.size + 1]? = some (.loop { mk .ready none with state := .busy }) := by rw [hU]; exact World.putObj_heap_same hlt
  have hUd : U.heap[w.heap.size]? = some (.deferred (some [])) := by rw [hU]; exact (World.putObj_heap_other (by omega)).trans hd
  have hUK : Kp (w.heap.size + 2) W U := by rw [hU]; exact hKb _ _ _ (by omega) (by omega)
  have hUI : I pre U := by rw [hU]; exact hI _ (by omega) (by omega) _ _ _ hi (grown_put W _ _)
  have hUs : w.heap.size + 2 < U.heap.size := by rw [hU, World.putObj_size]; exact hsz
  refine wpIn_mono (hbody _ pre x _ hUI hlen hUs) ?_
  rintro e a3 X hp
  have fin : ∀ (jump : Option Code), KeepsOthers U X →
      (Instr.endRound (w.heap.size + 1) jump).run P X = .ok (.bool jump.isNone) (X.putObj (w.heap.size + 1) (.loop (mk (if jump.isNone then .ready else .done) jump))) ∧
      (X.putObj (w.heap.size + 1) (.loop (mk (if jump.isNone then .ready else .done) jump))).heap[w.heap.size + 1]? = some (.loop (mk (if jump.isNone then .ready else .done) jump)) ∧
      (X.putObj (w.heap.size + 1) (.loop (mk (if jump.isNone then .ready else .done) jump))).heap[w.heap.size]? = some (.deferred (some [])) := fun jump hk => by
    have hl3 := hk.same _ _ hUl rfl
    have hr := run_endRound (P := P) jump hl3
    rw [hmk] at hr ⊢
    exact ⟨hr, World.putObj_heap_same (Array.getElem?_eq_some_iff.1 hl3).1, (World.putObj_heap_other (by omega)).trans (hk.same _ _ hUd rfl)⟩
  cases e with
  | normal =>
    obtain ⟨hk, hkp, hi3⟩ := hp
    obtain ⟨hr, hl4, hd4⟩ := fin none hk
    exact ⟨_, _, hr, .inl ⟨rfl, ⟨hI _ (by omega) (by omega) _ _ _ hi3 (grown_put X _ _), hl4, hd4⟩, hKt (hKt hUK hkp) (hKb _ _ _ (by omega) (by omega))⟩⟩
  | ret =>
    obtain ⟨hk, hi3⟩ := hp
    obtain ⟨hr, hl4, hd4⟩ := fin (some .ret) hk
    exact ⟨_, _, hr, .inr ⟨rfl, hIx _ (by omega) (by omega) _ _ _ hi3 (grown_put X _ _), hl4, hd4⟩⟩
  | exit id => exact hp.elim
  | goto t => exact hp.elim
  | panic ch => exact hp.elim
  | outgrown => exact hp.elim
end Go.Proofs.YtckicpnnclbkpaaGreatDoor.rc
