/-
  Contract of impl.ShelfRead.
-/
import Derived.Test.YtapkfajgphkajaaGreatDoorIEach
import Derived.Test.YtapkfajgphkajaaGreatDoorAs
import Derived.Maps.AppendAt
namespace Go.Proofs.YtapkfajgphkajaaGreatDoor.sh
open Go.ChangeShapes Go.WideShapes Go.ChangeAt Go.RowKit Go.Shelf
open Go.Proofs.YtapkfajgphkajaaGreatDoor.nb Go.Proofs.YtapkfajgphkajaaGreatDoor.ok Go.Proofs.YtapkfajgphkajaaGreatDoor.wd Go.Proofs.YtapkfajgphkajaaGreatDoor.dc Go.Proofs.YtapkfajgphkajaaGreatDoor.as
open Go.Proofs.YtapkfajgphkajaaGreatDoor.ow (infoStr)
open Go.Proofs.YtapkfajgphkajaaGreatDoor.rc (Free SeqCur After wpIn_rangeCur)
attribute [local go_sem] Oper.semAt_some

/-- a list of the call's own, its block beyond the call's first eight -/
def OwnB (w W : World) (v : Value) (xs : List (List UInt8)) : Prop := W.ownsRow (w.heap.size + 8) 9 1 v (recV xs).length (recV xs) ∧ Below w.heap.size w W
theorem OwnB.lt {w W : World} {v : Value} {xs : List (List UInt8)} (h : OwnB w W v xs) {g : Nat} (hg : v.ownBlock = some g) : w.heap.size + 8 ≤ g ∧ g < W.heap.size := h.1.lt g hg
theorem OwnB.own {w W : World} {v : Value} {xs : List (List UInt8)} (h : OwnB w W v xs) : ow.Own 9 w W v (recV xs) := by
  refine ⟨⟨h.1.1, ?_⟩, h.2⟩
  rcases h.1.2 with h' | ⟨g, cap, cur, h1, h2, h3⟩
  · exact .inl h'
  · exact .inr ⟨g, cap, cur, h1, by omega, h3⟩
/-- between two rounds -/
def Mid (w : World) (b : Nat) (pre : List Step) (W : World) : Prop :=
  ∃ v xs, pre = xs.map Sum.inl ∧ OwnB w W v xs ∧ Blk W b 30 #[.slice none 0 0] ∧ Blk W (b + 1) 3 #[.int .i64 0] ∧ Blk W (b + 1 + 1) 30 #[v] ∧ Blk W (b + 1 + 1 + 1) 51 #[.int .i64 0]
/-- behind a round that returned -/
def Out (w : World) (b : Nat) (pre : List Step) (W : World) : Prop :=
  ∃ v xs k, pre = xs.map Sum.inl ++ [.inr k] ∧ OwnB w W v xs ∧ Blk W b 30 #[v] ∧ Blk W (b + 1) 3 #[.int .i64 (k : Nat)]

theorem blk_grownC {A B : World} {r g : Nat} {t : TypeId} {cs : Array Value} (h : Blk A g t cs) (hg : A.grownBy B (some r)) (hne : g ≠ r) : Blk B g t cs := (hg.block g h.lt (fun e => hne (Option.some.inj e))).trans h
theorem ownB_grownC {w A B : World} {r : Nat} {v : Value} {xs : List (List UInt8)} (h : OwnB w A v xs) (hg : A.grownBy B (some r)) (hr : r < w.heap.size + 8) (hw : w.heap.size ≤ r) : OwnB w B v xs := by
  refine ⟨h.1.kept hg ?_, h.2.grown hg h.2.size (fun k e => by cases e; exact hw)⟩
  cases hv : v.ownBlock with
  | none => exact .inl rfl
  | some g => exact .inr (by have := (h.lt hv).1; intro e; cases e; omega)
/-- an append, and the store of what it gives into the variable's box -/
theorem ownB_more {w W w1 : World} {v v' : Value} {xs : List (List UInt8)} {x : List UInt8} {tmp : Obj} {B n : Nat} {T : TypeId} (h : OwnB w W v xs) (hB0 : w.heap.size ≤ B) (hB : B < w.heap.size + 8) (hsz : w.heap.size + 7 < W.heap.size)
    (hb : Blk W B T #[v]) (ho : w1.ownsRow (w.heap.size + 8) 9 1 v' n (recV xs ++ [.string (str x)])) (hg : (W.alloc tmp).grownBy w1 v.ownBlock) :
    Blk w1 B T #[v] ∧ KeepsOthers W (w1.setCell ⟨B, 0, none⟩ v') ∧ Below w.heap.size W (w1.setCell ⟨B, 0, none⟩ v') ∧ (∀ k, k < w.heap.size + 8 → k ≠ B → (w1.setCell ⟨B, 0, none⟩ v').heap[k]? = W.heap[k]?) ∧
      OwnB w (w1.setCell ⟨B, 0, none⟩ v') v' (xs ++ [x]) := by
  have hne : ∀ k, k < w.heap.size + 8 → some k ≠ v.ownBlock := fun k hk e => by have := (h.lt e.symm).1; omega
  have hs1 : (W.alloc tmp).heap.size = W.heap.size + 1 := by simp
  have same : ∀ k, k < w.heap.size + 8 → w1.heap[k]? = W.heap[k]? := fun k hk =>
    (hg.block k (by omega) (hne k hk)).trans (Below.heap_alloc W tmp k (by omega))
  have hb1 : Blk w1 B T #[v] := (same B hB).trans hb
  have hbel : Below w.heap.size W (w1.setCell ⟨B, 0, none⟩ v') := by
    refine (((Below.refl w.heap.size W).alloc (by omega) tmp).grown hg (by omega) fun j ej => ?_).setCell (p := ⟨B, 0, none⟩) hB0 v'
    have := (h.lt ej).1
    omega
  refine ⟨hb1, ?_, hbel, fun k hk hkB => (Below.heap_setCell w1 ⟨B, 0, none⟩ v' k hkB).trans (same k hk), ?_, h.2.trans hbel⟩
  · refine ((KeepsOthers.alloc W tmp).trans (KeepsOthers.of_grownBy hg fun j o ej hj => ?_)).trans (KeepsOthers.setCell _ _ _)
    rcases (h.1.alloc tmp).2 with ⟨rfl, _⟩ | ⟨g, cap, cur, rfl, _, hgb, _⟩
    · simp [Value.ownBlock] at ej
    · obtain rfl : g = j := by simpa [Value.ownBlock] using ej
      rw [hgb] at hj; cases hj; rfl
  · have e : n = (recV (xs ++ [x])).length := by have := ho.1; rw [recV_snoc]; omega
    subst e
    have ho' := ho
    rw [← recV_snoc] at ho'
    refine ho'.kept (row := some B) (grownBy_setCell' w1 B v') ?_
    cases hv : v'.ownBlock with
    | none => exact .inl rfl
    | some g => exact .inr (by have := (ho.lt g hv).1; intro e; cases e; omega)
theorem mid_free (w : World) (r : Nat) (h1 : w.heap.size + 5 ≤ r) (h2 : r ≤ w.heap.size + 5 + 2) : Free r (Mid w w.heap.size) := by
  rintro pre A B ⟨v, xs, e, ho, b0, b1, b2, b3⟩ hg
  exact ⟨v, xs, e, ownB_grownC ho hg (by omega) (by omega), blk_grownC b0 hg (by omega), blk_grownC b1 hg (by omega), blk_grownC b2 hg (by omega), blk_grownC b3 hg (by omega)⟩
theorem out_free (w : World) (r : Nat) (h1 : w.heap.size + 5 ≤ r) (h2 : r ≤ w.heap.size + 5 + 2) : Free r (Out w w.heap.size) := by
  rintro pre A B ⟨v, xs, k, e, ho, b0, b1⟩ hg
  exact ⟨v, xs, k, e, ownB_grownC ho hg (by omega) (by omega), blk_grownC b0 hg (by omega), blk_grownC b1 hg (by omega)⟩

theorem full_inl {l : List UInt8} {xs : List (List UInt8)} (h : full l = xs.map Sum.inl) : rd l = xs ∧ en l = l.length := by
  unfold full at h
  by_cases hlt : en l < l.length
  · rw [if_pos hlt] at h
    have : (Sum.inr (en l) : Step) ∈ xs.map Sum.inl := by rw [← h]; simp
    simp at this
  · rw [if_neg hlt, List.append_nil] at h
    refine ⟨?_, by have := en_le l; omega⟩
    exact (List.map_inj_right (f := (Sum.inl : List UInt8 → Step)) (fun a b e => Sum.inl.inj e)).1 h
theorem full_inr {l : List UInt8} {xs : List (List UInt8)} {k : Nat} (h : (xs.map Sum.inl ++ [.inr k] : List Step) <+: full l) : rd l = xs ∧ en l = k := by
  obtain ⟨c, hc⟩ := h
  unfold full at hc
  by_cases hlt : en l < l.length
  · rw [if_pos hlt] at hc
    have key : ∀ (a b : List (List UInt8)) (c : List Step) (k m : Nat), (a.map Sum.inl ++ [.inr k]) ++ c = (b.map Sum.inl ++ [.inr m] : List Step) → b = a ∧ m = k := by
      intro a
      induction a with
      | nil =>
        intro b c k m e
        cases b with
        | nil => simp at e; exact ⟨rfl, e.1.symm⟩
        | cons y b => simp at e
      | cons y a ih =>
        intro b c k m e
        cases b with
        | nil => simp at e
        | cons z b =>
          simp only [List.map_cons, List.cons_append, List.cons.injEq, Sum.inl.injEq] at e
          obtain ⟨h1, h2⟩ := ih b c k m e.2
          exact ⟨by rw [e.1, h1], h2⟩
    exact key xs (rd l) c k (en l) hc
  · rw [if_neg hlt, List.append_nil] at hc
    have : (Sum.inr k : Step) ∈ (rd l).map Sum.inl := by rw [← hc]; simp
    simp at this
theorem put_own {w W : World} {v : Value} {xs : List Value} {T : TypeId} (h : ow.Own T w W v xs) (D : Nat) {ds : Option (List Deferred)} {o' : Obj} (hD : W.heap[D]? = some (.deferred ds)) (hw : w.heap.size ≤ D) : ow.Own T w (W.putObj D o') v xs :=
  ⟨ownsRow_putObj h.1 _ hD rfl, h.2.trans ((Below.refl w.heap.size W).grown (grownBy_putObj' W D o') h.2.size (fun k e => by cases e; exact hw))⟩
theorem keeps_drew {A B : World} (h : KeepsOthers A B) : KeepsOthers A B.drew := ⟨h.size, h.same⟩
theorem out_drew {w Y : World} {b : Nat} {pre : List Step} (h : Out w b pre Y) : Out w b pre Y.drew := by
  obtain ⟨v, xs, k, e, ho, h0, h1⟩ := h
  exact ⟨v, xs, k, e, ⟨ho.1, ho.2.drew⟩, h0, h1⟩
/-- the two results are stored -/
theorem put_two {w W V : World} {v x y : Value} {xs : List (List UInt8)} {r : Nat} {k : Nat} {T0 T1 : TypeId} (hO : OwnB w W v xs) (hk : KeepsOthers W V) (hg : W.grownBy V (some r)) (hr0 : w.heap.size ≤ r) (hr : r < w.heap.size + 8)
    (n0 : Blk V w.heap.size T0 #[x]) (n1 : Blk V (w.heap.size + 1) T1 #[y]) :
    KeepsOthers W ((V.setCell ⟨w.heap.size, 0, none⟩ v).setCell ⟨w.heap.size + 1, 0, none⟩ (.int .i64 (k : Nat))) ∧
      OwnB w ((V.setCell ⟨w.heap.size, 0, none⟩ v).setCell ⟨w.heap.size + 1, 0, none⟩ (.int .i64 (k : Nat))) v xs ∧
      Blk ((V.setCell ⟨w.heap.size, 0, none⟩ v).setCell ⟨w.heap.size + 1, 0, none⟩ (.int .i64 (k : Nat))) w.heap.size T0 #[v] ∧
      Blk ((V.setCell ⟨w.heap.size, 0, none⟩ v).setCell ⟨w.heap.size + 1, 0, none⟩ (.int .i64 (k : Nat))) (w.heap.size + 1) T1 #[.int .i64 (k : Nat)] :=
  ⟨(hk.trans (KeepsOthers.setCell _ _ _)).trans (KeepsOthers.setCell _ _ _),
   ownB_grownC (ownB_grownC (ownB_grownC hO hg hr hr0) (grownBy_setCell' V w.heap.size v) (by omega) (by omega)) (grownBy_setCell' _ (w.heap.size + 1) _) (by omega) (by omega),
   (n0.put 0 v).far (p := ⟨w.heap.size + 1, 0, none⟩) (by simp) _, (n1.far (p := ⟨w.heap.size, 0, none⟩) (by simp) _).put 0 _⟩
theorem w4_same (W : World) (g : Nat) (n : Int) :
    KeepsOthers W ((W4 W ⟨g, 0, none⟩ n).setCell ⟨g, 0, none⟩ (.int .i64 n)) ∧ (∀ k, k < W.heap.size → k ≠ g → ((W4 W ⟨g, 0, none⟩ n).setCell ⟨g, 0, none⟩ (.int .i64 n)).heap[k]? = W.heap[k]?) ∧
      (∀ T x, Blk W g T #[x] → Blk ((W4 W ⟨g, 0, none⟩ n).setCell ⟨g, 0, none⟩ (.int .i64 n)) g T #[.int .i64 n]) ∧ W.grownBy ((W4 W ⟨g, 0, none⟩ n).setCell ⟨g, 0, none⟩ (.int .i64 n)) (some g) := by
  have hB : Below W.heap.size W (W4 W ⟨g, 0, none⟩ n) := ((((Below.refl _ W).alloc (Nat.le_refl _) _).alloc (by simp) _).alloc (by simp; omega) _).alloc (by simp; omega) _
  exact ⟨(((((KeepsOthers.alloc _ _).trans (KeepsOthers.alloc _ _)).trans (KeepsOthers.alloc _ _)).trans (KeepsOthers.alloc _ _))).trans (KeepsOthers.setCell _ _ _), fun k hk hne => (Below.heap_setCell _ ⟨g, 0, none⟩ _ k hne).trans (hB.block k hk), fun T x h => (h.below hB h.lt).put 0 (.int .i64 n), grown_setC (below_grownC hB g) 0 _⟩

set_option maxRecDepth 100000 in
set_option maxHeartbeats 4000000 in
theorem iread_any (s : ByteArray) (hs : s.size ≤ 8388608) (w : World) (hT : Tab w) (hE : Errs w) (hA : ErrT w) :
    Calls Tryz.prog 13 #[.string s] w (ReadPost w s.data.toList) := by
  obtain ⟨s0, si, sz0, sz1, sz2⟩ := info_parts infoStr
  refine (callsIn_wide (n := 3)).1 ?_
  refine callsIn_of_wp_marks Tryz.func13 rfl trivial ?_ rfl
  simp only [Tryz.ntmps13, List.size_toArray, List.length_cons, List.length_nil, Nat.reduceAdd, Nat.reduceSub, Array.replicate_succ, Array.replicate_zero, List.push_toArray, List.append_toArray, List.nil_append, List.cons_append]
  gi_wp2_with fail
  refine ⟨trivial, (callsIn_wide.2 (each_any s _)).mono ?_⟩
  rintro e w1 ⟨rfl, rfl⟩
  gi_wp2
  have hW0s : (((((w.alloc (.cells #[.slice none 0 0] 30)).alloc (.cells #[.int .i64 0] 3)).alloc (.cells #[.slice none 0 0] 30)).alloc (.cells #[.int .i64 0] 51)).alloc (.cells #[.string s] 9)).heap.size = w.heap.size + 5 := by simp
  have hW0 : Mid w w.heap.size [] (((((w.alloc (.cells #[.slice none 0 0] 30)).alloc (.cells #[.int .i64 0] 3)).alloc (.cells #[.slice none 0 0] 30)).alloc (.cells #[.int .i64 0] 51)).alloc (.cells #[.string s] 9)) := by
    have k0 := Blk.new w 30 #[.slice none 0 0]
    have k1 := Blk.new (w.alloc (.cells #[.slice none 0 0] 30)) 3 #[.int .i64 0]
    have k2 := Blk.new ((w.alloc (.cells #[.slice none 0 0] 30)).alloc (.cells #[.int .i64 0] 3)) 30 #[.slice none 0 0]
    have k3 := Blk.new (((w.alloc (.cells #[.slice none 0 0] 30)).alloc (.cells #[.int .i64 0] 3)).alloc (.cells #[.slice none 0 0] 30)) 51 #[.int .i64 0]
    simp only [World.size_alloc] at k1 k2 k3
    exact ⟨.slice none 0 0, [], rfl, ⟨World.ownsRow_nil _ _ _ _, (((((Below.refl _ w).alloc (Nat.le_refl _) _).alloc (by simp) _).alloc (by simp; omega) _).alloc (by simp; omega) _).alloc (by simp; omega) _⟩,
      (((k0.alloc _).alloc _).alloc _).alloc _, ((k1.alloc _).alloc _).alloc _, (k2.alloc _).alloc _, k3.alloc _⟩
  have hW0b : Blk (((((w.alloc (.cells #[.slice none 0 0] 30)).alloc (.cells #[.int .i64 0] 3)).alloc (.cells #[.slice none 0 0] 30)).alloc (.cells #[.int .i64 0] 51)).alloc (.cells #[.string s] 9)) (w.heap.size + 1 + 1 + 1 + 1) 9 #[.string s] := by
    have k4 := Blk.new ((((w.alloc (.cells #[.slice none 0 0] 30)).alloc (.cells #[.int .i64 0] 3)).alloc (.cells #[.slice none 0 0] 30)).alloc (.cells #[.int .i64 0] 51)) 9 #[.string s]
    simp only [World.size_alloc] at k4
    exact k4
  generalize (((((w.alloc (.cells #[.slice none 0 0] 30)).alloc (.cells #[.int .i64 0] 3)).alloc (.cells #[.slice none 0 0] 30)).alloc (.cells #[.int .i64 0] 51)).alloc (.cells #[.string s] 9)) = W0 at hW0s hW0 hW0b ⊢
  have hWB : Below w.heap.size w W0 := by obtain ⟨_, _, _, h, _⟩ := hW0; exact h.2
  refine wpIn_rangeCur (F := Fence.wide) (n := 3) rfl (by omega) (gf := 45) (lb := #[.pointer (some ⟨w.heap.size + 1 + 1 + 1 + 1, 0, none⟩)]) rfl trivial (enters_of Tryz.func45 (by kernel_rfl) rfl)
    (encs := stepV) (Kp := Kept (w.heap.size + 1 + 1 + 1 + 1) w.heap.size) (S := fun xs => xs = full s.data.toList) (Sp := fun pre => pre <+: full s.data.toList) (N := (full s.data.toList).length)
    (fun V hV hVs => each1_in 2 w V (w.heap.size + 1 + 1 + 1 + 1) s hs (hW0b.below hV hW0b.lt) (hWB.trans (hV.mono hWB.size)) hT hE)
    (fun h k => ⟨h.1.trans k.1, k.2.1.trans h.2.1, k.2.2.trans h.2.2⟩)
    (fun V l o hl hl' => ⟨⟨rfl, rfl, rfl, by simp, fun k hk => World.putObj_heap_other (by omega)⟩, World.putObj_heap_other (by omega), World.putObj_heap_other (by omega)⟩)
    (fun x => rfl)
    (Mid w w.heap.size) (Out w w.heap.size) (fun r h1 h2 => mid_free w r (by omega) (by omega)) (fun r h1 h2 => out_free w r (by omega) (by omega)) hW0
    (fun x => { tmps := #[.string s, undef, .pointer (some ⟨w.heap.size, 0, none⟩), .pointer (some ⟨w.heap.size + 1, 0, none⟩), .pointer (some ⟨w.heap.size + 1 + 1, 0, none⟩), .pointer (some ⟨w.heap.size + 1 + 1 + 1, 0, none⟩), stepR x, stepE x, .string s, .func (.func 45) #[] #[.pointer (some ⟨w.heap.size + 1 + 1 + 1 + 1, 0, none⟩)], stepR x, stepE x, undef, undef, undef, undef, undef, undef, undef, undef, undef, undef, undef, undef, undef], defers := [] }) ?assign ?body ?done ?stop
  case assign =>
    intro l x W K hK
    unfold stepV
    gi_wp2
    exact hK
  case body =>
    rintro l pre x W ⟨v, xs, rfl, hO, k0, k1, k2, k3⟩ hlen hsz
    cases x with
    | inl x =>
      dsimp only [stepR, stepE]
      have hxl : (recV xs).length + 1 ≤ 4194304 := by
        rw [recV_len]
        have h1 : (full s.data.toList).length ≤ (rd s.data.toList).length + 1 := by unfold full; rw [List.length_append, List.length_map]; split <;> simp
        have h2 := lg_count (rd_spec s.data.toList).1
        have h3 := en_le s.data.toList
        unfold en at h3
        rw [← Lib.size_eq] at h3
        rw [List.length_map] at hlen
        omega
      have hc2 := k2.cell 0
      simp only [List.getElem?_toArray, List.getElem?_cons_zero] at hc2
      gi_wp2_with fail
      refine ⟨trivial, (CallsIn.inRound l (callsIn_wide.2 (as_nil _ _))).mono ?_⟩
      rintro e w2 ⟨rfl, rfl⟩
      gi_wp2_with (gi_at_builtin; refine wpListIn_append_own _ rfl _ _ 30 rfl (w.heap.size + 8) 9 s0 (.string ⟨#[]⟩) 1 16 Tryz.underlying30 si sz0 sz1 sz2 rfl (by decide) _ _ _ rfl (hO.1.alloc _) ⟨w2.heap.size, 0, none⟩ 1 1 [.string (str x)] rfl rfl (cell_one_new _ _ _) (by simp [Value.oneCell']) (by unfold maxLen; omega) (by omega) (by simp; omega) ?_)
      intro v' w1 hown' hgrow _
      obtain ⟨g', cap', rfl⟩ := ownsRow_succ hown'
      obtain ⟨m1, m2, m3, m4, m5⟩ := ownB_more hO (by omega) (by omega) (by omega) k2 hown' hgrow
      have hc3 := m1.cell 0
      have hf3 := m1.frozen 0
      simp only [List.getElem?_toArray, List.getElem?_cons_zero] at hc3
      gi_wp2
      exact ⟨m2, ⟨m3, m4 _ (by omega) (by omega), m4 _ (by omega) (by omega)⟩, _, xs ++ [x], by simp, m5, (m4 _ (by omega) (by omega)).trans k0, (m4 _ (by omega) (by omega)).trans k1, m1.put 0 _, (m4 _ (by omega) (by omega)).trans k3⟩
    | inr k =>
      dsimp only [stepR, stepE]
      unfold errV
      have hc3 := k3.cell 0
      simp only [List.getElem?_toArray, List.getElem?_cons_zero] at hc3
      have HH := Lib.hid (as_hit (k : Int) ⟨w.heap.size + 1 + 1 + 1, 0, none⟩ _ W (hA.later hO.2) hc3 (k3.frozen 0))
      have HV := Lib.hid (w4_same W (w.heap.size + 1 + 1 + 1) (k : Int))
      clear hc3
      gi_wp2_with fail
      refine ⟨trivial, (CallsIn.inRound l (callsIn_wide.2 HH.out)).mono ?_⟩
      rintro e V ⟨rfl, hVe⟩
      have hV := HV.out
      rw [← hVe] at hV
      obtain ⟨v1, v2, v3, v4⟩ := hV
      have n0 : Blk V w.heap.size 30 #[.slice none 0 0] := (v2 _ (by omega) (by omega)).trans k0
      have n1 : Blk V (w.heap.size + 1) 3 #[.int .i64 0] := (v2 _ (by omega) (by omega)).trans k1
      have n2 : Blk V (w.heap.size + 1 + 1) 30 #[v] := (v2 _ (by omega) (by omega)).trans k2
      have n3 : Blk V (w.heap.size + 1 + 1 + 1) 51 #[.int .i64 k] := v3 _ _ k3
      have c0 := n0.cell 0
      have c1 := n1.cell 0
      have c2 := n2.cell 0
      have c3 := n3.cell 0
      simp only [List.getElem?_toArray, List.getElem?_cons_zero] at c0 c1 c2 c3
      have f0 := n0.frozen 0
      have f1 := n1.frozen 0
      clear hVe HH HV
      obtain ⟨A, cp, rfl, _⟩ := hO.own.form
      have R := Lib.hid (put_two (k := k) hO v1 v4 (by omega) (by omega) n0 n1)
      clear v1 v2 v3 v4 n0 n1 n2 n3 k0 k1 k2 k3 hO
      gi_wp2
      gi_region
      all_goals gi_wp2
      all_goals exact ⟨keeps_drew R.out.1, out_drew ⟨_, xs, k, rfl, R.out.2.1, R.out.2.2.1, R.out.2.2.2⟩⟩
  case done =>
    rintro D ys W hD rfl ⟨v, xs, he, hO, k0, k1, k2, k3⟩ hK
    obtain ⟨hr, hn⟩ := full_inl he
    have HR := Lib.hid hr
    have HN := Lib.hid hn
    have c2 := k2.cell 0
    have c0 := k0.cell 0
    have c1 := k1.cell 0
    simp only [List.getElem?_toArray, List.getElem?_cons_zero] at c0 c1 c2
    have f0 := k0.frozen 0
    have f1 := k1.frozen 0
    obtain ⟨A, cp, rfl, _⟩ := hO.own.form
    clear he hr hn
    gi_wp2
    have hK' := (KeepsOthers.setCell _ ⟨w.heap.size + 1, 0, none⟩ (.int .i64 (s.size : Nat))).same D _ ((KeepsOthers.setCell W ⟨w.heap.size, 0, none⟩ (.slice A (recV xs).length cp)).same D _ hK rfl) rfl
    refine ⟨by simp, .inl ⟨_, _, rfl, run_takeDeferred hK', ?_⟩⟩
    obtain ⟨_, hO', g0, g1⟩ := put_two (k := s.size) hO (KeepsOthers.refl W) (World.grownBy.refl W (some w.heap.size)) (Nat.le_refl _) (by omega) k0 k1
    have hne0 : w.heap.size ≠ D := by omega
    have hne1 : w.heap.size + 1 ≠ D := by omega
    have d0 := (show Blk _ w.heap.size 30 _ from (World.putObj_heap_other (o := .deferred none) hne0).trans g0).cell 0
    have d1 := (show Blk _ (w.heap.size + 1) 3 _ from (World.putObj_heap_other (o := .deferred none) hne1).trans g1).cell 0
    simp only [List.getElem?_toArray, List.getElem?_cons_zero] at d0 d1
    refine ⟨.tuple #[.slice A (recV xs).length cp, .int .i64 (s.size : Nat)], by simp [results, Tryz.results13, go_sem, d0, d1], _, by rw [HN.out, ← Lib.size_eq], ?_⟩
    rw [HR.out]
    exact put_own hO'.own D hK' (by omega)
  case stop =>
    rintro D pre W hD hpre ⟨v, xs, k, rfl, hO, k0, k1⟩ hK
    obtain ⟨hr, hn⟩ := full_inr hpre
    have HR := Lib.hid hr
    have HN := Lib.hid hn
    clear hr hn
    gi_wp2
    refine ⟨by simp, .inl ⟨_, _, rfl, run_takeDeferred hK, ?_⟩⟩
    have hne0 : w.heap.size ≠ D := by omega
    have hne1 : w.heap.size + 1 ≠ D := by omega
    have g0 : Blk (W.putObj D (.deferred none)) w.heap.size 30 #[v] := (World.putObj_heap_other hne0).trans k0
    have g1 : Blk (W.putObj D (.deferred none)) (w.heap.size + 1) 3 #[.int .i64 (k : Nat)] := (World.putObj_heap_other hne1).trans k1
    have d0 := g0.cell 0
    have d1 := g1.cell 0
    simp only [List.getElem?_toArray, List.getElem?_cons_zero] at d0 d1
    refine ⟨.tuple #[v, .int .i64 (k : Nat)], by simp [results, Tryz.results13, go_sem, d0, d1], v, by rw [HN.out], ?_⟩
    rw [HR.out]
    exact put_own hO.own D hK (by omega)
end Go.Proofs.YtapkfajgphkajaaGreatDoor.sh
