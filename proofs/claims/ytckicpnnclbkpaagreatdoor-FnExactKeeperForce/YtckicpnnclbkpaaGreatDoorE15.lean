/-
  Merged texts: IInsM, IInsN.
-/
import Derived.Test.YtckicpnnclbkpaaGreatDoorE14
import Derived.Laws.Externs
namespace Go.Proofs.YtckicpnnclbkpaaGreatDoor.kp
open Go.ChangeShapes Go.WideShapes Go.ChangeAt Go.RowKit
open wd ow rl ok nb
def MutM (B : Nat) (W : World) (v : Value) (l : List Mk) (e : Ending) (w' : World) : Prop := ∃ v', e = .returned v' ∧ OwnAt mkS 108 B w' v' l ∧ W.grownBy w' v.ownBlock ∧ From W v' v
theorem from_at {W : World} {v v' : Value} (h : v'.ownBlock = v.ownBlock ∨ v'.ownBlock = some W.heap.size) : From W v' v := fun g hg => by
 rcases h with h | h
 ·exact .inr (h.symm.trans hg)
 ·rw [h] at hg
  injection hg with hg
  exact .inl (by omega)
set_option maxRecDepth 100000 in
theorem insM_end (W : World) (B : Nat) (v : Value) (l : List Mk) (x : Mk) (vb : Nat) (h : OwnAt mkS 108 B W v l) (hB : B ≤ W.heap.size) (hl : l.length ≤ 1048576) (hx : Blk W vb 108 #[.int .i64 x.f, .int .i64 x.n, .int .i64 x.u]) :
  Calls Tryz.prog 202 #[v, .int .i64 l.length, .slice (some ⟨vb, 0, none⟩) 1 1] W (MutM B W v (l ++ [x])) := by
 obtain ⟨j0, hj, hy0, hy1, hy2⟩ := info_parts infoMark
 have hro := ownAt_room h
 have hP : ∀ j u, (mkF x)[j]? = some u → W.cell? ((⟨vb, 0, none⟩ : Addr).add j) = some u := fun j u hu => by
  rw [Addr.add_lit, Nat.zero_add, hx.cell j]
  simpa [mkF] using hu
 have hP1 : ∀ u ∈ mkF x, u.oneCell' = true := fun u hu => (mkS).one x u hu
 have HO := Lib.hid h
 obtain ⟨A, c, rfl⟩ := OwnAt.form h
 obtain ⟨_, _, _, e, hr1, hr2⟩ := hro
 injection e with e1 e2 e3
 subst e1; subst e2; subst e3
 unfold maxLen at hr2
 have hn0 : (0 : Int) ≤ (l.length : Int) := by omega
 have hn1 : (l.length : Int) ≤ (c : Int) := by omega
 clear h hx
 cases A with
 | none =>
  go_enter Tryz.func202, Tryz.ntmps202
  go_wp2_with (at_builtin; refine wpList_append_own_at _ rfl _ _ 37 rfl B 108 j0 _ 3 24 Tryz.underlying37 hj hy0 hy1 hy2 rfl (by decide) _ l.length (l.flatMap (mkS).f) rfl HO.out ⟨vb, 0, none⟩ 1 1 (mkF x) rfl rfl hP hP1 ?e3 ?e4 hB ?_)
  case e3 => (show l.length + 1 ≤ maxLen); unfold maxLen; omega
  case e4 => (show (l.length + 1) * 24 ≤ 140737488355328); omega
  intro v8 w8 hown hgrow _ hat
  have HR := Lib.hid (show OwnAt mkS 108 B w8 v8 (l ++ [x]) from OwnAt.grew (S := mkS) (l := l) (y := x) hown rfl)
  have HG := Lib.hid hgrow
  have HF := Lib.hid (from_at hat)
  clear hown hgrow hat
  go_wp2
  go_ret
  exact ⟨_, rfl, HR.out, HG.out, HF.out⟩
 | some ad =>
  obtain ⟨g, rfl⟩ : ∃ g, ad = ⟨g, 0, none⟩ := by
   rcases HO.out.2 with ⟨e, _⟩ | ⟨g, cap, cur, e, _⟩
   ·cases e
   ·injection e with e1
    injection e1 with e1
    exact ⟨g, e1⟩
  obtain ⟨AX, hAX⟩ : ∃ AX, (if c = l.length then (some ⟨g, 0, none⟩ : Option Addr) else some ⟨g, l.length * 3, none⟩) = AX := ⟨_, rfl⟩
  go_enter Tryz.func202, Tryz.ntmps202
  go_wp2_with (at_builtin; refine wpList_append_own_at _ rfl _ _ 37 rfl B 108 j0 _ 3 24 Tryz.underlying37 hj hy0 hy1 hy2 rfl (by decide) _ l.length (l.flatMap (mkS).f) rfl HO.out ⟨vb, 0, none⟩ 1 1 (mkF x) rfl rfl hP hP1 ?e3 ?e4 hB ?_)
  case e3 => (show l.length + 1 ≤ maxLen); unfold maxLen; omega
  case e4 => (show (l.length + 1) * 24 ≤ 140737488355328); omega
  intro v8 w8 hown hgrow _ hat
  have HR := Lib.hid (show OwnAt mkS 108 B w8 v8 (l ++ [x]) from OwnAt.grew (S := mkS) (l := l) (y := x) hown rfl)
  have HG := Lib.hid hgrow
  have HF := Lib.hid (from_at hat)
  clear hown hgrow hat
  go_wp2
  go_ret
  exact ⟨_, rfl, HR.out, HG.out, HF.out⟩
theorem one_cells {W : World} {vb : Nat} {x : Mk} (hx : Blk W vb 108 #[.int .i64 x.f, .int .i64 x.n, .int .i64 x.u]) : ∀ j u, (mkF x)[j]? = some u → W.cell? ⟨vb, j, none⟩ = some u := fun j u hu => by
 rw [hx.cell j]
 simpa [mkF] using hu
set_option maxRecDepth 100000 in
set_option maxHeartbeats 1600000 in
theorem insM_shift (W : World) (B g c : Nat) (l : List Mk) (p : Nat) (x : Mk) (vb : Nat) (h : OwnAt mkS 108 B W (.slice (some ⟨g, 0, none⟩) l.length c) l) (hl : l.length ≤ 1048576) (hp : p < l.length) (hroom : l.length + 1 ≤ c) (hx : Blk W vb 108 #[.int .i64 x.f, .int .i64 x.n, .int .i64 x.u]) (hvb : g ≠ vb) :
  Calls Tryz.prog 202 #[.slice (some ⟨g, 0, none⟩) l.length c, .int .i64 p, .slice (some ⟨vb, 0, none⟩) 1 1] W (MutM B W (.slice (some ⟨g, 0, none⟩) l.length c) (putAt l p x)) := by
 obtain ⟨j0, hj, hy0, hy1, hy2⟩ := info_parts infoMark
 obtain ⟨_, hBg, hlc, hcm, cur, hR, hcur⟩ := ownAt_row h
 have hcm' := hcm
 unfold maxLen at hcm'
 have hsz3 : (mkS).n = 3 := rfl
 have hcs : cur.size = c * 3 := hR.size
 have hdl : ((l.drop p).flatMap (mkS).f).length = (l.length - p) * 3 := by rw [flat_len (mkS).len, List.length_drop]; rfl
 have hdc : ∀ (V : World), Blk V g 108 cur → ∀ j u, ((l.drop p).flatMap (mkS).f)[j]? = some u → V.cell? ⟨g, p * 3 + j, none⟩ = some u := fun V hV j u hu => by
  obtain ⟨i, y, q, h1, h2, rfl⟩ := flat_get mkS _ j u hu
  rw [List.getElem?_drop] at h1
  have := row_at hcur h1 h2
  rw [hV.cell, show p * 3 + (i * (mkS).n + q) = (p + i) * (mkS).n + q by rw [hsz3, Nat.add_mul]; omega]
  exact this
 have hR1 : Row mkS 108 W.drew g c cur := ⟨hR.blk, hR.size⟩
 have hcp1 : ∀ ty dc sc, (Builtin.copy_ #[37, 37] ty #[.slice (some ⟨g, (p + 1) * 3, none⟩) (l.length - p) dc, .slice (some ⟨g, p * 3, none⟩) (l.length + 1 - p) sc]).run Tryz.prog W.drew = .ok (goInt ((l.length - p : Nat) : Int)) (putAll W.drew g ((p + 1) * 3) ((l.drop p).flatMap (mkS).f)) := fun ty dc sc =>
  run_copy_k W.drew _ _ ty 108 j0 g ((p + 1) * 3) (l.length - p) dc ⟨g, p * 3, none⟩ (l.length + 1 - p) sc (l.length - p) _ Tryz.underlying37 hj (by simp only [Nat.min_def]; split <;> omega) (by rw [hdl, hy1])
   (fun j u hu => by rw [Addr.add_lit]; exact hdc _ hR1.blk j u hu)
   (fun j hj' => (hR1.cell (by rw [hdl] at hj'; rw [hsz3]; omega)).1) (fun j hj' => hR1.blk.frozen _) (flat_ones mkS _)
 obtain ⟨cur1, hR2, hk1, hk2⟩ := hR1.put ((p + 1) * 3) ((l.drop p).flatMap (mkS).f)
 have hx1 : Blk (putAll W.drew g ((p + 1) * 3) ((l.drop p).flatMap (mkS).f)) vb 108 #[.int .i64 x.f, .int .i64 x.n, .int .i64 x.u] := by
  have hG := putAll_grown (W0 := W.drew) (W := W.drew) (g := g) (row := some g) ⟨rfl, rfl, rfl, Nat.le_refl _, fun _ _ _ => rfl⟩ (.inl rfl) ((p + 1) * 3) ((l.drop p).flatMap (mkS).f)
  exact (hG.block vb hx.lt (fun e => by injection e with e; exact hvb e.symm)).trans hx
 have hG1 : W.grownBy (putAll W.drew g ((p + 1) * 3) ((l.drop p).flatMap (mkS).f)) (some g) := putAll_grown (W0 := W) (W := W.drew) (g := g) (row := some g) ⟨rfl, rfl, rfl, Nat.le_refl _, fun _ _ _ => rfl⟩ (.inl rfl) _ _
 generalize putAll W.drew g ((p + 1) * 3) ((l.drop p).flatMap (mkS).f) = W1 at hcp1 hR2 hx1 hG1
 have hcp2 : ∀ ty dc, (Builtin.copy_ #[37, 37] ty #[.slice (some ⟨g, p * 3, none⟩) (l.length + 1 - p) dc, .slice (some ⟨vb, 0, none⟩) 1 1]).run Tryz.prog W1 = .ok (goInt 1) (putAll W1 g (p * 3) (mkF x)) := fun ty dc =>
  run_copy_k W1 _ _ ty 108 j0 g (p * 3) (l.length + 1 - p) dc ⟨vb, 0, none⟩ 1 1 1 (mkF x) Tryz.underlying37 hj (by simp only [Nat.min_def]; split <;> omega) (by rw [hy1]; rfl)
   (fun j u hu => by rw [Addr.add_lit, Nat.zero_add]; exact one_cells hx1 j u hu)
   (fun j hj' => (hR2.cell (by have : j < 3 := hj'; rw [hsz3]; omega)).1) (fun j hj' => hR2.blk.frozen _) (fun u hu => (mkS).one x u hu)
 obtain ⟨cur2, hR3, hk3, hk4⟩ := hR2.put (p * 3) (mkF x)
 have hG2 : W.grownBy (putAll W1 g (p * 3) (mkF x)) (some g) := putAll_grown hG1 (.inl rfl) _ _
 have HO := Lib.hid (show OwnAt mkS 108 B (putAll W1 g (p * 3) (mkF x)) (.slice (some ⟨g, 0, none⟩) (l.length + 1) c) (putAt l p x) from by
  have := ownAt_mk (l := putAt l p x) hR3 hBg (by rw [putAt_len (by omega)]; exact hroom) hcm (putAt_cells (by omega) hroom hR3.size
   (fun i y hi hy j u hu => by
    have hj' : j < 3 := by have := (List.getElem?_eq_some_iff.1 hu).1; rwa [(mkS).len] at this
    rw [hk3 _ (.inl (by rw [hsz3]; omega)), hk1 _ (.inl (by rw [hsz3]; omega))]
    exact row_at hcur hy hu)
   (fun j u hu => by
    rw [hsz3]
    exact hk4 (by show p * 3 + 3 ≤ c * (mkS).n; rw [hsz3]; omega) j u hu)
   (fun i y hi hy j u hu => by
    have hj' : j < 3 := by have := (List.getElem?_eq_some_iff.1 hu).1; rwa [(mkS).len] at this
    have hil : i < l.length := (List.getElem?_eq_some_iff.1 hy).1
    rw [hk3 _ (.inr (by show p * 3 + 3 ≤ _; rw [hsz3]; omega))]
    have hf : ((l.drop p).flatMap (mkS).f)[(i - p) * (mkS).n + j]? = some u := by
     rw [flat_at (mkS).len (l.drop p) (i - p) y (by rw [List.getElem?_drop, show p + (i - p) = i by omega]; exact hy) j hj']
     exact hu
    have := hk2 (by rw [hdl, hsz3]; omega) _ _ hf
    rw [show (i + 1) * (mkS).n + j = (p + 1) * 3 + ((i - p) * (mkS).n + j) by rw [hsz3]; omega]
    exact this))
  rw [putAt_len (by omega)] at this
  exact this)
 have HG := Lib.hid hG2
 have hov : ∀ lb cb, (callFunc 220 #[.slice (some ⟨vb, 0, none⟩) 1 1, .slice (some ⟨g, (p + 1) * 3, none⟩) lb cb]).run Tryz.prog W = .ok (.value (.bool false)) W := fun lb cb => by
  have hsa : W.shape? vb = some (108, 3) := by unfold World.shape?; rw [show W.heap[vb]? = _ from hx]; rfl
  have hsb : W.shape? g = some (108, cur.size) := by unfold World.shape?; rw [show W.heap[g]? = _ from hR.blk]
  rw [run_callFunc_extern Tryz.func220 (by kernel_rfl) (by kernel_rfl) (by kernel_rfl) (e := Extern.SlicesOverlaps.overlaps #[37, 37] #[4]) (by kernel_rfl),
   Lib.run_overlaps_apart W 37 4 108 Tryz.underlying37 3 (fun w => by simp [Go.sizeOf, typeInfo, hj, hy1]) ⟨vb, 0, none⟩ ⟨g, (p + 1) * 3, none⟩ 1 1 lb cb (fun e => hvb e.symm) _ _ _ _ hsa hsb (by omega) (hx.frozen 0) (hx.frozen 3)]
  rfl
 have hz2 : ¬ ((p : Int) = (l.length : Int)) := by omega
 have hw1 : IntKind.i64.wrap ((p : Int) + 1) = (p : Int) + 1 := by rw [IntKind.wrap_i64]; omega
 have hw2 : IntKind.i64.wrap ((l.length : Int) + 1) = (l.length : Int) + 1 := by rw [IntKind.wrap_i64]; omega
 have hb1 : (0 : Int) ≤ (p : Int) + 1 := by omega
 have hb2 : ¬ (c = p + 1) := by omega
 have hb3 : (p : Int) ≤ (l.length : Int) := by omega
 have hb4 : ¬ (c = p) := by omega
 have hb5 : (p : Int) ≤ (l.length : Int) + 1 := by omega
 have hb6 : (p : Int) + 1 ≤ (l.length : Int) + 1 := by omega
 have hb7 : (l.length : Int) + 1 ≤ (c : Int) := by omega
 have hb8 : ¬ ((c : Int) < (l.length : Int) + 1) := by omega
 have hb9 : (l.length : Int) ≤ (c : Int) := by omega
 have hb0 : (0 : Int) ≤ (l.length : Int) + 1 := by omega
 clear h hR hR1 hR2 hR3 hcur hk1 hk2 hk3 hk4 hx hx1 hdc hdl hG1 hG2 hcs
 go_enter Tryz.func202, Tryz.ntmps202
 go_wp2_with (simp only [hov])
 go_region_law (refine step_copy_run rfl _ _ 37 37 rfl _ _ (by simp [Act.eval, Act.put]) (by simp [Act.eval, Act.put]) (hcp1 _ _ _) ?_)
 go_wp2_with (at_builtin; refine wpList_copy_run rfl _ _ 37 37 rfl _ _ rfl rfl (hcp2 _ _) ?_)
 go_ret
 exact ⟨_, rfl, HO.out, HG.out, fun q hq => .inr hq⟩
theorem zeroCells_size (z : Array Value) (n : Nat) : (Builtin.zeroCells z n).size = n * z.size := by
 have h : ∀ m, (Builtin.zeroCells z m).size = m * z.size := by
  intro m
  simp [Builtin.zeroCells]
 exact h n
set_option maxRecDepth 100000 in
set_option maxHeartbeats 1600000 in
theorem insM_grow (W : World) (B g c : Nat) (l : List Mk) (p : Nat) (x : Mk) (vb : Nat) (h : OwnAt mkS 108 B W (.slice (some ⟨g, 0, none⟩) l.length c) l) (hBW : B ≤ W.heap.size) (hl : l.length ≤ 1048576) (hp : p < l.length) (hroom : c < l.length + 1) (hx : Blk W vb 108 #[.int .i64 x.f, .int .i64 x.n, .int .i64 x.u]) :
  Calls Tryz.prog 202 #[.slice (some ⟨g, 0, none⟩) l.length c, .int .i64 p, .slice (some ⟨vb, 0, none⟩) 1 1] W (MutM B W (.slice (some ⟨g, 0, none⟩) l.length c) (putAt l p x)) := by
 obtain ⟨j0, hj, hy0, hy1, hy2⟩ := info_parts infoMark
 obtain ⟨_, hBg, hlc, hcm, cur, hR, hcur⟩ := ownAt_row h
 have hsz3 : (mkS).n = 3 := rfl
 have htl : ((l.take p).flatMap (mkS).f).length = p * 3 := by rw [flat_len (mkS).len, List.length_take, Nat.min_eq_left (by omega)]; rfl
 have hold : (Builtin.firstCells j0.size p (.slice (some ⟨g, 0, none⟩) p c)).run Tryz.prog W.drew = .ok ((l.take p).flatMap (mkS).f).toArray W.drew := by
  refine run_firstCells_some (P := Tryz.prog) (w := W.drew) _ _ _ _ _ _ (by rw [htl, hy1]) fun j u hu => ?_
  obtain ⟨i, y, q, h1, h2, rfl⟩ := flat_get mkS _ j u hu
  rw [List.getElem?_take] at h1
  split at h1
  ·rw [Addr.add_lit, Nat.zero_add]
   have := row_at hcur h1 h2
   exact (hR.blk.cell _).trans this
  ·cases h1
 have hik : p + (l.length + 1 - p) = l.length + 1 := by omega
 have hkk : (l.length : Int) + 1 - (p : Int) = ((l.length + 1 - p : Nat) : Int) := by omega
 have hrz : ∀ ty, (Builtin.append_ #[37, 3] ty #[.slice (some ⟨g, 0, none⟩) p c, .int .i64 ((l.length : Int) + 1 - (p : Int))]).run Tryz.prog W =
   .ok (.slice (some ⟨W.heap.size, 0, none⟩) (l.length + 1) (grownCap W (l.length + 1) c 108)) (W.drew.alloc (.cells (((l.take p).flatMap (mkS).f).toArray ++ Builtin.zeroCells (Value.agg #[.int .i64 0, .int .i64 0, .int .i64 0]).cells (l.length + 1 - p) ++ Builtin.zeroCells (Value.agg #[.int .i64 0, .int .i64 0, .int .i64 0]).cells (grownCap W (l.length + 1) c 108 - (l.length + 1))) 108)) := fun ty => by
  have h := Lib.run_append_grow_zeros (P := Tryz.prog) W 37 3 ty 108 j0 _ .i64 .i64 Tryz.underlying37 Tryz.underlying3 hj hy0 (some ⟨g, 0, none⟩) p c _ hold (l.length + 1 - p) (by omega) (by omega) (by omega) (by omega) (by rw [hy2]; omega) (by rw [hy2, hik]; exact growslice_fits hroom (by omega))
  rw [hik] at h
  rw [hkk]
  exact h
 have hGn : l.length + 1 ≤ grownCap W (l.length + 1) c 108 := grownCap_ge W _ _ _
 have hGm : grownCap W (l.length + 1) c 108 ≤ maxLen := grownCap_le_maxLen W (l.length + 1) c _ (by unfold maxLen; omega)
 generalize grownCap W (l.length + 1) c 108 = G at hrz hGn hGm
 have hGm' := hGm
 unfold maxLen at hGm'
 have hrow : ∃ ROW : Array Value, ROW = ((l.take p).flatMap (mkS).f).toArray ++ Builtin.zeroCells (Value.agg #[.int .i64 0, .int .i64 0, .int .i64 0]).cells (l.length + 1 - p) ++ Builtin.zeroCells (Value.agg #[.int .i64 0, .int .i64 0, .int .i64 0]).cells (G - (l.length + 1)) := ⟨_, rfl⟩
 obtain ⟨ROW, hROW⟩ := hrow
 rw [← hROW] at hrz
 have hRs : ROW.size = G * 3 := by
  rw [hROW, Array.size_append, Array.size_append, zeroCells_size, zeroCells_size, List.size_toArray, htl]
  show p * 3 + (l.length + 1 - p) * 3 + (G - (l.length + 1)) * 3 = G * 3
  omega
 have hRo : ∀ i y, i < p → l[i]? = some y → ∀ j u, ((mkS).f y)[j]? = some u → ROW[i * (mkS).n + j]? = some u := fun i y hi hy j u hu => by
  have hj' : j < 3 := by have := (List.getElem?_eq_some_iff.1 hu).1; rwa [(mkS).len] at this
  have hf := flat_at (mkS).len (l.take p) i y (by rw [List.getElem?_take, if_pos hi]; exact hy) j hj'
  rw [hu] at hf
  have hlt : i * (mkS).n + j < p * 3 := by rw [hsz3]; omega
  rw [hROW, Array.getElem?_append_left (by rw [Array.size_append, List.size_toArray, htl]; omega), Array.getElem?_append_left (by rw [List.size_toArray, htl]; omega), List.getElem?_toArray]
  exact hf
 have hR1 : Row mkS 108 (W.drew.alloc (.cells ROW 108)) W.heap.size G ROW := ⟨Blk.new W.drew _ _, hRs⟩
 have hg1 : Row mkS 108 (W.drew.alloc (.cells ROW 108)) g c cur := ⟨hR.blk.alloc _, hR.size⟩
 have hx1 : Blk (W.drew.alloc (.cells ROW 108)) vb 108 #[.int .i64 x.f, .int .i64 x.n, .int .i64 x.u] := Blk.alloc (w := W.drew) hx _
 have hG0 : W.grownBy (W.drew.alloc (.cells ROW 108)) (some g) := ⟨rfl, rfl, rfl, by simp, fun k hk _ => ((Below.refl W.drew.heap.size W.drew).alloc (Nat.le_refl _) (.cells ROW 108)).block k hk⟩
 have hgN : g < W.heap.size := hR.blk.lt
 have hvN : vb < W.heap.size := hx.lt
 generalize W.drew.alloc (.cells ROW 108) = W1 at hrz hR1 hx1 hG0 hg1
 have hcpA : ∀ ty dc, (Builtin.copy_ #[37, 37] ty #[.slice (some ⟨W.heap.size, p * 3, none⟩) (l.length + 1 - p) dc, .slice (some ⟨vb, 0, none⟩) 1 1]).run Tryz.prog W1 = .ok (goInt 1) (putAll W1 W.heap.size (p * 3) (mkF x)) := fun ty dc =>
  run_copy_k W1 _ _ ty 108 j0 W.heap.size (p * 3) (l.length + 1 - p) dc ⟨vb, 0, none⟩ 1 1 1 (mkF x) Tryz.underlying37 hj (by simp only [Nat.min_def]; split <;> omega) (by rw [hy1]; rfl)
   (fun j u hu => by rw [Addr.add_lit, Nat.zero_add]; exact one_cells hx1 j u hu)
   (fun j hj' => (hR1.cell (by have : j < 3 := hj'; rw [hsz3]; omega)).1) (fun j hj' => hR1.blk.frozen _) (fun u hu => (mkS).one x u hu)
 obtain ⟨cur1, hR2, hk1, hk2⟩ := hR1.put (p * 3) (mkF x)
 have hGa : W.grownBy (putAll W1 W.heap.size (p * 3) (mkF x)) (some g) := putAll_grown hG0 (.inr (Nat.le_refl _)) _ _
 have hg2 : Blk (putAll W1 W.heap.size (p * 3) (mkF x)) g 108 cur := by
  have hq := putAll_grown (W0 := W1) (W := W1) (g := W.heap.size) (row := some W.heap.size) ⟨rfl, rfl, rfl, Nat.le_refl _, fun _ _ _ => rfl⟩ (.inl rfl) (p * 3) (mkF x)
  exact (hq.block g hg1.blk.lt (fun e => by injection e with e; omega)).trans hg1.blk
 generalize putAll W1 W.heap.size (p * 3) (mkF x) = W2 at hcpA hR2 hGa hg2
 have hdl : ((l.drop p).flatMap (mkS).f).length = (l.length - p) * 3 := by rw [flat_len (mkS).len, List.length_drop]; rfl
 have hR2' : Row mkS 108 W2.drew W.heap.size G cur1 := ⟨hR2.blk, hR2.size⟩
 have hcpB : ∀ ty dc sc, (Builtin.copy_ #[37, 37] ty #[.slice (some ⟨W.heap.size, (p + 1) * 3, none⟩) (l.length - p) dc, .slice (some ⟨g, p * 3, none⟩) (l.length - p) sc]).run Tryz.prog W2.drew = .ok (goInt ((l.length - p : Nat) : Int)) (putAll W2.drew W.heap.size ((p + 1) * 3) ((l.drop p).flatMap (mkS).f)) := fun ty dc sc =>
  run_copy_k W2.drew _ _ ty 108 j0 W.heap.size ((p + 1) * 3) (l.length - p) dc ⟨g, p * 3, none⟩ (l.length - p) sc (l.length - p) _ Tryz.underlying37 hj (by simp only [Nat.min_def]; split <;> omega) (by rw [hdl, hy1])
   (fun j u hu => by
    rw [Addr.add_lit]
    obtain ⟨i, y, q, h1, h2, rfl⟩ := flat_get mkS _ j u hu
    rw [List.getElem?_drop] at h1
    have := row_at hcur h1 h2
    rw [show p * 3 + (i * (mkS).n + q) = (p + i) * (mkS).n + q by rw [hsz3, Nat.add_mul]; omega]
    exact (Blk.cell (w := W2.drew) hg2 _).trans this)
   (fun j hj' => (hR2'.cell (by rw [hdl] at hj'; rw [hsz3]; omega)).1) (fun j hj' => hR2'.blk.frozen _) (flat_ones mkS _)
 obtain ⟨cur2, hR3, hk3, hk4⟩ := hR2'.put ((p + 1) * 3) ((l.drop p).flatMap (mkS).f)
 have hGb : W.grownBy (putAll W2.drew W.heap.size ((p + 1) * 3) ((l.drop p).flatMap (mkS).f)) (some g) := putAll_grown (W := W2.drew) ⟨hGa.os, hGa.tape, hGa.output, hGa.size, hGa.block⟩ (.inr (Nat.le_refl _)) _ _
 generalize putAll W2.drew W.heap.size ((p + 1) * 3) ((l.drop p).flatMap (mkS).f) = W3 at hcpB hR3 hGb
 have HO := Lib.hid (show OwnAt mkS 108 B W3 (.slice (some ⟨W.heap.size, 0, none⟩) (l.length + 1) G) (putAt l p x) from by
  have := ownAt_mk (l := putAt l p x) hR3 hBW (by rw [putAt_len (by omega)]; exact hGn) hGm (putAt_cells (by omega) hGn hR3.size
   (fun i y hi hy j u hu => by
    have hj' : j < 3 := by have := (List.getElem?_eq_some_iff.1 hu).1; rwa [(mkS).len] at this
    rw [hk3 _ (.inl (by rw [hsz3]; omega)), hk1 _ (.inl (by rw [hsz3]; omega))]
    exact hRo i y hi hy j u hu)
   (fun j u hu => by
    have hj' : j < 3 := by have := (List.getElem?_eq_some_iff.1 hu).1; rwa [(mkS).len] at this
    rw [hsz3, hk3 _ (.inl (by omega))]
    exact hk2 (by show p * 3 + 3 ≤ G * (mkS).n; rw [hsz3]; omega) j u hu)
   (fun i y hi hy j u hu => by
    have hj' : j < 3 := by have := (List.getElem?_eq_some_iff.1 hu).1; rwa [(mkS).len] at this
    have hil : i < l.length := (List.getElem?_eq_some_iff.1 hy).1
    have hf : ((l.drop p).flatMap (mkS).f)[(i - p) * (mkS).n + j]? = some u := by
     rw [flat_at (mkS).len (l.drop p) (i - p) y (by rw [List.getElem?_drop, show p + (i - p) = i by omega]; exact hy) j hj']
     exact hu
    have := hk4 (by rw [hdl, hsz3]; omega) _ _ hf
    rw [show (i + 1) * (mkS).n + j = (p + 1) * 3 + ((i - p) * (mkS).n + j) by rw [hsz3]; omega]
    exact this))
  rw [putAt_len (by omega)] at this
  exact this)
 have HG := Lib.hid hGb
 have hz2 : ¬ ((p : Int) = (l.length : Int)) := by omega
 have hw1 : IntKind.i64.wrap ((p : Int) + 1) = (p : Int) + 1 := by rw [IntKind.wrap_i64]; omega
 have hw2 : IntKind.i64.wrap ((l.length : Int) + 1) = (l.length : Int) + 1 := by rw [IntKind.wrap_i64]; omega
 have hw3 : IntKind.i64.wrap ((l.length : Int) + 1 - (p : Int)) = (l.length : Int) + 1 - (p : Int) := by rw [IntKind.wrap_i64]; omega
 have hb1 : (0 : Int) ≤ (p : Int) + 1 := by omega
 have hb2 : ¬ (G = p + 1) := by omega
 have hb3 : (p : Int) ≤ (l.length : Int) := by omega
 have hb4 : ¬ (c = p) := by omega
 have hb5 : (p : Int) ≤ (l.length : Int) + 1 := by omega
 have hb6 : (p : Int) + 1 ≤ (l.length : Int) + 1 := by omega
 have hb7 : (c : Int) < (l.length : Int) + 1 := by omega
 have hb8 : ¬ (G = p) := by omega
 have hb9 : (l.length : Int) ≤ (c : Int) := by omega
 have hba : (p : Int) ≤ (c : Int) := by omega
 have hbb : (l.length : Int) + 1 ≤ (G : Int) := by omega
 clear h hR hR1 hR2 hR2' hR3 hcur hk1 hk2 hk3 hk4 hx hx1 hdl hGa hGb hG0 hg1 hg2 hROW hRs hRo hold hik hkk htl hGm
 go_enter Tryz.func202, Tryz.ntmps202
 go_wp2_with (first | (at_builtin; refine Lib.wpList_append_run _ rfl _ _ _ _ rfl _ _ rfl rfl _ _ (hrz _) ?_) | (at_builtin; refine wpList_copy_run rfl _ _ 37 37 rfl _ _ rfl rfl (hcpA _ _) ?_))
 go_region_law (refine step_copy_run rfl _ _ 37 37 rfl _ _ (by simp [Act.eval, Act.put]) (by simp [Act.eval, Act.put]) (hcpB _ _ _) ?_)
 go_wp2
 go_ret
 exact ⟨_, rfl, HO.out, HG.out, fun q hq => by injection hq with hq; change W.heap.size = q at hq; exact .inl (by omega)⟩
theorem putAt_end {α : Type} (l : List α) (x : α) : putAt l l.length x = l ++ [x] := by unfold putAt; simp
theorem insM_any (W : World) (B : Nat) (v : Value) (l : List Mk) (p : Nat) (x : Mk) (vb : Nat) (h : OwnAt mkS 108 B W v l) (hBW : B ≤ W.heap.size) (hl : l.length ≤ 1048576) (hp : p ≤ l.length) (hx : Blk W vb 108 #[.int .i64 x.f, .int .i64 x.n, .int .i64 x.u]) (hvb : v.ownBlock ≠ some vb) :
  Calls Tryz.prog 202 #[v, .int .i64 p, .slice (some ⟨vb, 0, none⟩) 1 1] W (MutM B W v (putAt l p x)) := by
 by_cases e : p = l.length
 ·subst e
  rw [putAt_end]
  exact insM_end W B v l x vb h hBW hl hx
 ·rcases h.2 with ⟨rfl, hn⟩ | ⟨g, c, cur, rfl, _⟩
  ·omega
  ·by_cases hr : l.length + 1 ≤ c
   ·exact insM_shift W B g c l p x vb h hl (by omega) hr hx (fun e => hvb (by rw [← e]; rfl))
   ·exact insM_grow W B g c l p x vb h hBW hl (by omega) (by omega) hx
end Go.Proofs.YtckicpnnclbkpaaGreatDoor.kp

namespace Go.Proofs.YtckicpnnclbkpaaGreatDoor.kp
open Go.ChangeShapes Go.WideShapes Go.ChangeAt Go.RowKit
open wd ow rl ok nb
def MutN (B : Nat) (W : World) (v : Value) (l : List Nt) (e : Ending) (w' : World) : Prop := ∃ v', e = .returned v' ∧ OwnAt ntS 105 B w' v' l ∧ W.grownBy w' v.ownBlock ∧ From W v' v
set_option maxRecDepth 100000 in
theorem insN_end (W : World) (B : Nat) (v : Value) (l : List Nt) (x : Nt) (vb : Nat) (h : OwnAt ntS 105 B W v l) (hB : B ≤ W.heap.size) (hl : l.length ≤ 1048576) (hx : Blk W vb 105 #[.int .i64 x.f, .int .i64 x.n, .int .i64 x.t, .int .i64 x.u, .string x.s]) :
  Calls Tryz.prog 205 #[v, .int .i64 l.length, .slice (some ⟨vb, 0, none⟩) 1 1] W (MutN B W v (l ++ [x])) := by
 obtain ⟨j0, hj, hy0, hy1, hy2⟩ := info_parts infoNote
 have hro := ownAt_room h
 have hP : ∀ j u, (ntF x)[j]? = some u → W.cell? ((⟨vb, 0, none⟩ : Addr).add j) = some u := fun j u hu => by
  rw [Addr.add_lit, Nat.zero_add, hx.cell j]
  simpa [ntF] using hu
 have hP1 : ∀ u ∈ ntF x, u.oneCell' = true := fun u hu => (ntS).one x u hu
 have HO := Lib.hid h
 obtain ⟨A, c, rfl⟩ := OwnAt.form h
 obtain ⟨_, _, _, e, hr1, hr2⟩ := hro
 injection e with e1 e2 e3
 subst e1; subst e2; subst e3
 unfold maxLen at hr2
 have hn0 : (0 : Int) ≤ (l.length : Int) := by omega
 have hn1 : (l.length : Int) ≤ (c : Int) := by omega
 clear h hx
 cases A with
 | none =>
  go_enter Tryz.func205, Tryz.ntmps205
  go_wp2_with (at_builtin; refine wpList_append_own_at _ rfl _ _ 36 rfl B 105 j0 _ 5 48 Tryz.underlying36 hj hy0 hy1 hy2 rfl (by decide) _ l.length (l.flatMap (ntS).f) rfl HO.out ⟨vb, 0, none⟩ 1 1 (ntF x) rfl rfl hP hP1 ?e3 ?e4 hB ?_)
  case e3 => (show l.length + 1 ≤ maxLen); unfold maxLen; omega
  case e4 => (show (l.length + 1) * 48 ≤ 140737488355328); omega
  intro v8 w8 hown hgrow _ hat
  have HR := Lib.hid (show OwnAt ntS 105 B w8 v8 (l ++ [x]) from OwnAt.grew (S := ntS) (l := l) (y := x) hown rfl)
  have HG := Lib.hid hgrow
  have HF := Lib.hid (from_at hat)
  clear hown hgrow hat
  go_wp2
  go_ret
  exact ⟨_, rfl, HR.out, HG.out, HF.out⟩
 | some ad =>
  obtain ⟨g, rfl⟩ : ∃ g, ad = ⟨g, 0, none⟩ := by
   rcases HO.out.2 with ⟨e, _⟩ | ⟨g, cap, cur, e, _⟩
   ·cases e
   ·injection e with e1
    injection e1 with e1
    exact ⟨g, e1⟩
  obtain ⟨AX, hAX⟩ : ∃ AX, (if c = l.length then (some ⟨g, 0, none⟩ : Option Addr) else some ⟨g, l.length * 5, none⟩) = AX := ⟨_, rfl⟩
  go_enter Tryz.func205, Tryz.ntmps205
  go_wp2_with (at_builtin; refine wpList_append_own_at _ rfl _ _ 36 rfl B 105 j0 _ 5 48 Tryz.underlying36 hj hy0 hy1 hy2 rfl (by decide) _ l.length (l.flatMap (ntS).f) rfl HO.out ⟨vb, 0, none⟩ 1 1 (ntF x) rfl rfl hP hP1 ?e3 ?e4 hB ?_)
  case e3 => (show l.length + 1 ≤ maxLen); unfold maxLen; omega
  case e4 => (show (l.length + 1) * 48 ≤ 140737488355328); omega
  intro v8 w8 hown hgrow _ hat
  have HR := Lib.hid (show OwnAt ntS 105 B w8 v8 (l ++ [x]) from OwnAt.grew (S := ntS) (l := l) (y := x) hown rfl)
  have HG := Lib.hid hgrow
  have HF := Lib.hid (from_at hat)
  clear hown hgrow hat
  go_wp2
  go_ret
  exact ⟨_, rfl, HR.out, HG.out, HF.out⟩
theorem one_cellsN {W : World} {vb : Nat} {x : Nt} (hx : Blk W vb 105 #[.int .i64 x.f, .int .i64 x.n, .int .i64 x.t, .int .i64 x.u, .string x.s]) : ∀ j u, (ntF x)[j]? = some u → W.cell? ⟨vb, j, none⟩ = some u := fun j u hu => by
 rw [hx.cell j]
 simpa [ntF] using hu
set_option maxRecDepth 100000 in
set_option maxHeartbeats 1600000 in
theorem insN_shift (W : World) (B g c : Nat) (l : List Nt) (p : Nat) (x : Nt) (vb : Nat) (h : OwnAt ntS 105 B W (.slice (some ⟨g, 0, none⟩) l.length c) l) (hl : l.length ≤ 1048576) (hp : p < l.length) (hroom : l.length + 1 ≤ c) (hx : Blk W vb 105 #[.int .i64 x.f, .int .i64 x.n, .int .i64 x.t, .int .i64 x.u, .string x.s]) (hvb : g ≠ vb) :
  Calls Tryz.prog 205 #[.slice (some ⟨g, 0, none⟩) l.length c, .int .i64 p, .slice (some ⟨vb, 0, none⟩) 1 1] W (MutN B W (.slice (some ⟨g, 0, none⟩) l.length c) (putAt l p x)) := by
 obtain ⟨j0, hj, hy0, hy1, hy2⟩ := info_parts infoNote
 obtain ⟨_, hBg, hlc, hcm, cur, hR, hcur⟩ := ownAt_row h
 have hcm' := hcm
 unfold maxLen at hcm'
 have hsz3 : (ntS).n = 5 := rfl
 have hcs : cur.size = c * 5 := hR.size
 have hdl : ((l.drop p).flatMap (ntS).f).length = (l.length - p) * 5 := by rw [flat_len (ntS).len, List.length_drop]; rfl
 have hdc : ∀ (V : World), Blk V g 105 cur → ∀ j u, ((l.drop p).flatMap (ntS).f)[j]? = some u → V.cell? ⟨g, p * 5 + j, none⟩ = some u := fun V hV j u hu => by
  obtain ⟨i, y, q, h1, h2, rfl⟩ := flat_get ntS _ j u hu
  rw [List.getElem?_drop] at h1
  have := row_at hcur h1 h2
  rw [hV.cell, show p * 5 + (i * (ntS).n + q) = (p + i) * (ntS).n + q by rw [hsz3, Nat.add_mul]; omega]
  exact this
 have hR1 : Row ntS 105 W.drew g c cur := ⟨hR.blk, hR.size⟩
 have hcp1 : ∀ ty dc sc, (Builtin.copy_ #[36, 36] ty #[.slice (some ⟨g, (p + 1) * 5, none⟩) (l.length - p) dc, .slice (some ⟨g, p * 5, none⟩) (l.length + 1 - p) sc]).run Tryz.prog W.drew = .ok (goInt ((l.length - p : Nat) : Int)) (putAll W.drew g ((p + 1) * 5) ((l.drop p).flatMap (ntS).f)) := fun ty dc sc =>
  run_copy_k W.drew _ _ ty 105 j0 g ((p + 1) * 5) (l.length - p) dc ⟨g, p * 5, none⟩ (l.length + 1 - p) sc (l.length - p) _ Tryz.underlying36 hj (by simp only [Nat.min_def]; split <;> omega) (by rw [hdl, hy1])
   (fun j u hu => by rw [Addr.add_lit]; exact hdc _ hR1.blk j u hu)
   (fun j hj' => (hR1.cell (by rw [hdl] at hj'; rw [hsz3]; omega)).1) (fun j hj' => hR1.blk.frozen _) (flat_ones ntS _)
 obtain ⟨cur1, hR2, hk1, hk2⟩ := hR1.put ((p + 1) * 5) ((l.drop p).flatMap (ntS).f)
 have hx1 : Blk (putAll W.drew g ((p + 1) * 5) ((l.drop p).flatMap (ntS).f)) vb 105 #[.int .i64 x.f, .int .i64 x.n, .int .i64 x.t, .int .i64 x.u, .string x.s] := by
  have hG := putAll_grown (W0 := W.drew) (W := W.drew) (g := g) (row := some g) ⟨rfl, rfl, rfl, Nat.le_refl _, fun _ _ _ => rfl⟩ (.inl rfl) ((p + 1) * 5) ((l.drop p).flatMap (ntS).f)
  exact (hG.block vb hx.lt (fun e => by injection e with e; exact hvb e.symm)).trans hx
 have hG1 : W.grownBy (putAll W.drew g ((p + 1) * 5) ((l.drop p).flatMap (ntS).f)) (some g) := putAll_grown (W0 := W) (W := W.drew) (g := g) (row := some g) ⟨rfl, rfl, rfl, Nat.le_refl _, fun _ _ _ => rfl⟩ (.inl rfl) _ _
 generalize putAll W.drew g ((p + 1) * 5) ((l.drop p).flatMap (ntS).f) = W1 at hcp1 hR2 hx1 hG1
 have hcp2 : ∀ ty dc, (Builtin.copy_ #[36, 36] ty #[.slice (some ⟨g, p * 5, none⟩) (l.length + 1 - p) dc, .slice (some ⟨vb, 0, none⟩) 1 1]).run Tryz.prog W1 = .ok (goInt 1) (putAll W1 g (p * 5) (ntF x)) := fun ty dc =>
  run_copy_k W1 _ _ ty 105 j0 g (p * 5) (l.length + 1 - p) dc ⟨vb, 0, none⟩ 1 1 1 (ntF x) Tryz.underlying36 hj (by simp only [Nat.min_def]; split <;> omega) (by rw [hy1]; rfl)
   (fun j u hu => by rw [Addr.add_lit, Nat.zero_add]; exact one_cellsN hx1 j u hu)
   (fun j hj' => (hR2.cell (by have : j < 5 := hj'; rw [hsz3]; omega)).1) (fun j hj' => hR2.blk.frozen _) (fun u hu => (ntS).one x u hu)
 obtain ⟨cur2, hR3, hk3, hk4⟩ := hR2.put (p * 5) (ntF x)
 have hG2 : W.grownBy (putAll W1 g (p * 5) (ntF x)) (some g) := putAll_grown hG1 (.inl rfl) _ _
 have HO := Lib.hid (show OwnAt ntS 105 B (putAll W1 g (p * 5) (ntF x)) (.slice (some ⟨g, 0, none⟩) (l.length + 1) c) (putAt l p x) from by
  have := ownAt_mk (l := putAt l p x) hR3 hBg (by rw [putAt_len (by omega)]; exact hroom) hcm (putAt_cells (by omega) hroom hR3.size
   (fun i y hi hy j u hu => by
    have hj' : j < 5 := by have := (List.getElem?_eq_some_iff.1 hu).1; rwa [(ntS).len] at this
    rw [hk3 _ (.inl (by rw [hsz3]; omega)), hk1 _ (.inl (by rw [hsz3]; omega))]
    exact row_at hcur hy hu)
   (fun j u hu => by
    rw [hsz3]
    exact hk4 (by show p * 5 + 5 ≤ c * (ntS).n; rw [hsz3]; omega) j u hu)
   (fun i y hi hy j u hu => by
    have hj' : j < 5 := by have := (List.getElem?_eq_some_iff.1 hu).1; rwa [(ntS).len] at this
    have hil : i < l.length := (List.getElem?_eq_some_iff.1 hy).1
    rw [hk3 _ (.inr (by show p * 5 + 5 ≤ _; rw [hsz3]; omega))]
    have hf : ((l.drop p).flatMap (ntS).f)[(i - p) * (ntS).n + j]? = some u := by
     rw [flat_at (ntS).len (l.drop p) (i - p) y (by rw [List.getElem?_drop, show p + (i - p) = i by omega]; exact hy) j hj']
     exact hu
    have := hk2 (by rw [hdl, hsz3]; omega) _ _ hf
    rw [show (i + 1) * (ntS).n + j = (p + 1) * 5 + ((i - p) * (ntS).n + j) by rw [hsz3]; omega]
    exact this))
  rw [putAt_len (by omega)] at this
  exact this)
 have HG := Lib.hid hG2
 have hov : ∀ lb cb, (callFunc 223 #[.slice (some ⟨vb, 0, none⟩) 1 1, .slice (some ⟨g, (p + 1) * 5, none⟩) lb cb]).run Tryz.prog W = .ok (.value (.bool false)) W := fun lb cb => by
  have hsa : W.shape? vb = some (105, 5) := by unfold World.shape?; rw [show W.heap[vb]? = _ from hx]; rfl
  have hsb : W.shape? g = some (105, cur.size) := by unfold World.shape?; rw [show W.heap[g]? = _ from hR.blk]
  rw [run_callFunc_extern Tryz.func223 (by kernel_rfl) (by kernel_rfl) (by kernel_rfl) (e := Extern.SlicesOverlaps.overlaps #[36, 36] #[4]) (by kernel_rfl),
   Lib.run_overlaps_apart W 36 4 105 Tryz.underlying36 5 (fun w => by simp [Go.sizeOf, typeInfo, hj, hy1]) ⟨vb, 0, none⟩ ⟨g, (p + 1) * 5, none⟩ 1 1 lb cb (fun e => hvb e.symm) _ _ _ _ hsa hsb (by omega) (hx.frozen 0) (hx.frozen 5)]
  rfl
 have hz2 : ¬ ((p : Int) = (l.length : Int)) := by omega
 have hw1 : IntKind.i64.wrap ((p : Int) + 1) = (p : Int) + 1 := by rw [IntKind.wrap_i64]; omega
 have hw2 : IntKind.i64.wrap ((l.length : Int) + 1) = (l.length : Int) + 1 := by rw [IntKind.wrap_i64]; omega
 have hb1 : (0 : Int) ≤ (p : Int) + 1 := by omega
 have hb2 : ¬ (c = p + 1) := by omega
 have hb3 : (p : Int) ≤ (l.length : Int) := by omega
 have hb4 : ¬ (c = p) := by omega
 have hb5 : (p : Int) ≤ (l.length : Int) + 1 := by omega
 have hb6 : (p : Int) + 1 ≤ (l.length : Int) + 1 := by omega
 have hb7 : (l.length : Int) + 1 ≤ (c : Int) := by omega
 have hb8 : ¬ ((c : Int) < (l.length : Int) + 1) := by omega
 have hb9 : (l.length : Int) ≤ (c : Int) := by omega
 have hb0 : (0 : Int) ≤ (l.length : Int) + 1 := by omega
 clear h hR hR1 hR2 hR3 hcur hk1 hk2 hk3 hk4 hx hx1 hdc hdl hG1 hG2 hcs
 go_enter Tryz.func205, Tryz.ntmps205
 go_wp2_with (simp only [hov])
 go_region_law (refine step_copy_run rfl _ _ 36 36 rfl _ _ (by simp [Act.eval, Act.put]) (by simp [Act.eval, Act.put]) (hcp1 _ _ _) ?_)
 go_wp2_with (at_builtin; refine wpList_copy_run rfl _ _ 36 36 rfl _ _ rfl rfl (hcp2 _ _) ?_)
 go_ret
 exact ⟨_, rfl, HO.out, HG.out, fun q hq => .inr hq⟩
set_option maxRecDepth 100000 in
set_option maxHeartbeats 1600000 in
theorem insN_grow (W : World) (B g c : Nat) (l : List Nt) (p : Nat) (x : Nt) (vb : Nat) (h : OwnAt ntS 105 B W (.slice (some ⟨g, 0, none⟩) l.length c) l) (hBW : B ≤ W.heap.size) (hl : l.length ≤ 1048576) (hp : p < l.length) (hroom : c < l.length + 1) (hx : Blk W vb 105 #[.int .i64 x.f, .int .i64 x.n, .int .i64 x.t, .int .i64 x.u, .string x.s]) :
  Calls Tryz.prog 205 #[.slice (some ⟨g, 0, none⟩) l.length c, .int .i64 p, .slice (some ⟨vb, 0, none⟩) 1 1] W (MutN B W (.slice (some ⟨g, 0, none⟩) l.length c) (putAt l p x)) := by
 obtain ⟨j0, hj, hy0, hy1, hy2⟩ := info_parts infoNote
 obtain ⟨_, hBg, hlc, hcm, cur, hR, hcur⟩ := ownAt_row h
 have hsz3 : (ntS).n = 5 := rfl
 have htl : ((l.take p).flatMap (ntS).f).length = p * 5 := by rw [flat_len (ntS).len, List.length_take, Nat.min_eq_left (by omega)]; rfl
 have hold : (Builtin.firstCells j0.size p (.slice (some ⟨g, 0, none⟩) p c)).run Tryz.prog W.drew = .ok ((l.take p).flatMap (ntS).f).toArray W.drew := by
  refine run_firstCells_some (P := Tryz.prog) (w := W.drew) _ _ _ _ _ _ (by rw [htl, hy1]) fun j u hu => ?_
  obtain ⟨i, y, q, h1, h2, rfl⟩ := flat_get ntS _ j u hu
  rw [List.getElem?_take] at h1
  split at h1
  ·rw [Addr.add_lit, Nat.zero_add]
   have := row_at hcur h1 h2
   exact (hR.blk.cell _).trans this
  ·cases h1
 have hik : p + (l.length + 1 - p) = l.length + 1 := by omega
 have hkk : (l.length : Int) + 1 - (p : Int) = ((l.length + 1 - p : Nat) : Int) := by omega
 have hrz : ∀ ty, (Builtin.append_ #[36, 3] ty #[.slice (some ⟨g, 0, none⟩) p c, .int .i64 ((l.length : Int) + 1 - (p : Int))]).run Tryz.prog W =
   .ok (.slice (some ⟨W.heap.size, 0, none⟩) (l.length + 1) (grownCap W (l.length + 1) c 105)) (W.drew.alloc (.cells (((l.take p).flatMap (ntS).f).toArray ++ Builtin.zeroCells (Value.agg #[.int .i64 0, .int .i64 0, .int .i64 0, .int .i64 0, .string ⟨#[]⟩]).cells (l.length + 1 - p) ++ Builtin.zeroCells (Value.agg #[.int .i64 0, .int .i64 0, .int .i64 0, .int .i64 0, .string ⟨#[]⟩]).cells (grownCap W (l.length + 1) c 105 - (l.length + 1))) 105)) := fun ty => by
  have h := Lib.run_append_grow_zeros (P := Tryz.prog) W 36 3 ty 105 j0 _ .i64 .i64 Tryz.underlying36 Tryz.underlying3 hj hy0 (some ⟨g, 0, none⟩) p c _ hold (l.length + 1 - p) (by omega) (by omega) (by omega) (by omega) (by rw [hy2]; omega) (by rw [hy2, hik]; exact growslice_fits hroom (by omega))
  rw [hik] at h
  rw [hkk]
  exact h
 have hGn : l.length + 1 ≤ grownCap W (l.length + 1) c 105 := grownCap_ge W _ _ _
 have hGm : grownCap W (l.length + 1) c 105 ≤ maxLen := grownCap_le_maxLen W (l.length + 1) c _ (by unfold maxLen; omega)
 generalize grownCap W (l.length + 1) c 105 = G at hrz hGn hGm
 have hGm' := hGm
 unfold maxLen at hGm'
 have hrow : ∃ ROW : Array Value, ROW = ((l.take p).flatMap (ntS).f).toArray ++ Builtin.zeroCells (Value.agg #[.int .i64 0, .int .i64 0, .int .i64 0, .int .i64 0, .string ⟨#[]⟩]).cells (l.length + 1 - p) ++ Builtin.zeroCells (Value.agg #[.int .i64 0, .int .i64 0, .int .i64 0, .int .i64 0, .string ⟨#[]⟩]).cells (G - (l.length + 1)) := ⟨_, rfl⟩
 obtain ⟨ROW, hROW⟩ := hrow
 rw [← hROW] at hrz
 have hRs : ROW.size = G * 5 := by
  rw [hROW, Array.size_append, Array.size_append, zeroCells_size, zeroCells_size, List.size_toArray, htl]
  show p * 5 + (l.length + 1 - p) * 5 + (G - (l.length + 1)) * 5 = G * 5
  omega
 have hRo : ∀ i y, i < p → l[i]? = some y → ∀ j u, ((ntS).f y)[j]? = some u → ROW[i * (ntS).n + j]? = some u := fun i y hi hy j u hu => by
  have hj' : j < 5 := by have := (List.getElem?_eq_some_iff.1 hu).1; rwa [(ntS).len] at this
  have hf := flat_at (ntS).len (l.take p) i y (by rw [List.getElem?_take, if_pos hi]; exact hy) j hj'
  rw [hu] at hf
  have hlt : i * (ntS).n + j < p * 5 := by rw [hsz3]; omega
  rw [hROW, Array.getElem?_append_left (by rw [Array.size_append, List.size_toArray, htl]; omega), Array.getElem?_append_left (by rw [List.size_toArray, htl]; omega), List.getElem?_toArray]
  exact hf
 have hR1 : Row ntS 105 (W.drew.alloc (.cells ROW 105)) W.heap.size G ROW := ⟨Blk.new W.drew _ _, hRs⟩
 have hg1 : Row ntS 105 (W.drew.alloc (.cells ROW 105)) g c cur := ⟨hR.blk.alloc _, hR.size⟩
 have hx1 : Blk (W.drew.alloc (.cells ROW 105)) vb 105 #[.int .i64 x.f, .int .i64 x.n, .int .i64 x.t, .int .i64 x.u, .string x.s] := Blk.alloc (w := W.drew) hx _
 have hG0 : W.grownBy (W.drew.alloc (.cells ROW 105)) (some g) := ⟨rfl, rfl, rfl, by simp, fun k hk _ => ((Below.refl W.drew.heap.size W.drew).alloc (Nat.le_refl _) (.cells ROW 105)).block k hk⟩
 have hgN : g < W.heap.size := hR.blk.lt
 have hvN : vb < W.heap.size := hx.lt
 generalize W.drew.alloc (.cells ROW 105) = W1 at hrz hR1 hx1 hG0 hg1
 have hcpA : ∀ ty dc, (Builtin.copy_ #[36, 36] ty #[.slice (some ⟨W.heap.size, p * 5, none⟩) (l.length + 1 - p) dc, .slice (some ⟨vb, 0, none⟩) 1 1]).run Tryz.prog W1 = .ok (goInt 1) (putAll W1 W.heap.size (p * 5) (ntF x)) := fun ty dc =>
  run_copy_k W1 _ _ ty 105 j0 W.heap.size (p * 5) (l.length + 1 - p) dc ⟨vb, 0, none⟩ 1 1 1 (ntF x) Tryz.underlying36 hj (by simp only [Nat.min_def]; split <;> omega) (by rw [hy1]; rfl)
   (fun j u hu => by rw [Addr.add_lit, Nat.zero_add]; exact one_cellsN hx1 j u hu)
   (fun j hj' => (hR1.cell (by have : j < 5 := hj'; rw [hsz3]; omega)).1) (fun j hj' => hR1.blk.frozen _) (fun u hu => (ntS).one x u hu)
 obtain ⟨cur1, hR2, hk1, hk2⟩ := hR1.put (p * 5) (ntF x)
 have hGa : W.grownBy (putAll W1 W.heap.size (p * 5) (ntF x)) (some g) := putAll_grown hG0 (.inr (Nat.le_refl _)) _ _
 have hg2 : Blk (putAll W1 W.heap.size (p * 5) (ntF x)) g 105 cur := by
  have hq := putAll_grown (W0 := W1) (W := W1) (g := W.heap.size) (row := some W.heap.size) ⟨rfl, rfl, rfl, Nat.le_refl _, fun _ _ _ => rfl⟩ (.inl rfl) (p * 5) (ntF x)
  exact (hq.block g hg1.blk.lt (fun e => by injection e with e; omega)).trans hg1.blk
 generalize putAll W1 W.heap.size (p * 5) (ntF x) = W2 at hcpA hR2 hGa hg2
 have hdl : ((l.drop p).flatMap (ntS).f).length = (l.length - p) * 5 := by rw [flat_len (ntS).len, List.length_drop]; rfl
 have hR2' : Row ntS 105 W2.drew W.heap.size G cur1 := ⟨hR2.blk, hR2.size⟩
 have hcpB : ∀ ty dc sc, (Builtin.copy_ #[36, 36] ty #[.slice (some ⟨W.heap.size, (p + 1) * 5, none⟩) (l.length - p) dc, .slice (some ⟨g, p * 5, none⟩) (l.length - p) sc]).run Tryz.prog W2.drew = .ok (goInt ((l.length - p : Nat) : Int)) (putAll W2.drew W.heap.size ((p + 1) * 5) ((l.drop p).flatMap (ntS).f)) := fun ty dc sc =>
  run_copy_k W2.drew _ _ ty 105 j0 W.heap.size ((p + 1) * 5) (l.length - p) dc ⟨g, p * 5, none⟩ (l.length - p) sc (l.length - p) _ Tryz.underlying36 hj (by simp only [Nat.min_def]; split <;> omega) (by rw [hdl, hy1])
   (fun j u hu => by
    rw [Addr.add_lit]
    obtain ⟨i, y, q, h1, h2, rfl⟩ := flat_get ntS _ j u hu
    rw [List.getElem?_drop] at h1
    have := row_at hcur h1 h2
    rw [show p * 5 + (i * (ntS).n + q) = (p + i) * (ntS).n + q by rw [hsz3, Nat.add_mul]; omega]
    exact (Blk.cell (w := W2.drew) hg2 _).trans this)
   (fun j hj' => (hR2'.cell (by rw [hdl] at hj'; rw [hsz3]; omega)).1) (fun j hj' => hR2'.blk.frozen _) (flat_ones ntS _)
 obtain ⟨cur2, hR3, hk3, hk4⟩ := hR2'.put ((p + 1) * 5) ((l.drop p).flatMap (ntS).f)
 have hGb : W.grownBy (putAll W2.drew W.heap.size ((p + 1) * 5) ((l.drop p).flatMap (ntS).f)) (some g) := putAll_grown (W := W2.drew) ⟨hGa.os, hGa.tape, hGa.output, hGa.size, hGa.block⟩ (.inr (Nat.le_refl _)) _ _
 generalize putAll W2.drew W.heap.size ((p + 1) * 5) ((l.drop p).flatMap (ntS).f) = W3 at hcpB hR3 hGb
 have HO := Lib.hid (show OwnAt ntS 105 B W3 (.slice (some ⟨W.heap.size, 0, none⟩) (l.length + 1) G) (putAt l p x) from by
  have := ownAt_mk (l := putAt l p x) hR3 hBW (by rw [putAt_len (by omega)]; exact hGn) hGm (putAt_cells (by omega) hGn hR3.size
   (fun i y hi hy j u hu => by
    have hj' : j < 5 := by have := (List.getElem?_eq_some_iff.1 hu).1; rwa [(ntS).len] at this
    rw [hk3 _ (.inl (by rw [hsz3]; omega)), hk1 _ (.inl (by rw [hsz3]; omega))]
    exact hRo i y hi hy j u hu)
   (fun j u hu => by
    have hj' : j < 5 := by have := (List.getElem?_eq_some_iff.1 hu).1; rwa [(ntS).len] at this
    rw [hsz3, hk3 _ (.inl (by omega))]
    exact hk2 (by show p * 5 + 5 ≤ G * (ntS).n; rw [hsz3]; omega) j u hu)
   (fun i y hi hy j u hu => by
    have hj' : j < 5 := by have := (List.getElem?_eq_some_iff.1 hu).1; rwa [(ntS).len] at this
    have hil : i < l.length := (List.getElem?_eq_some_iff.1 hy).1
    have hf : ((l.drop p).flatMap (ntS).f)[(i - p) * (ntS).n + j]? = some u := by
     rw [flat_at (ntS).len (l.drop p) (i - p) y (by rw [List.getElem?_drop, show p + (i - p) = i by omega]; exact hy) j hj']
     exact hu
    have := hk4 (by rw [hdl, hsz3]; omega) _ _ hf
    rw [show (i + 1) * (ntS).n + j = (p + 1) * 5 + ((i - p) * (ntS).n + j) by rw [hsz3]; omega]
    exact this))
  rw [putAt_len (by omega)] at this
  exact this)
 have HG := Lib.hid hGb
 have hz2 : ¬ ((p : Int) = (l.length : Int)) := by omega
 have hw1 : IntKind.i64.wrap ((p : Int) + 1) = (p : Int) + 1 := by rw [IntKind.wrap_i64]; omega
 have hw2 : IntKind.i64.wrap ((l.length : Int) + 1) = (l.length : Int) + 1 := by rw [IntKind.wrap_i64]; omega
 have hw3 : IntKind.i64.wrap ((l.length : Int) + 1 - (p : Int)) = (l.length : Int) + 1 - (p : Int) := by rw [IntKind.wrap_i64]; omega
 have hb1 : (0 : Int) ≤ (p : Int) + 1 := by omega
 have hb2 : ¬ (G = p + 1) := by omega
 have hb3 : (p : Int) ≤ (l.length : Int) := by omega
 have hb4 : ¬ (c = p) := by omega
 have hb5 : (p : Int) ≤ (l.length : Int) + 1 := by omega
 have hb6 : (p : Int) + 1 ≤ (l.length : Int) + 1 := by omega
 have hb7 : (c : Int) < (l.length : Int) + 1 := by omega
 have hb8 : ¬ (G = p) := by omega
 have hb9 : (l.length : Int) ≤ (c : Int) := by omega
 have hba : (p : Int) ≤ (c : Int) := by omega
 have hbb : (l.length : Int) + 1 ≤ (G : Int) := by omega
 clear h hR hR1 hR2 hR2' hR3 hcur hk1 hk2 hk3 hk4 hx hx1 hdl hGa hGb hG0 hg1 hg2 hROW hRs hRo hold hik hkk htl hGm
 go_enter Tryz.func205, Tryz.ntmps205
 go_wp2_with (first | (at_builtin; refine Lib.wpList_append_run _ rfl _ _ _ _ rfl _ _ rfl rfl _ _ (hrz _) ?_) | (at_builtin; refine wpList_copy_run rfl _ _ 36 36 rfl _ _ rfl rfl (hcpA _ _) ?_))
 go_region_law (refine step_copy_run rfl _ _ 36 36 rfl _ _ (by simp [Act.eval, Act.put]) (by simp [Act.eval, Act.put]) (hcpB _ _ _) ?_)
 go_wp2
 go_ret
 exact ⟨_, rfl, HO.out, HG.out, fun q hq => by injection hq with hq; change W.heap.size = q at hq; exact .inl (by omega)⟩
theorem insN_any (W : World) (B : Nat) (v : Value) (l : List Nt) (p : Nat) (x : Nt) (vb : Nat) (h : OwnAt ntS 105 B W v l) (hBW : B ≤ W.heap.size) (hl : l.length ≤ 1048576) (hp : p ≤ l.length) (hx : Blk W vb 105 #[.int .i64 x.f, .int .i64 x.n, .int .i64 x.t, .int .i64 x.u, .string x.s]) (hvb : v.ownBlock ≠ some vb) :
  Calls Tryz.prog 205 #[v, .int .i64 p, .slice (some ⟨vb, 0, none⟩) 1 1] W (MutN B W v (putAt l p x)) := by
 by_cases e : p = l.length
 ·subst e
  rw [putAt_end]
  exact insN_end W B v l x vb h hBW hl hx
 ·rcases h.2 with ⟨rfl, hn⟩ | ⟨g, c, cur, rfl, _⟩
  ·omega
  ·by_cases hr : l.length + 1 ≤ c
   ·exact insN_shift W B g c l p x vb h hl (by omega) hr hx (fun e => hvb (by rw [← e]; rfl))
   ·exact insN_grow W B g c l p x vb h hBW hl (by omega) (by omega) hx
end Go.Proofs.YtckicpnnclbkpaaGreatDoor.kp

