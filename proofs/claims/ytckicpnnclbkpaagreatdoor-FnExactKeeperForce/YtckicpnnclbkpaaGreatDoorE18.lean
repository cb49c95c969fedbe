/-
  Merged texts: IDelFN, StrLists, KeepMark, KeepHeld, KeepLaw, IAcc0.
-/
import Derived.Test.YtckicpnnclbkpaaGreatDoorE17
namespace Go.Proofs.YtckicpnnclbkpaaGreatDoor.kp
open Go.ChangeShapes Go.WideShapes Go.ChangeAt Go.RowKit
open wd ow rl ok nb nx
def overN (t : Int) (y : Nt) : Bool := decide (y.u ≤ t)
set_option maxRecDepth 100000 in
set_option maxHeartbeats 800000 in
theorem overN_any (b : Nat) (t : Int) (V : World) (y : Nt) (hb : V.cell? ⟨b, 0, none⟩ = some (.int .i64 t)) (hbl : b < V.heap.size) : Calls Tryz.prog 194 #[note y.f y.n y.t y.u y.s, .pointer (some ⟨b, 0, none⟩)] V (BoolK V (overN t y)) := by
 have k2 := Blk.new V 105 #[.int .i64 y.f, .int .i64 y.n, .int .i64 y.t, .int .i64 y.u, .string y.s]
 have hB0 := (Below.refl V.heap.size V).alloc (Nat.le_refl _) (.cells #[.int .i64 y.f, .int .i64 y.n, .int .i64 y.t, .int .i64 y.u, .string y.s] 105)
 have hb' := (hB0.cell (p := ⟨b, 0, none⟩) hbl).trans hb
 have hbl' : b < (V.alloc (.cells #[.int .i64 y.f, .int .i64 y.n, .int .i64 y.t, .int .i64 y.u, .string y.s] 105)).heap.size := by simp; omega
 have HE := Lib.hid (show decide (y.u ≤ t) = overN t y from rfl)
 clear hb
 unfold note
 go_enter Tryz.func194, Tryz.ntmps194
 go_wp2_with fail
 generalize V.alloc (.cells #[.int .i64 y.f, .int .i64 y.n, .int .i64 y.t, .int .i64 y.u, .string y.s] 105) = W at *
 obtain ⟨c0, c1, c2, c3, c4⟩ := qa.five k2
 have d0 : ∀ p : qa.After W, p.W.cell? ⟨b, 0, none⟩ = some (.int .i64 t) := fun p => qa.cell hbl' hb' p
 have HB := Lib.hid hB0
 clear k2 hB0 hb' hbl' hbl
 have hm := mNote
 have HN := Lib.hid (fun W => nmark_any y.f y.n y.t y.u y.s W)
 unfold AggPost mark note at HN
 have hfl : ∀ (W : World), (Instr.field 108 (.agg #[.int .i64 y.f, .int .i64 y.n, .int .i64 y.u]) 2).run Tryz.prog W = .ok (.int .i64 y.u) W := fun _ => by kernel_rfl
 refine qa.region (by kernel_rfl) (by kernel_rfl) ?_
 repeat (go_big_quiet_step (first | (go_at_call 167; exact qa.of_below (HN.out _))))
 refine wpQuiet_nil ?_
 rintro _ ⟨p, rfl⟩
 have HB2 := Lib.hid (HB.out.trans (p.h.mono HB.out.size))
 clear c0 c1 c2 c3 c4 d0 hm hfl HN
 go_wp2
 go_ret
 exact ⟨nb.ret_bool HE.out, HB2.out⟩
set_option maxRecDepth 100000 in
set_option maxHeartbeats 800000 in
theorem idxFN (w : World) (v : Value) (l : List Nt) (h : SeesN w v l) (hl : l.length ≤ 1048576) (b : Nat) (t : Int) (hb : w.cell? ⟨b, 0, none⟩ = some (.int .i64 t)) (hbl : b < w.heap.size) :
  Calls Tryz.prog 218 #[v, .func (.func 194) #[] #[.pointer (some ⟨b, 0, none⟩)]] w (IdxFPost w (idxI l (overN t))) := by
 have HS := Lib.hid h
 have HC := Lib.hid (fun V (hV : Below w.heap.size w V) => (And.intro ((hV.cell (p := ⟨b, 0, none⟩) hbl).trans hb) (Nat.lt_of_lt_of_le hbl hV.size)))
 obtain ⟨A, c, rfl, _⟩ := h
 clear hb hbl
 go_enter Tryz.func218, Tryz.ntmps218
 go_wp2
 go_loopw [8] (fun i wr => ∃ k : Nat, k ≤ l.length ∧ i = .int .i64 k ∧ Hid ((l.take k).any (overN t) = false) ∧ Below w.heap.size w wr) (fun i _ => (l.length + 1 : Nat) - (intOf i).toNat)
 case atStart => exact ⟨0, by omega, rfl, rfl, Below.refl _ _⟩
 case round =>
  obtain ⟨k, hk, rfl, HA, hB⟩ := hrel
  by_cases hlt : k < l.length
  ·have hx : l[k]? = some l[k] := List.getElem?_eq_getElem hlt
   have hc := note_at (HS.out.later hB) hx
   generalize l[k] = y at hx hc
   obtain ⟨g, c', e, hg, _, t0, t1, t2, t3, t4⟩ := hc
   injection e with e1 e2 e3
   subst e1; subst e3
   have hk0 : (0 : Int) ≤ (k : Int) := by omega
   have hk1 : (k : Int) < (l.length : Int) := by omega
   have HX := Lib.hid hx
   have HB := Lib.hid hB
   clear hx hB
   go_wp2_with fail
   have hQ := overN_any b t wr y (HC.out _ HB.out).1 (HC.out _ HB.out).2
   unfold note at hQ
   refine hQ.mono ?_
   rintro e w2 ⟨rfl, hB2⟩
   have HB2 := Lib.hid (HB.out.trans (hB2.mono HB.out.size))
   clear hB2 t0 t1 t2 t3 t4 hQ
   cases hq : overN t y with
   | true =>
    have HI := Lib.hid (show ((k : Nat) : Int) = idxI l (overN t) by unfold idxI; rw [idx_first HA.out HX.out hq])
    clear hq
    go_wp2
    go_ret
    exact ⟨nb.ret_int HI.out, HB2.out⟩
   | false =>
    have HN := Lib.hid (none_on HA.out HX.out hq)
    clear hq
    go_wp2
    go_roundw
    case rel => exact ⟨k + 1, by omega, by go_num, HN, HB2.out⟩
    case measure => simp [intOf]; omega
  ·have HI := Lib.hid (show (-1 : Int) = idxI l (overN t) by unfold idxI; rw [idx_none HA.out (by omega)])
   have hk1 : ¬ (k : Int) < (l.length : Int) := by omega
   go_wp2
   go_ret
   exact ⟨nb.ret_int HI.out, hB⟩
theorem zeros_oneN (n : Nat) : ∀ u ∈ (Builtin.zeroCells (Value.agg #[.int .i64 0, .int .i64 0, .int .i64 0, .int .i64 0, .string ⟨#[]⟩]).cells n).toList, u.oneCell' = true := by
 intro u hu
 simp [Builtin.zeroCells, Value.cells] at hu
 obtain ⟨a, _, rfl⟩ := hu
 have h3 : a % 5 < 5 := Nat.mod_lt _ (by omega)
 match h : a % 5, h3 with
 | 0, _ => rfl
 | 1, _ => rfl
 | 2, _ => rfl
 | 3, _ => rfl
 | 4, _ => rfl
set_option maxRecDepth 100000 in
set_option maxHeartbeats 1600000 in
theorem delFN (W : World) (B : Nat) (v : Value) (l : List Nt) (h : OwnAt ntS 105 B W v l) (hl : l.length ≤ 1048576) (b : Nat) (t : Int) (hb : W.cell? ⟨b, 0, none⟩ = some (.int .i64 t)) (hbl : b < W.heap.size) (hvb : v.ownBlock ≠ some b) :
  Calls Tryz.prog 193 #[v, .func (.func 194) #[] #[.pointer (some ⟨b, 0, none⟩)]] W (MutN B W v (l.filter (fun y => !overN t y))) := by
 have HI := Lib.hid (idxFN W v l h.sees hl b t hb hbl)
 obtain ⟨A, c, rfl⟩ := OwnAt.form h
 cases hf : l.findIdx? (overN t) with
 | none =>
  have hE : l.filter (fun y => !overN t y) = l := by
   rw [List.filter_eq_self]
   intro y hy
   rw [List.findIdx?_eq_none_iff] at hf
   simpa using hf y hy
  have HI' := HI
  unfold IdxFPost idxI at HI'
  rw [hf] at HI'
  have HO := Lib.hid h
  have HE := Lib.hid hE
  clear hf hE HI h hb hbl hvb
  go_enter Tryz.func193, Tryz.ntmps193
  go_wp2_with fail
  refine HI'.out.mono ?_
  rintro e w2 ⟨rfl, hB2⟩
  have HR := Lib.hid (And.intro (HO.out.later hB2) (below_grown (row := (Value.slice A l.length c).ownBlock) hB2 ⟨rfl, rfl, rfl, Nat.le_refl _, fun _ _ _ => rfl⟩))
  clear hB2 HI'
  go_wp2
  go_ret
  exact ⟨_, rfl, by rw [HE.out]; exact HR.out.1, HR.out.2, From.refl _ _⟩
 | some i =>
  obtain ⟨j0, hj, hy0, hy1, hy2⟩ := info_parts infoNote
  obtain ⟨hkf, hil⟩ := keep_first hf
  have HI' := HI
  unfold IdxFPost idxI at HI'
  rw [hf] at HI'
  clear HI hf
  obtain ⟨g, rfl⟩ : ∃ g, A = some ⟨g, 0, none⟩ := by
   rcases h.2 with ⟨_, hn⟩ | ⟨g, cap, cur, e, _⟩
   ·omega
   ·injection e with e1
    exact ⟨g, e1⟩
  obtain ⟨_, hBg, hlc, hcm, cur, hR, hcur⟩ := ownAt_row h
  have hgl := hR.blk.lt
  have hgb : g ≠ b := fun e => hvb (by rw [← e]; rfl)
  have hcm' := hcm
  unfold maxLen at hcm'
  have hsz3 : (ntS).n = 5 := rfl
  have HR := Lib.hid hR
  have HCur := Lib.hid hcur
  have HCb := Lib.hid (And.intro hb hbl)
  clear h hb hbl hvb hR hcur
  have hi0 : ¬ ((i : Int) = -1) := by omega
  have hi1 : ((i : Int) == -1) = false := by rw [beq_eq_false_iff_ne]; omega
  have hw1 : IntKind.i64.wrap ((i : Int) + 1) = (i : Int) + 1 := by rw [IntKind.wrap_i64]; omega
  go_enter Tryz.func193, Tryz.ntmps193
  go_wp2_with fail
  refine HI'.out.mono ?_
  rintro e w2 ⟨rfl, hB2⟩
  have HR2 := Lib.hid (show Row ntS 105 w2 g c cur from ⟨HR.out.blk.below hB2 hgl, HR.out.size⟩)
  have HG2 := Lib.hid (below_grown (row := some g) hB2 ⟨rfl, rfl, rfl, Nat.le_refl _, fun _ _ _ => rfl⟩)
  have HC2 := Lib.hid (And.intro ((hB2.cell (p := ⟨b, 0, none⟩) HCb.out.2).trans HCb.out.1) (Nat.lt_of_lt_of_le HCb.out.2 hB2.size))
  clear hB2 HI' HCb HR
  go_wp2
  go_loopw [5, 6] (fun kv jv wr => ∃ (k j : Nat) (cu : Array Value), k + 1 ≤ j ∧ j ≤ l.length ∧ kv = .int .i64 k ∧ jv = .int .i64 j ∧ Hid (((l.take j).filter (fun y => !overN t y)).length = k) ∧ Hid (Row ntS 105 wr g c cu) ∧ Hid (∀ q y, ((l.take j).filter (fun y => !overN t y))[q]? = some y → ∀ r u, (ntF y)[r]? = some u → cu[q * 5 + r]? = some u) ∧ Hid (∀ q y, j ≤ q → l[q]? = some y → ∀ r u, (ntF y)[r]? = some u → cu[q * 5 + r]? = some u) ∧ Hid (W.grownBy wr (some g)) ∧ Hid (wr.cell? ⟨b, 0, none⟩ = some (.int .i64 t) ∧ b < wr.heap.size)) (fun _ jv _ => (l.length + 1 : Nat) - (intOf jv).toNat)
  case atStart =>
   refine ⟨i, i + 1, cur, by omega, by omega, rfl, by go_num, ?_, HR2, ?_, ?_, HG2, HC2⟩
   ·show _ = _
    rw [hkf, List.length_take]; omega
   ·show ∀ q y, _ → _
    rw [hkf]
    intro q y hq r u hu
    rw [List.getElem?_take] at hq
    split at hq
    ·exact row_at HCur.out hq hu
    ·cases hq
   ·exact fun q y _ hq r u hu => row_at HCur.out hq hu
  case round =>
   obtain ⟨k, j, cu, hkj, hjl, rfl, rfl, HL, HRo, HK, HT, HG, HC⟩ := hrel
   clear HR2 HG2 HC2 HCur hkf
   by_cases hlt : j < l.length
   ·have hx : l[j]? = some l[j] := List.getElem?_eq_getElem hlt
    generalize l[j] = y at hx
    have t0 : wr.cell? ⟨g, j * 5, none⟩ = some (.int .i64 y.f) := (HRo.out.blk.cell _).trans (HT.out j y (Nat.le_refl _) hx 0 _ rfl)
    have t1 : wr.cell? ⟨g, j * 5 + 1, none⟩ = some (.int .i64 y.n) := (HRo.out.blk.cell _).trans (HT.out j y (Nat.le_refl _) hx 1 _ rfl)
    have t2 : wr.cell? ⟨g, j * 5 + 2, none⟩ = some (.int .i64 y.t) := (HRo.out.blk.cell _).trans (HT.out j y (Nat.le_refl _) hx 2 _ rfl)
    have t3 : wr.cell? ⟨g, j * 5 + 3, none⟩ = some (.int .i64 y.u) := (HRo.out.blk.cell _).trans (HT.out j y (Nat.le_refl _) hx 3 _ rfl)
    have t4 : wr.cell? ⟨g, j * 5 + 4, none⟩ = some (.string y.s) := (HRo.out.blk.cell _).trans (HT.out j y (Nat.le_refl _) hx 4 _ rfl)
    have hk0 : (0 : Int) ≤ (j : Int) := by omega
    have hk1 : (j : Int) < (l.length : Int) := by omega
    have hk2 : (0 : Int) ≤ (k : Int) := by omega
    have hk3 : (k : Int) < (l.length : Int) := by omega
    have hBa := (Below.refl wr.heap.size wr).alloc (Nat.le_refl _) (.cells #[.int .i64 y.f, .int .i64 y.n, .int .i64 y.t, .int .i64 y.u, .string y.s] 105)
    have hX := Blk.new wr 105 #[.int .i64 y.f, .int .i64 y.n, .int .i64 y.t, .int .i64 y.u, .string y.s]
    have hQ := overN_any b t (wr.alloc (.cells #[.int .i64 y.f, .int .i64 y.n, .int .i64 y.t, .int .i64 y.u, .string y.s] 105)) y ((hBa.cell (p := ⟨b, 0, none⟩) HC.out.2).trans HC.out.1) (Nat.lt_of_lt_of_le HC.out.2 hBa.size)
    unfold note at hQ
    have HX := Lib.hid hx
    have HQ := Lib.hid hQ
    have HBa := Lib.hid hBa
    have HXb := Lib.hid hX
    clear hx hQ hBa hX
    go_wp2_with fail
    refine HQ.out.mono ?_
    rintro e w3 ⟨rfl, hB3⟩
    have hB4 := HBa.out.trans (hB3.mono HBa.out.size)
    have hR3 : Row ntS 105 w3 g c cu := ⟨HRo.out.blk.below hB4 HRo.out.blk.lt, HRo.out.size⟩
    have hX3 := HXb.out.below hB3 HXb.out.lt
    have hC3 := And.intro ((hB4.cell (p := ⟨b, 0, none⟩) HC.out.2).trans HC.out.1) (Nat.lt_of_lt_of_le HC.out.2 hB4.size)
    have hG3 : W.grownBy w3 (some g) := ⟨hB4.os.trans HG.out.os, hB4.tape.trans HG.out.tape, hB4.output.trans HG.out.output, Nat.le_trans HG.out.size hB4.size, fun q hq hne => (hB4.block q (Nat.lt_of_lt_of_le hq HG.out.size)).trans (HG.out.block q hq hne)⟩
    obtain ⟨m0, m1, m2, m3, m4⟩ := nt_cells hX3
    have hgw : g ≠ wr.heap.size := by have := HRo.out.blk.lt; omega
    clear hB3 hB4 HQ HBa HXb t0 t1 t2 t3 t4
    cases hq : overN t y with
    | true =>
     have hfil : (l.take (j + 1)).filter (fun y => !overN t y) = (l.take j).filter (fun y => !overN t y) := filter_off HX.out (by rw [hq]; rfl)
     have HL2 : Hid (((l.take (j + 1)).filter (fun y => !overN t y)).length = k) := by show _ = _; rw [hfil]; exact HL.out
     have HK2 : Hid (∀ q y, ((l.take (j + 1)).filter (fun y => !overN t y))[q]? = some y → ∀ r u, (ntF y)[r]? = some u → cu[q * 5 + r]? = some u) := by show ∀ q y, _ → _; rw [hfil]; exact HK.out
     have HT2 : Hid (∀ q y, j + 1 ≤ q → l[q]? = some y → ∀ r u, (ntF y)[r]? = some u → cu[q * 5 + r]? = some u) := fun q y hq' => HT.out q y (by omega)
     have HR3 := Lib.hid hR3
     have HC3 := Lib.hid hC3
     have HG3 := Lib.hid hG3
     clear hq hfil hR3 hC3 hG3 hX3 HL HK HT HRo HG HC HX
     go_wp2
     go_roundw
     case rel => exact ⟨k, j + 1, cu, by omega, by omega, rfl, by go_num, HL2, HR3, HK2, HT2, HG3, HC3⟩
     case measure => simp [intOf]; omega
    | false =>
     have hfil : (l.take (j + 1)).filter (fun y => !overN t y) = (l.take j).filter (fun y => !overN t y) ++ [y] := filter_on HX.out (by rw [hq]; rfl)
     obtain ⟨cu2, hR4, hp1, hp2⟩ := hR3.put (k * 5) (ntF y)
     have hbig : k * 5 + (ntF y).length ≤ c * (ntS).n := by show k * 5 + 5 ≤ c * 5; omega
     have HL2 : Hid (((l.take (j + 1)).filter (fun y => !overN t y)).length = k + 1) := by show _ = _; rw [hfil, List.length_append, HL.out]; rfl
     have HK2 : Hid (∀ q y, ((l.take (j + 1)).filter (fun y => !overN t y))[q]? = some y → ∀ r u, (ntF y)[r]? = some u → cu2[q * 5 + r]? = some u) := by
      show ∀ q y, _ → _
      rw [hfil]
      intro q z hz r u hu
      have hr : r < 5 := (List.getElem?_eq_some_iff.1 hu).1
      by_cases hqk : q < k
      ·rw [List.getElem?_append_left (by rw [HL.out]; exact hqk)] at hz
       rw [hp1 _ (.inl (by omega))]
       exact HK.out q z hz r u hu
      ·rw [List.getElem?_append_right (by rw [HL.out]; omega), HL.out] at hz
       have hqk' : q = k := by have := (List.getElem?_eq_some_iff.1 hz).1; simp at this; omega
       subst hqk'
       simp at hz
       subst hz
       exact hp2 hbig r u hu
     have HT2 : Hid (∀ q y, j + 1 ≤ q → l[q]? = some y → ∀ r u, (ntF y)[r]? = some u → cu2[q * 5 + r]? = some u) := fun q z hq' hz r u hu => by
      rw [hp1 _ (.inr (by show k * 5 + 5 ≤ _; omega))]
      exact HT.out q z (by omega) hz r u hu
     have e0 := hR3.cell (j := k * 5) (by rw [hsz3]; omega)
     have e1 := hR3.cell (j := k * 5 + 1) (by rw [hsz3]; omega)
     have e2 := hR3.cell (j := k * 5 + 2) (by rw [hsz3]; omega)
     have e3 := hR3.cell (j := k * 5 + 3) (by rw [hsz3]; omega)
     have e4 := hR3.cell (j := k * 5 + 4) (by rw [hsz3]; omega)
     obtain ⟨z0, h0⟩ := Option.isSome_iff_exists.1 e0.1
     obtain ⟨z1, h1⟩ := Option.isSome_iff_exists.1 e1.1
     obtain ⟨z2, h2⟩ := Option.isSome_iff_exists.1 e2.1
     obtain ⟨z3, h3⟩ := Option.isSome_iff_exists.1 e3.1
     obtain ⟨z4, h4⟩ := Option.isSome_iff_exists.1 e4.1
     have f0 := e0.2
     have f1 := e1.2
     have f2 := e2.2
     have f3 := e3.2
     have f4 := e4.2
     have HR4 := Lib.hid hR4
     have HG4 := Lib.hid (putAll_grown hG3 (.inl rfl) (k * 5) (ntF y))
     have HC4 : Hid ((putAll w3 g (k * 5) (ntF y)).cell? ⟨b, 0, none⟩ = some (.int .i64 t) ∧ b < (putAll w3 g (k * 5) (ntF y)).heap.size) := by
      have hq2 := putAll_grown (W0 := w3) (W := w3) (g := g) (row := some g) ⟨rfl, rfl, rfl, Nat.le_refl _, fun _ _ _ => rfl⟩ (.inl rfl) (k * 5) (ntF y)
      exact ⟨(hq2.cell_far ⟨b, 0, none⟩ hC3.2 (fun e => by injection e with e; exact hgb e.symm)).trans hC3.1, Nat.lt_of_lt_of_le hC3.2 hq2.size⟩
     have hwk : IntKind.i64.wrap ((k : Int) + 1) = (k : Int) + 1 := by rw [IntKind.wrap_i64]; omega
     have hP : putAll w3 g (k * 5) (ntF y) = ((((w3.setCell ⟨g, k * 5, none⟩ (.int .i64 y.f)).setCell ⟨g, k * 5 + 1, none⟩ (.int .i64 y.n)).setCell ⟨g, k * 5 + 2, none⟩ (.int .i64 y.t)).setCell ⟨g, k * 5 + 3, none⟩ (.int .i64 y.u)).setCell ⟨g, k * 5 + 4, none⟩ (.string y.s) := rfl
     rw [hP] at HR4 HG4 HC4
     clear hq hfil hR3 hC3 hG3 hX3 HL HK HT HRo HG HC HX hR4 hp1 hp2 hbig e0 e1 e2 e3 e4 hP
     go_wp2
     go_roundw
     case rel => exact ⟨k + 1, j + 1, cu2, by omega, by omega, by go_num, by go_num, HL2, HR4, HK2, HT2, HG4, HC4⟩
     case measure => simp [intOf]; omega
   ·obtain rfl : j = l.length := by omega
    have hfin : (l.take l.length).filter (fun y => !overN t y) = l.filter (fun y => !overN t y) := by rw [List.take_length]
    have hkl : (l.filter (fun y => !overN t y)).length = k := by rw [← hfin]; exact HL.out
    have hK : ∀ q y, (l.filter (fun y => !overN t y))[q]? = some y → ∀ r u, (ntF y)[r]? = some u → cu[q * 5 + r]? = some u := by rw [← hfin]; exact HK.out
    obtain ⟨out, hout⟩ : ∃ out, out = l.filter (fun y => !overN t y) := ⟨_, rfl⟩
    rw [← hout] at hkl hK
    have HOut := Lib.hid hout
    clear hout
    have hzl : (Builtin.zeroCells (Value.agg #[.int .i64 0, .int .i64 0, .int .i64 0, .int .i64 0, .string ⟨#[]⟩]).cells (l.length - k)).toList.length = (l.length - k) * 5 := by
     rw [Array.length_toList, zeroCells_size]; rfl
    have hclr : ∀ ty cc, (Builtin.clear_ #[36] ty #[.slice (some ⟨g, k * 5, none⟩) (l.length - k) cc]).run Tryz.prog wr = .ok (.tuple #[]) (putAll wr g (k * 5) (Builtin.zeroCells (Value.agg #[.int .i64 0, .int .i64 0, .int .i64 0, .int .i64 0, .string ⟨#[]⟩]).cells (l.length - k)).toList) := fun ty cc =>
     run_clear_k wr _ ty 105 j0 _ g (k * 5) (l.length - k) cc Tryz.underlying36 hj hy0 (by omega)
      (fun r hr => (HRo.out.cell (by rw [hzl] at hr; rw [hsz3]; omega)).1) (fun r _ => HRo.out.blk.frozen _) (zeros_oneN _)
    obtain ⟨cu2, hR4, hp1, hp2⟩ := HRo.out.put (k * 5) (Builtin.zeroCells (Value.agg #[.int .i64 0, .int .i64 0, .int .i64 0, .int .i64 0, .string ⟨#[]⟩]).cells (l.length - k)).toList
    have hG4 := putAll_grown HG.out (.inl rfl) (k * 5) (Builtin.zeroCells (Value.agg #[.int .i64 0, .int .i64 0, .int .i64 0, .int .i64 0, .string ⟨#[]⟩]).cells (l.length - k)).toList
    generalize putAll wr g (k * 5) (Builtin.zeroCells (Value.agg #[.int .i64 0, .int .i64 0, .int .i64 0, .int .i64 0, .string ⟨#[]⟩]).cells (l.length - k)).toList = W4 at hclr hR4 hG4
    have HO := Lib.hid (show OwnAt ntS 105 B W4 (.slice (some ⟨g, 0, none⟩) k c) out from by
     have hkc : out.length * (ntS).n ≤ c * (ntS).n := Nat.mul_le_mul_right _ (by omega)
     have hz : cu2.toList.length = c * (ntS).n := by simp [hR4.size]
     have := ownAt_mk (l := out) hR4 hBg (by omega) hcm (flat_of ntS (by rw [List.length_take, hz]; omega) (fun q y hq r u hu => by
      have hr : r < 5 := by have := (List.getElem?_eq_some_iff.1 hu).1; rwa [(ntS).len] at this
      have hql : q < out.length := (List.getElem?_eq_some_iff.1 hq).1
      rw [List.getElem?_take, if_pos (by rw [hsz3]; omega), Array.getElem?_toList, hp1 _ (.inl (by rw [hsz3]; omega))]
      exact hK q y hq r u hu))
     rw [hkl] at this
     exact this)
    have HG := Lib.hid hG4
    have hk0 : ¬ ((l.length : Int) < (l.length : Int)) := by omega
    have hk2 : (0 : Int) ≤ (k : Int) := by omega
    have hk3 : (k : Int) ≤ (l.length : Int) := by omega
    have hk4 : (l.length : Int) ≤ (c : Int) := by omega
    have hk5 : ¬ (c = k) := by omega
    have hk6 : (k : Int) ≤ (c : Int) := by omega
    clear hfin hkl hK hzl hR4 hp1 hp2 hG4 HL HK HT HRo HC
    go_wp2
    go_ret
    exact ⟨_, rfl, by rw [← HOut.out]; exact HO.out, HG.out, fun q hq => .inr hq⟩
theorem overN_not (t : Int) : (fun y : Nt => !overN t y) = fun y => decide (t < y.u) := by
 funext y
 unfold overN
 by_cases h : y.u ≤ t
 ·rw [decide_eq_true h, decide_eq_false (by omega)]; rfl
 ·rw [decide_eq_false h, decide_eq_true (by omega)]; rfl
set_option maxRecDepth 100000 in
theorem dropN_any (W : World) (B : Nat) (v : Value) (l : List Nt) (t : Int) (h : OwnAt ntS 105 B W v l) (hl : l.length ≤ 1048576) :
  Calls Tryz.prog 170 #[v, .int .i64 t] W (MutN B W v (l.filter (fun y => decide (t < y.u)))) := by
 have hB0 := (Below.refl W.heap.size W).alloc (Nat.le_refl _) (.cells #[.int .i64 t] 3)
 have hlt := fun g (hg : v.ownBlock = some g) => (OwnAt.ltW h hg).2
 have HD := Lib.hid (delFN _ B v l (h.alloc (.cells #[.int .i64 t] 3)) hl W.heap.size t ((Blk.new W 3 #[.int .i64 t]).cell 0) (by simp) (fun e => by have := hlt _ e; omega))
 rw [overN_not] at HD
 have HB := Lib.hid hB0
 have hmf := mkfn
 obtain ⟨A, c, rfl⟩ := OwnAt.form h
 clear hB0 hlt h
 go_enter Tryz.func170, Tryz.ntmps170
 go_wp2_with fail
 refine HD.out.mono ?_
 rintro e w4 ⟨v', rfl, hO4, hG4, hF4⟩
 have HR := Lib.hid (And.intro hO4 (And.intro (below_grown HB.out hG4) (from_later HB.out.size hF4)))
 clear hO4 hG4 hF4
 go_wp2
 go_ret
 exact ⟨_, rfl, HR.out.1, HR.out.2.1, HR.out.2.2⟩
end Go.Proofs.YtckicpnnclbkpaaGreatDoor.kp

namespace Go.Proofs.YtckicpnnclbkpaaGreatDoor.sl
open Go.ChangeShapes Go.WideShapes Go.ChangeAt Go.RowKit
open wd cp ow
def SeesS (w : World) (v : Value) (l : List ByteArray) : Prop :=
 ∃ A c, v = .slice A l.length c ∧ (0 < l.length → ∃ g, A = some ⟨g, 0, none⟩ ∧ g < w.heap.size ∧ ∀ i x, l[i]? = some x → w.cell? ⟨g, i, none⟩ = some (.string x))
theorem sees_of_own {w0 w : World} {v : Value} {l : List ByteArray} (h : ow.Own 9 w0 w v (l.map Value.string)) : SeesS w v l := by
 obtain ⟨A, c, rfl, hc⟩ := h.form
 rw [List.length_map] at hc ⊢
 refine ⟨A, c, rfl, fun hn => ?_⟩
 obtain ⟨g, rfl, _, hg, hcell⟩ := hc hn
 exact ⟨g, rfl, hg, fun i x hx => hcell i _ (by simp [hx])⟩
theorem SeesS.later {w w' : World} {v : Value} {l : List ByteArray} (h : SeesS w v l) (hB : Below w.heap.size w w') : SeesS w' v l := by
 obtain ⟨A, c, rfl, hc⟩ := h
 refine ⟨A, c, rfl, fun hn => ?_⟩
 obtain ⟨g, rfl, hg, hcell⟩ := hc hn
 exact ⟨g, rfl, Nat.lt_of_lt_of_le hg hB.size, fun i x hx => (hB.cell (p := ⟨g, i, none⟩) hg).trans (hcell i x hx)⟩
theorem SeesS.drewN {w : World} {v : Value} {l : List ByteArray} (h : SeesS w v l) (q : Nat) : SeesS (w.drewN q) v l := h
def TruePost (w : World) (e : Ending) (w' : World) : Prop := e = .returned (.bool true) ∧ ∃ q, w' = w.drewN q
def dg : Nat → Nat → ByteArray → ByteArray
 | 0, _, out => out
 | f + 1, k, out => if k = 0 then out else dg f (k / 10) ((⟨#[UInt8.ofNat (48 + k % 10)]⟩ : ByteArray) ++ out)
theorem dg_zero (f : Nat) (out : ByteArray) : dg f 0 out = out := by cases f <;> simp [dg]
theorem dg_on {f k : Nat} {out : ByteArray} (h : 0 < k) : dg (f + 1) k out = dg f (k / 10) ((⟨#[UInt8.ofNat (48 + k % 10)]⟩ : ByteArray) ++ out) := by
 simp only [dg]; rw [if_neg (by omega)]
def mt (k : Nat) : ByteArray := (⟨#[109]⟩ : ByteArray) ++ dg 8 k ⟨#[]⟩
theorem conv_one (w : World) (n : Nat) (h : n < 256) :
  (convert 144 9 (.slice (some ⟨w.heap.size, 0, none⟩) 1 1)).run Tryz.prog (w.alloc (.cells #[.int .u8 (n : Int)] 5)) = .ok (.string ⟨#[UInt8.ofNat n]⟩) (w.alloc (.cells #[.int .u8 (n : Int)] 5)) := by
 refine run_convert_bytes_back (P := Tryz.prog) _ 144 9 5 ⟨w.heap.size, 0, none⟩ 1 [UInt8.ofNat n] Tryz.underlying144 Tryz.underlying5 Tryz.underlying9 (fun j hj => ?_)
 have : j = 0 := by simpa using hj
 subst this
 have e : (⟨w.heap.size, 0, none⟩ : Addr).add 0 = ⟨w.heap.size, 0, none⟩ := by unfold Addr.add; split <;> simp_all
 rw [e, (Blk.new w 5 #[.int .u8 (n : Int)]).cell 0]
 simp
 omega
theorem size_cat (a b : ByteArray) : (a ++ b).size = a.size + b.size := by simp
set_option maxRecDepth 100000 in
set_option maxHeartbeats 400000 in
theorem mark_text (k : Nat) (h0 : 1 ≤ k) (h1 : k < 100000000) (w : World) : Calls Tryz.prog 74 #[.int .i64 k] w (StrPost w (mt k)) := by
 have H := Lib.hid (show mt k = (⟨#[109]⟩ : ByteArray) ++ dg 8 k ⟨#[]⟩ from rfl)
 go_enter Tryz.func74, Tryz.ntmps74
 go_wp2
 go_loopw [0, 3] (fun i s wr => ∃ (m f : Nat) (out : ByteArray), i = .int .i64 m ∧ s = .string out ∧ Hid (m < 10 ^ f) ∧ out.size + f ≤ 8 ∧ m < 100000000 ∧ Hid (dg 8 k ⟨#[]⟩ = dg f m out) ∧ Below w.heap.size w wr) (fun i _ _ => (intOf i).toNat)
 case atStart => exact ⟨k, 8, ⟨#[]⟩, rfl, rfl, h1, by decide, h1, rfl, Below.refl _ _⟩
 case round =>
  obtain ⟨m, f, out, rfl, rfl, HF, hs, hm, HD, hB⟩ := hrel
  have hz := hB.size
  by_cases hm0 : 0 < m
  ·obtain ⟨f, rfl⟩ : ∃ f', f = f' + 1 := ⟨f - 1, by
    rcases Nat.eq_zero_or_pos f with rfl | h
    ·have := HF.out; omega
    ·omega⟩
   have HN : Hid (m / 10 < 10 ^ f) := Nat.div_lt_of_lt_mul (by have := HF.out; rw [Nat.pow_succ] at this; omega)
   have HD' := Lib.hid (HD.out.trans (dg_on hm0))
   have HZ := Lib.hid (size_cat ⟨#[UInt8.ofNat (48 + m % 10)]⟩ out)
   have hcv := conv_one wr (48 + m % 10) (by omega)
   rw [show ((48 + m % 10 : Nat) : Int) = 48 + (m : Int) % 10 by omega] at hcv
   generalize UInt8.ofNat (48 + m % 10) = ch at hcv HD' HZ
   have hso : (out.size : Int) ≤ 8388608 := by omega
   clear HF HD
   go_wp2
   go_roundw
   case rel => exact ⟨m / 10, f, _, by go_num, rfl, HN.out, by rw [HZ.out]; show 1 + out.size + f ≤ 8; omega, by omega, HD'.out, hB.alloc hz _⟩
   case measure => simp [intOf]; omega
  ·obtain rfl : m = 0 := by omega
   have HE := Lib.hid (HD.out.trans (dg_zero f out))
   have hso : (out.size : Int) ≤ 8388608 := by omega
   go_wp2
   go_ret
   exact ⟨by rw [H.out, HE.out]; rfl, hB⟩
def mts (k n : Nat) : List ByteArray := (List.range n).map fun i => mt (k + i)
def Touched (v : Value) (w w' : World) : Prop :=
 w'.os = w.os ∧ w'.tape = w.tape ∧ w'.output = w.output ∧ w.heap.size ≤ w'.heap.size ∧ ∀ b, b < w.heap.size → some b ≠ v.ownBlock → w'.heap[b]? = w.heap[b]?
theorem Touched.refl (v : Value) (w : World) : Touched v w w := ⟨rfl, rfl, rfl, Nat.le_refl _, fun _ _ _ => rfl⟩
theorem Touched.below {v : Value} {w w' : World} (h : Touched v w w') {B : Nat} (hB : ∀ g, v.ownBlock = some g → B ≤ g) (hw : B ≤ w.heap.size) : Below B w w' :=
 ⟨h.1, h.2.1, h.2.2.1, h.2.2.2.1, fun k hk => h.2.2.2.2 k (by omega) (fun e => by have := hB k e.symm; omega)⟩
theorem Touched.on {v : Value} {w w1 w2 : World} (h : Touched v w w1) (hb : Below w1.heap.size w1 w2) : Touched v w w2 :=
 ⟨hb.os.trans h.1, hb.tape.trans h.2.1, hb.output.trans h.2.2.1, Nat.le_trans h.2.2.2.1 hb.size, fun b hlt hne => (hb.block b (Nat.lt_of_lt_of_le hlt h.2.2.2.1)).trans (h.2.2.2.2 b hlt hne)⟩
theorem Touched.set {g n cap : Nat} {w w1 : World} (h : Touched (.slice (some ⟨g, 0, none⟩) n cap) w w1) (i : Nat) (x : Value) : Touched (.slice (some ⟨g, 0, none⟩) n cap) w (w1.setCell ⟨g, i, none⟩ x) :=
 ⟨h.1, h.2.1, h.2.2.1, by simpa using h.2.2.2.1, fun b hlt hne => (Below.heap_setCell w1 ⟨g, i, none⟩ x b (fun e => hne (by subst e; rfl))).trans (h.2.2.2.2 b hlt hne)⟩
def MarkPost (w : World) (v : Value) (k n : Nat) (e : Ending) (w' : World) : Prop :=
 e = .returned (.int .i64 ((k + n : Nat) : Int)) ∧ SeesS w' v (mts k n) ∧ Touched v w w'
def MRel (w : World) (g n cap k i : Nat) (wr : World) : Prop :=
 (∃ cur, Blk wr g 9 cur ∧ cur.size = cap ∧ ∀ j, j < i → cur[j]? = some (.string (mt (k + j)))) ∧ Touched (.slice (some ⟨g, 0, none⟩) n cap) w wr
end Go.Proofs.YtckicpnnclbkpaaGreatDoor.sl

namespace Go.Proofs.YtckicpnnclbkpaaGreatDoor.kp
open Go.ChangeShapes Go.WideShapes Go.ChangeAt Go.RowKit
open wd ow rl ok sl
def FillP {α : Type} (S : Shape α) (t : TypeId) (g n : Nat) (l : List α) (k m : Nat) (w : World) : Prop :=
 ∃ cur, Blk w g t cur ∧ cur.size = n * S.n ∧ (∀ i x, i < k → l[i]? = some x → ∀ j u, (S.f x)[j]? = some u → cur[i * S.n + j]? = some u) ∧ (∀ x, l[k]? = some x → ∀ j u, j < m → (S.f x)[j]? = some u → cur[k * S.n + j]? = some u)
section
variable {α : Type} {S : Shape α} {t : TypeId} {g n k m : Nat} {l : List α} {w w' w0 : World}
theorem FillP.of (h : Fill S t g n l k w) : FillP S t g n l k 0 w := by
 obtain ⟨cur, h1, h2, h3⟩ := h
 exact ⟨cur, h1, h2, h3, fun x _ j u hj => absurd hj (by omega)⟩
theorem FillP.later (h : FillP S t g n l k m w) (hB : Below w.heap.size w w') : FillP S t g n l k m w' := by
 obtain ⟨cur, h1, h2, h3, h4⟩ := h
 exact ⟨cur, h1.below hB h1.lt, h2, h3, h4⟩
theorem FillP.set (h : FillP S t g n l k m w) (hk : k < n) (hm : m < S.n) {x : α} (hx : l[k]? = some x) {u : Value} (hu : (S.f x)[m]? = some u) : FillP S t g n l k (m + 1) (w.setCell ⟨g, k * S.n + m, none⟩ u) := by
 obtain ⟨cur, h1, h2, h3, h4⟩ := h
 have hb : (k + 1) * S.n ≤ n * S.n := Nat.mul_le_mul_right _ hk
 rw [Nat.succ_mul] at hb
 refine ⟨_, h1.put _ _, by simpa using h2, fun i y hi hy j v hv => ?_, fun y hy j v hj hv => ?_⟩
 ·have hj : j < S.n := by have := (List.getElem?_eq_some_iff.1 hv).1; rwa [S.len] at this
  have hlt : (i + 1) * S.n ≤ k * S.n := Nat.mul_le_mul_right _ (by omega)
  rw [Nat.succ_mul] at hlt
  rw [Array.getElem?_setIfInBounds, if_neg (by omega)]
  exact h3 i y hi hy j v hv
 ·rw [Array.getElem?_setIfInBounds]
  by_cases e : j = m
  ·subst e
   rw [hx] at hy
   injection hy with hy
   subst hy
   rw [hu] at hv
   rw [if_pos rfl, if_pos (by omega)]
   exact hv
  ·rw [if_neg (by omega)]
   exact h4 y hy j v (by omega) hv
theorem FillP.done (h : FillP S t g n l k S.n w) : Fill S t g n l (k + 1) w := by
 obtain ⟨cur, h1, h2, h3, h4⟩ := h
 refine ⟨cur, h1, h2, fun i x hi hx j u hu => ?_⟩
 by_cases e : i = k
 ·subst e
  exact h4 x hx j u (by have := (List.getElem?_eq_some_iff.1 hu).1; rwa [S.len] at this) hu
 ·exact h3 i x (by omega) hx j u hu
theorem FillP.cell (h : FillP S t g n l k m w) (hk : k < n) {j : Nat} (hj : j < S.n) : (∃ x, w.cell? ⟨g, k * S.n + j, none⟩ = some x) ∧ w.frozen? ⟨g, k * S.n + j, none⟩ = false := by
 obtain ⟨cur, h1, h2, _⟩ := h
 have hm : (k + 1) * S.n ≤ n * S.n := Nat.mul_le_mul_right _ hk
 rw [Nat.succ_mul] at hm
 refine ⟨⟨cur[k * S.n + j]'(by omega), ?_⟩, h1.frozen _⟩
 rw [h1.cell]; exact Array.getElem?_eq_getElem (by omega)
theorem Fill.ownAt {B cap : Nat} (h : Fill S t g cap l l.length w) (hg : B ≤ g) (hc : l.length ≤ cap) (hm : cap ≤ maxLen) : OwnAt S t B w (.slice (some ⟨g, 0, none⟩) l.length cap) l := by
 obtain ⟨cur, h1, h2, h3⟩ := h
 have hle : l.length * S.n ≤ cap * S.n := Nat.mul_le_mul_right _ hc
 have h4 : cur.toList.length = cap * S.n := by simpa using h2
 have hf : cur.toList.take (l.length * S.n) = l.flatMap S.f := flat_of S (by rw [List.length_take]; omega) (fun i x hx j u hu => by
  have hj : j < S.n := by have := (List.getElem?_eq_some_iff.1 hu).1; rwa [S.len] at this
  have hi := (List.getElem?_eq_some_iff.mp hx).1
  have hlt : (i + 1) * S.n ≤ l.length * S.n := Nat.mul_le_mul_right _ hi
  rw [Nat.succ_mul] at hlt
  rw [List.getElem?_take_of_lt (by omega)]
  have := h3 i x hi hx j u hu
  simpa using this)
 exact ⟨by rw [flat_len S.len], .inr ⟨g, cap, cur, rfl, hg, h1, hc, hm, h2, hf⟩⟩
theorem grown_put {w W : World} {g : Nat} (h : w.grownBy W (some g)) (i : Nat) (v : Value) : w.grownBy (W.setCell ⟨g, i, none⟩ v) (some g) :=
 ⟨h.os, h.tape, h.output, by simpa using h.size, fun k hk hne => (Below.heap_setCell W ⟨g, i, none⟩ v k (fun e => hne (by rw [e]))).trans (h.block k hk hne)⟩
theorem grown_on {w W W' : World} {r : Option Nat} (h : w.grownBy W r) (hB : Below W.heap.size W W') : w.grownBy W' r :=
 ⟨hB.os.trans h.os, hB.tape.trans h.tape, hB.output.trans h.output, Nat.le_trans h.size hB.size, fun k hk hne => (hB.block k (Nat.lt_of_lt_of_le hk h.size)).trans (h.block k hk hne)⟩
theorem grown_refl (w : World) (r : Option Nat) : w.grownBy w r := ⟨rfl, rfl, rfl, Nat.le_refl _, fun _ _ _ => rfl⟩
end
def ntM (x : Int) : Nt := ⟨x, x + 1, x + 1 + 1, x + 1 + 1 + 1, mt (x + 1 + 1 + 1 + 1).toNat⟩
def mkM (x : Int) : Mk := ⟨x, x + 1, x + 1 + 1⟩
def ntMs (x : Int) (n : Nat) : List Nt := (List.range n).map fun i : Nat => ntM (x + 5 * i)
def mkMs (x : Int) (n : Nat) : List Mk := (List.range n).map fun i : Nat => mkM (x + 3 * i)
theorem mark_int (x : Int) (h0 : 1 ≤ x) (h1 : x < 100000000) (w : World) : Calls Tryz.prog 74 #[.int .i64 x] w (StrPost w (mt x.toNat)) := by
 obtain ⟨m, rfl⟩ := Int.eq_ofNat_of_zero_le (show 0 ≤ x by omega)
 exact mark_text m (by omega) (by omega) w
def MarkedN (w : World) (v : Value) (B n : Nat) (x : Int) (e : Ending) (w' : World) : Prop := e = .returned (.int .i64 (x + 5 * n)) ∧ OwnAt ntS 105 B w' v (ntMs x n) ∧ w.grownBy w' v.ownBlock
def MarkedM (w : World) (v : Value) (B n : Nat) (x : Int) (e : Ending) (w' : World) : Prop := e = .returned (.int .i64 (x + 3 * n)) ∧ OwnAt mkS 108 B w' v (mkMs x n) ∧ w.grownBy w' v.ownBlock
end Go.Proofs.YtckicpnnclbkpaaGreatDoor.kp

namespace Go.Proofs.YtckicpnnclbkpaaGreatDoor.kp
open Go.ChangeShapes Go.WideShapes Go.ChangeAt Go.RowKit
open wd ow rl ok sl
def FoundPost (w : World) (y : Int) (e : Ending) (w' : World) : Prop := e = .returned (.int .i64 y) ∧ Below w.heap.size w w'
def kM (x : Int) (h m i : Nat) : Kp := ⟨0, 0, 0, ntMs x h, mkMs (x + 5 * h) m, ntMs (x + 5 * h + 3 * m) i⟩
def kN (x : Int) (h m i : Nat) : Int := x + 5 * h + 3 * m + 5 * i
structure Marked (w w' : World) (a b c : Value) : Prop where
 os : w'.os = w.os
 tape : w'.tape = w.tape
 output : w'.output = w.output
 size : w.heap.size ≤ w'.heap.size
 block : ∀ k, k < w.heap.size → a.ownBlock ≠ some k → b.ownBlock ≠ some k → c.ownBlock ≠ some k → w'.heap[k]? = w.heap[k]?
structure Own3 (B : Nat) (W : World) (k : Kp) (a b c : Value) : Prop where
 held : OwnAt ntS 105 B W a k.held
 marks : OwnAt mkS 108 B W b k.marks
 inbox : OwnAt ntS 105 B W c k.inbox
 hm : Apart a b
 hi : Apart a c
 mi : Apart b c
theorem OwnK.three {w0 w : World} {k : Kp} {a b c : Value} (h : OwnK w0 w k a b c) : Own3 w0.heap.size w k a b c := ⟨h.held.1, h.marks.1, h.inbox.1, h.hm, h.hi, h.mi⟩
theorem Own3.sees {B : Nat} {W : World} {k : Kp} {a b c : Value} (h : Own3 B W k a b c) : SeesK W k a b c := ⟨h.held.sees, h.marks.sees, h.inbox.sees⟩
def MarkedPost (w : World) (B : Nat) (x : Int) (h m i : Nat) (a b c : Value) (e : Ending) (w' : World) : Prop := e = .returned (.int .i64 (kN x h m i)) ∧ Own3 B w' (kM x h m i) a b c ∧ Marked w w' a b c
end Go.Proofs.YtckicpnnclbkpaaGreatDoor.kp

namespace Go.Proofs.YtckicpnnclbkpaaGreatDoor.kp
open Go.ChangeShapes Go.WideShapes Go.ChangeAt Go.RowKit
open wd ow rl ok nb
section
variable {B R : Nat} {w w' W W' : World} {k k' : Kp} {a b c : Value}
theorem Own3.later (h : Own3 B W k a b c) (hb : Below W.heap.size W W') : Own3 B W' k a b c := ⟨h.held.later hb, h.marks.later hb, h.inbox.later hb, h.hm, h.hi, h.mi⟩
theorem Marked.below (h : Marked w w' a b c) (hO : Own3 B w k a b c) (hB : B ≤ w.heap.size) : Below B w w' :=
 ⟨h.os, h.tape, h.output, h.size, fun j hj => h.block j (by omega) (fun e => by have := (hO.held.lt e).1; omega) (fun e => by have := (hO.marks.lt e).1; omega) (fun e => by have := (hO.inbox.lt e).1; omega)⟩
def Off (R : Nat) (a b c : Value) : Prop := a.ownBlock ≠ some R ∧ b.ownBlock ≠ some R ∧ c.ownBlock ≠ some R
theorem OwnK.off (h : OwnK w W k a b c) (hR : W.heap.size ≤ R) : Off R a b c :=
 ⟨fun e => by have := (h.held.lt e).2; omega, fun e => by have := (h.marks.lt e).2; omega, fun e => by have := (h.inbox.lt e).2; omega⟩
theorem OwnK.off' (h : OwnK w W k a b c) (hR : R < w.heap.size) : Off R a b c :=
 ⟨fun e => by have := (h.held.lt e).1; omega, fun e => by have := (h.marks.lt e).1; omega, fun e => by have := (h.inbox.lt e).1; omega⟩
theorem Marked.blk {t : TypeId} {cs : Array Value} (h : Marked w w' a b c) (hR : Blk w R t cs) (hf : Off R a b c) : Blk w' R t cs := (h.block R hR.lt hf.1 hf.2.1 hf.2.2).trans hR
abbrev KBox (W : World) (R : Nat) (k : Kp) (a b c : Value) : Prop := Blk W R 39 #[.int .i64 k.id, .int .i64 k.time, .int .i64 k.next, a, b, c]
theorem KBox.cells (h : KBox W R k a b c) : W.cell? ⟨R, 0, none⟩ = some (.int .i64 k.id) ∧ W.cell? ⟨R, 1, none⟩ = some (.int .i64 k.time) ∧ W.cell? ⟨R, 2, none⟩ = some (.int .i64 k.next) ∧ W.cell? ⟨R, 3, none⟩ = some a ∧ W.cell? ⟨R, 4, none⟩ = some b ∧ W.cell? ⟨R, 5, none⟩ = some c :=
 ⟨h.cell 0, h.cell 1, h.cell 2, h.cell 3, h.cell 4, h.cell 5⟩
end
theorem start_few (id : Int) : (startK id).held.length = 0 ∧ (startK id).marks.length = 0 ∧ (startK id).inbox.length = 0 := by
 unfold startK; split <;> exact ⟨rfl, rfl, rfl⟩
end Go.Proofs.YtckicpnnclbkpaaGreatDoor.kp

namespace Go.Proofs.YtckicpnnclbkpaaGreatDoor.kp
open Go.ChangeShapes Go.WideShapes Go.ChangeAt Go.RowKit
open wd ow rl ok nb nx
structure MK (B : Nat) (W : World) (g : Nat) (k : Kp) (a b c : Value) : Prop where
 box : KBox W g k a b c
 own : Own3 B W k a b c
 off : Off g a b c
 gB : B ≤ g
 bW : B ≤ W.heap.size
section
variable {B g : Nat} {W W' : World} {k : Kp} {a b c : Value}
theorem MK.sees (h : MK B W g k a b c) : SeesK W k a b c := ⟨h.own.held.sees, h.own.marks.sees, h.own.inbox.sees⟩
theorem MK.later (h : MK B W g k a b c) (hb : Below W.heap.size W W') : MK B W' g k a b c := ⟨h.box.below hb h.box.lt, h.own.later hb, h.off, h.gB, Nat.le_trans h.bW hb.size⟩
end
set_option maxRecDepth 100000 in
set_option maxHeartbeats 1600000 in
theorem hasNote_any (W : World) (g : Nat) (k : Kp) (a b c : Value) (x : Nt) (hb : KBox W g k a b c) (h : SeesK W k a b c) (hl : k.held.length ≤ 1048576 ∧ k.marks.length ≤ 1048576 ∧ k.inbox.length ≤ 1048576) :
  Calls Tryz.prog 175 #[.pointer (some ⟨g, 0, none⟩), ntV x] W (BoolK W (hasN k.held x.f x.n || hasN k.inbox x.f x.n)) := by
 have hB0 := (Below.refl W.heap.size W).alloc (Nat.le_refl _) (.cells #[.int .i64 x.f, .int .i64 x.n, .int .i64 x.t, .int .i64 x.u, .string x.s] 105)
 have k2 := Blk.new W 105 #[.int .i64 x.f, .int .i64 x.n, .int .i64 x.t, .int .i64 x.u, .string x.s]
 have k3 : KBox _ g k a b c := Blk.alloc (w := W) hb (.cells #[.int .i64 x.f, .int .i64 x.n, .int .i64 x.t, .int .i64 x.u, .string x.s] 105)
 have HN := Lib.hid (fun V => nmark_any x.f x.n x.t x.u x.s V)
 unfold AggPost mark note at HN
 have H1 := Lib.hid (fun V (hV : Below W.heap.size W V) => hasN_any V a k.held (h.held.later hV) hl.1 x.f x.n x.u)
 have H2 := Lib.hid (fun V (hV : Below W.heap.size W V) => hasN_any V c k.inbox (h.inbox.later hV) hl.2.2 x.f x.n x.u)
 unfold BoolK mark at H1 H2
 have HE := Lib.hid (show (hasN k.held x.f x.n || hasN k.inbox x.f x.n) = (hasN k.held x.f x.n || hasN k.inbox x.f x.n) from rfl)
 generalize hasN k.held x.f x.n = p1 at H1 HE ⊢
 generalize hasN k.inbox x.f x.n = p2 at H2 HE ⊢
 obtain ⟨Aa, ca, rfl, _⟩ := h.held
 obtain ⟨Ab, cb, rfl, _⟩ := h.marks
 obtain ⟨Ac, cc, rfl, _⟩ := h.inbox
 clear hb h hl HE
 unfold ntV note
 cases p1 with
 | true =>
  go_enter Tryz.func175, Tryz.ntmps175
  go_upto_region 1 with (fail)
  generalize W.alloc (.cells #[.int .i64 x.f, .int .i64 x.n, .int .i64 x.t, .int .i64 x.u, .string x.s] 105) = V at hB0 k2 k3 ⊢
  obtain ⟨c0, c1, c2, c3, c4⟩ := qa.five k2
  obtain ⟨d0, d1, d2, d3, d4, d5⟩ := qa.six k3
  have HB := Lib.hid hB0
  clear k2 k3 hB0
  refine qa.region (by kernel_rfl) (by kernel_rfl) ?_
  repeat (go_big_quiet_step (first | (go_at_call 167; exact qa.of_below (HN.out _)) | (go_at_call 203; with_reducible exact qa.of_below (H1.out _ (HB.out.trans ((qa.After.h _).mono HB.out.size))))))
  refine wpQuiet_nil ?_
  rintro _ ⟨p, rfl⟩
  have HB2 := Lib.hid (HB.out.trans (p.h.mono HB.out.size))
  clear c0 c1 c2 c3 c4 d0 d1 d2 d3 d4 d5
  go_wp2
  go_ret
  exact ⟨rfl, HB2.out⟩
 | false =>
  go_enter Tryz.func175, Tryz.ntmps175
  go_upto_region 1 with (fail)
  generalize W.alloc (.cells #[.int .i64 x.f, .int .i64 x.n, .int .i64 x.t, .int .i64 x.u, .string x.s] 105) = V at hB0 k2 k3 ⊢
  obtain ⟨c0, c1, c2, c3, c4⟩ := qa.five k2
  obtain ⟨d0, d1, d2, d3, d4, d5⟩ := qa.six k3
  have HB := Lib.hid hB0
  clear k2 k3 hB0
  refine qa.region (by kernel_rfl) (by kernel_rfl) ?_
  repeat (go_big_quiet_step (first | (go_at_call 167; exact qa.of_below (HN.out _)) | (go_at_call 203; with_reducible exact qa.of_below (H1.out _ (HB.out.trans ((qa.After.h _).mono HB.out.size)))) | (go_at_call 203; with_reducible exact qa.of_below (H2.out _ (HB.out.trans ((qa.After.h _).mono HB.out.size))))))
  refine wpQuiet_nil ?_
  rintro _ ⟨p, rfl⟩
  have HB2 := Lib.hid (HB.out.trans (p.h.mono HB.out.size))
  clear c0 c1 c2 c3 c4 d0 d1 d2 d3 d4 d5
  go_wp2
  go_ret
  exact ⟨rfl, HB2.out⟩
end Go.Proofs.YtckicpnnclbkpaaGreatDoor.kp

