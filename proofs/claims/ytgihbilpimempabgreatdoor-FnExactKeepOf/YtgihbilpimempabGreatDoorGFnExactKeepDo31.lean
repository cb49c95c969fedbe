/-
  Merged texts: IDelFN, IAcc0, IMK.
-/
import Derived.Test.YtgihbilpimempabGreatDoorGFnExactKeepDo30
import Derived.Test.YtgihbilpimempabGreatDoorGFnExactKeepDo15
import Derived.Test.YtgihbilpimempabGreatDoorGFnExactKeepDo7
/-
  Contracts of slices.IndexFunc and slices.DeleteFunc at messages, with the closure of impl.dropExpired; impl.dropExpired.
-/
namespace Go.Proofs.YtgihbilpimempabGreatDoor.kp
open Go.ChangeShapes Go.WideShapes Go.ChangeAt Go.RowKit
open Go.Proofs.YtgihbilpimempabGreatDoor.wd Go.Proofs.YtgihbilpimempabGreatDoor.ow Go.Proofs.YtgihbilpimempabGreatDoor.rl Go.Proofs.YtgihbilpimempabGreatDoor.ok Go.Proofs.YtgihbilpimempabGreatDoor.nb Go.Proofs.YtgihbilpimempabGreatDoor.nx

/-- is a message over? -/
def overN (t : Int) (y : Nt) : Bool := decide (y.u ≤ t)

set_option maxRecDepth 100000 in
set_option maxHeartbeats 800000 in
theorem overN_any (b : Nat) (t : Int) (V : World) (y : Nt) (hb : V.cell? ⟨b, 0, none⟩ = some (.int .i64 t)) (hbl : b < V.heap.size) : Calls Tryz.prog 115 #[note y.f y.n y.t y.u y.s, .pointer (some ⟨b, 0, none⟩)] V (BoolK V (overN t y)) := by
  have k2 := Blk.new V 74 #[.int .i64 y.f, .int .i64 y.n, .int .i64 y.t, .int .i64 y.u, .string y.s]
  have hB0 := (Below.refl V.heap.size V).alloc (Nat.le_refl _) (.cells #[.int .i64 y.f, .int .i64 y.n, .int .i64 y.t, .int .i64 y.u, .string y.s] 74)
  have hb' := (hB0.cell (p := ⟨b, 0, none⟩) hbl).trans hb
  have hbl' : b < (V.alloc (.cells #[.int .i64 y.f, .int .i64 y.n, .int .i64 y.t, .int .i64 y.u, .string y.s] 74)).heap.size := by simp; omega
  have HE := Lib.hid (show decide (y.u ≤ t) = overN t y from rfl)
  clear hb
  unfold note
  go_enter Tryz.func115, Tryz.ntmps115
  go_wp2_with fail
  generalize V.alloc (.cells #[.int .i64 y.f, .int .i64 y.n, .int .i64 y.t, .int .i64 y.u, .string y.s] 74) = W at *
  obtain ⟨c0, c1, c2, c3, c4⟩ := qa.five k2
  have d0 : ∀ p : qa.After W, p.W.cell? ⟨b, 0, none⟩ = some (.int .i64 t) := fun p => qa.cell hbl' hb' p
  have HB := Lib.hid hB0
  clear k2 hB0 hb' hbl' hbl
  have hm := mNote
  have HN := Lib.hid (fun W => nmark_any y.f y.n y.t y.u y.s W)
  unfold AggPost mark note at HN
  have hfl : ∀ (W : World), (Instr.field 88 (.agg #[.int .i64 y.f, .int .i64 y.n, .int .i64 y.u]) 2).run Tryz.prog W = .ok (.int .i64 y.u) W := fun _ => by kernel_rfl
  refine qa.region (by kernel_rfl) (by kernel_rfl) ?_
  repeat (go_big_quiet_step (first | (go_at_call 93; exact qa.of_below (HN.out _))))
  refine wpQuiet_nil ?_
  rintro _ ⟨p, rfl⟩
  have HB2 := Lib.hid (HB.out.trans (p.h.mono HB.out.size))
  clear c0 c1 c2 c3 c4 d0 hm hfl HN
  go_wp2
  go_ret
  exact ⟨nb.ret_bool HE.out, HB2.out⟩


set_option maxRecDepth 100000 in
set_option maxHeartbeats 800000 in
theorem idxFN (w : World) (v : Value) (l : List Nt) (h : SeesN w v l) (hl : l.length ≤ 1048576) (b : Nat) (t : Int) (hb : w.cell? ⟨b, 0, none⟩ = some (.int .i64 t)) (hbl : b < w.heap.size) :
    Calls Tryz.prog 133 #[v, .func (.func 115) #[] #[.pointer (some ⟨b, 0, none⟩)]] w (IdxFPost w (idxI l (overN t))) := by
  have HS := Lib.hid h
  have HC := Lib.hid (fun V (hV : Below w.heap.size w V) => (And.intro ((hV.cell (p := ⟨b, 0, none⟩) hbl).trans hb) (Nat.lt_of_lt_of_le hbl hV.size)))
  obtain ⟨A, c, rfl, _⟩ := h
  clear hb hbl
  go_enter Tryz.func133, Tryz.ntmps133
  go_wp2
  go_loopw [8] (fun i wr => ∃ k : Nat, k ≤ l.length ∧ i = .int .i64 k ∧ Hid ((l.take k).any (overN t) = false) ∧ Below w.heap.size w wr) (fun i _ => (l.length + 1 : Nat) - (intOf i).toNat)
  case atStart => exact ⟨0, by omega, rfl, rfl, Below.refl _ _⟩
  case round =>
    obtain ⟨k, hk, rfl, HA, hB⟩ := hrel
    by_cases hlt : k < l.length
    · have hx : l[k]? = some l[k] := List.getElem?_eq_getElem hlt
      have hc := note_at (HS.out.later hB) hx
      generalize l[k] = y at hx hc
      obtain ⟨g, c', e, hg, _, t0, t1, t2, t3, t4⟩ := hc
      injection e with e1 e2 e3
      subst e1; subst e3
      have hk0 : (0 : Int) ≤ (k : Int) := by omega
      have hk1 : (k : Int) < (l.length : Int) := by omega
      have HX := Lib.hid hx
      have HB := Lib.hid hB
      clear hx hB
      go_wp2_with fail
      have hQ := overN_any b t wr y (HC.out _ HB.out).1 (HC.out _ HB.out).2
      unfold note at hQ
      refine hQ.mono ?_
      rintro e w2 ⟨rfl, hB2⟩
      have HB2 := Lib.hid (HB.out.trans (hB2.mono HB.out.size))
      clear hB2 t0 t1 t2 t3 t4 hQ
      cases hq : overN t y with
      | true =>
        have HI := Lib.hid (show ((k : Nat) : Int) = idxI l (overN t) by unfold idxI; rw [idx_first HA.out HX.out hq])
        clear hq
        go_wp2
        go_ret
        exact ⟨nb.ret_int HI.out, HB2.out⟩
      | false =>
        have HN := Lib.hid (none_on HA.out HX.out hq)
        clear hq
        go_wp2
        go_roundw
        case rel => exact ⟨k + 1, by omega, by go_num, HN, HB2.out⟩
        case measure => simp [intOf]; omega
    · have HI := Lib.hid (show (-1 : Int) = idxI l (overN t) by unfold idxI; rw [idx_none HA.out (by omega)])
      have hk1 : ¬ (k : Int) < (l.length : Int) := by omega
      go_wp2
      go_ret
      exact ⟨nb.ret_int HI.out, hB⟩

theorem zeros_oneN (n : Nat) : ∀ u ∈ (Builtin.zeroCells (Value.agg #[.int .i64 0, .int .i64 0, .int .i64 0, .int .i64 0, .string ⟨#[]⟩]).cells n).toList, u.oneCell' = true := by
  intro u hu
  simp [Builtin.zeroCells, Value.cells] at hu
  obtain ⟨a, _, rfl⟩ := hu
  have h3 : a % 5 < 5 := Nat.mod_lt _ (by omega)
  match h : a % 5, h3 with
  | 0, _ => rfl
  | 1, _ => rfl
  | 2, _ => rfl
  | 3, _ => rfl
  | 4, _ => rfl

set_option maxRecDepth 100000 in
set_option maxHeartbeats 1600000 in
theorem delFN (W : World) (B : Nat) (v : Value) (l : List Nt) (h : OwnAt ntS 74 B W v l) (hl : l.length ≤ 1048576) (b : Nat) (t : Int) (hb : W.cell? ⟨b, 0, none⟩ = some (.int .i64 t)) (hbl : b < W.heap.size) (hvb : v.ownBlock ≠ some b) :
    Calls Tryz.prog 114 #[v, .func (.func 115) #[] #[.pointer (some ⟨b, 0, none⟩)]] W (MutN B W v (l.filter (fun y => !overN t y))) := by
  have HI := Lib.hid (idxFN W v l h.sees hl b t hb hbl)
  obtain ⟨A, c, rfl⟩ := OwnAt.form h
  cases hf : l.findIdx? (overN t) with
  | none =>
    have hE : l.filter (fun y => !overN t y) = l := by
      rw [List.filter_eq_self]
      intro y hy
      rw [List.findIdx?_eq_none_iff] at hf
      simpa using hf y hy
    have HI' := HI
    unfold IdxFPost idxI at HI'
    rw [hf] at HI'
    have HO := Lib.hid h
    have HE := Lib.hid hE
    clear hf hE HI h hb hbl hvb
    go_enter Tryz.func114, Tryz.ntmps114
    go_wp2_with fail
    refine HI'.out.mono ?_
    rintro e w2 ⟨rfl, hB2⟩
    have HR := Lib.hid (And.intro (HO.out.later hB2) (below_grown (row := (Value.slice A l.length c).ownBlock) hB2 ⟨rfl, rfl, rfl, Nat.le_refl _, fun _ _ _ => rfl⟩))
    clear hB2 HI'
    go_wp2
    go_ret
    exact ⟨_, rfl, by rw [HE.out]; exact HR.out.1, HR.out.2, From.refl _ _⟩
  | some i =>
    obtain ⟨j0, hj, hy0, hy1, hy2⟩ := info_parts infoNote
    obtain ⟨hkf, hil⟩ := keep_first hf
    have HI' := HI
    unfold IdxFPost idxI at HI'
    rw [hf] at HI'
    clear HI hf
    obtain ⟨g, rfl⟩ : ∃ g, A = some ⟨g, 0, none⟩ := by
      rcases h.2 with ⟨_, hn⟩ | ⟨g, cap, cur, e, _⟩
      · omega
      · injection e with e1
        exact ⟨g, e1⟩
    obtain ⟨_, hBg, hlc, hcm, cur, hR, hcur⟩ := ownAt_row h
    have hgl := hR.blk.lt
    have hgb : g ≠ b := fun e => hvb (by rw [← e]; rfl)
    have hcm' := hcm
    unfold maxLen at hcm'
    have hsz3 : (ntS).n = 5 := rfl
    have HR := Lib.hid hR
    have HCur := Lib.hid hcur
    have HCb := Lib.hid (And.intro hb hbl)
    clear h hb hbl hvb hR hcur
    have hi0 : ¬ ((i : Int) = -1) := by omega
    have hi1 : ((i : Int) == -1) = false := by rw [beq_eq_false_iff_ne]; omega
    have hw1 : IntKind.i64.wrap ((i : Int) + 1) = (i : Int) + 1 := by rw [IntKind.wrap_i64]; omega
    go_enter Tryz.func114, Tryz.ntmps114
    go_wp2_with fail
    refine HI'.out.mono ?_
    rintro e w2 ⟨rfl, hB2⟩
    have HR2 := Lib.hid (show Row ntS 74 w2 g c cur from ⟨HR.out.blk.below hB2 hgl, HR.out.size⟩)
    have HG2 := Lib.hid (below_grown (row := some g) hB2 ⟨rfl, rfl, rfl, Nat.le_refl _, fun _ _ _ => rfl⟩)
    have HC2 := Lib.hid (And.intro ((hB2.cell (p := ⟨b, 0, none⟩) HCb.out.2).trans HCb.out.1) (Nat.lt_of_lt_of_le HCb.out.2 hB2.size))
    clear hB2 HI' HCb HR
    go_wp2
    go_loopw [5, 6] (fun kv jv wr => ∃ (k j : Nat) (cu : Array Value), k + 1 ≤ j ∧ j ≤ l.length ∧ kv = .int .i64 k ∧ jv = .int .i64 j ∧ Hid (((l.take j).filter (fun y => !overN t y)).length = k) ∧ Hid (Row ntS 74 wr g c cu) ∧ Hid (∀ q y, ((l.take j).filter (fun y => !overN t y))[q]? = some y → ∀ r u, (ntF y)[r]? = some u → cu[q * 5 + r]? = some u) ∧ Hid (∀ q y, j ≤ q → l[q]? = some y → ∀ r u, (ntF y)[r]? = some u → cu[q * 5 + r]? = some u) ∧ Hid (W.grownBy wr (some g)) ∧ Hid (wr.cell? ⟨b, 0, none⟩ = some (.int .i64 t) ∧ b < wr.heap.size)) (fun _ jv _ => (l.length + 1 : Nat) - (intOf jv).toNat)
    case atStart =>
      refine ⟨i, i + 1, cur, by omega, by omega, rfl, by go_num, ?_, HR2, ?_, ?_, HG2, HC2⟩
      · show _ = _
        rw [hkf, List.length_take]; omega
      · show ∀ q y, _ → _
        rw [hkf]
        intro q y hq r u hu
        rw [List.getElem?_take] at hq
        split at hq
        · exact row_at HCur.out hq hu
        · cases hq
      · exact fun q y _ hq r u hu => row_at HCur.out hq hu
    case round =>
      obtain ⟨k, j, cu, hkj, hjl, rfl, rfl, HL, HRo, HK, HT, HG, HC⟩ := hrel
      clear HR2 HG2 HC2 HCur hkf
      by_cases hlt : j < l.length
      · have hx : l[j]? = some l[j] := List.getElem?_eq_getElem hlt
        generalize l[j] = y at hx
        have t0 : wr.cell? ⟨g, j * 5, none⟩ = some (.int .i64 y.f) := (HRo.out.blk.cell _).trans (HT.out j y (Nat.le_refl _) hx 0 _ rfl)
        have t1 : wr.cell? ⟨g, j * 5 + 1, none⟩ = some (.int .i64 y.n) := (HRo.out.blk.cell _).trans (HT.out j y (Nat.le_refl _) hx 1 _ rfl)
        have t2 : wr.cell? ⟨g, j * 5 + 2, none⟩ = some (.int .i64 y.t) := (HRo.out.blk.cell _).trans (HT.out j y (Nat.le_refl _) hx 2 _ rfl)
        have t3 : wr.cell? ⟨g, j * 5 + 3, none⟩ = some (.int .i64 y.u) := (HRo.out.blk.cell _).trans (HT.out j y (Nat.le_refl _) hx 3 _ rfl)
        have t4 : wr.cell? ⟨g, j * 5 + 4, none⟩ = some (.string y.s) := (HRo.out.blk.cell _).trans (HT.out j y (Nat.le_refl _) hx 4 _ rfl)
        have hk0 : (0 : Int) ≤ (j : Int) := by omega
        have hk1 : (j : Int) < (l.length : Int) := by omega
        have hk2 : (0 : Int) ≤ (k : Int) := by omega
        have hk3 : (k : Int) < (l.length : Int) := by omega
        have hBa := (Below.refl wr.heap.size wr).alloc (Nat.le_refl _) (.cells #[.int .i64 y.f, .int .i64 y.n, .int .i64 y.t, .int .i64 y.u, .string y.s] 74)
        have hX := Blk.new wr 74 #[.int .i64 y.f, .int .i64 y.n, .int .i64 y.t, .int .i64 y.u, .string y.s]
        have hQ := overN_any b t (wr.alloc (.cells #[.int .i64 y.f, .int .i64 y.n, .int .i64 y.t, .int .i64 y.u, .string y.s] 74)) y ((hBa.cell (p := ⟨b, 0, none⟩) HC.out.2).trans HC.out.1) (Nat.lt_of_lt_of_le HC.out.2 hBa.size)
        unfold note at hQ
        have HX := Lib.hid hx
        have HQ := Lib.hid hQ
        have HBa := Lib.hid hBa
        have HXb := Lib.hid hX
        clear hx hQ hBa hX
        go_wp2_with fail
        refine HQ.out.mono ?_
        rintro e w3 ⟨rfl, hB3⟩
        have hB4 := HBa.out.trans (hB3.mono HBa.out.size)
        have hR3 : Row ntS 74 w3 g c cu := ⟨HRo.out.blk.below hB4 HRo.out.blk.lt, HRo.out.size⟩
        have hX3 := HXb.out.below hB3 HXb.out.lt
        have hC3 := And.intro ((hB4.cell (p := ⟨b, 0, none⟩) HC.out.2).trans HC.out.1) (Nat.lt_of_lt_of_le HC.out.2 hB4.size)
        have hG3 : W.grownBy w3 (some g) := ⟨hB4.os.trans HG.out.os, hB4.tape.trans HG.out.tape, hB4.output.trans HG.out.output, Nat.le_trans HG.out.size hB4.size, fun q hq hne => (hB4.block q (Nat.lt_of_lt_of_le hq HG.out.size)).trans (HG.out.block q hq hne)⟩
        obtain ⟨m0, m1, m2, m3, m4⟩ := nt_cells hX3
        have hgw : g ≠ wr.heap.size := by have := HRo.out.blk.lt; omega
        clear hB3 hB4 HQ HBa HXb t0 t1 t2 t3 t4
        cases hq : overN t y with
        | true =>
          have hfil : (l.take (j + 1)).filter (fun y => !overN t y) = (l.take j).filter (fun y => !overN t y) := filter_off HX.out (by rw [hq]; rfl)
          have HL2 : Hid (((l.take (j + 1)).filter (fun y => !overN t y)).length = k) := by show _ = _; rw [hfil]; exact HL.out
          have HK2 : Hid (∀ q y, ((l.take (j + 1)).filter (fun y => !overN t y))[q]? = some y → ∀ r u, (ntF y)[r]? = some u → cu[q * 5 + r]? = some u) := by show ∀ q y, _ → _; rw [hfil]; exact HK.out
          have HT2 : Hid (∀ q y, j + 1 ≤ q → l[q]? = some y → ∀ r u, (ntF y)[r]? = some u → cu[q * 5 + r]? = some u) := fun q y hq' => HT.out q y (by omega)
          have HR3 := Lib.hid hR3
          have HC3 := Lib.hid hC3
          have HG3 := Lib.hid hG3
          clear hq hfil hR3 hC3 hG3 hX3 HL HK HT HRo HG HC HX
          go_wp2
          go_roundw
          case rel => exact ⟨k, j + 1, cu, by omega, by omega, rfl, by go_num, HL2, HR3, HK2, HT2, HG3, HC3⟩
          case measure => simp [intOf]; omega
        | false =>
          have hfil : (l.take (j + 1)).filter (fun y => !overN t y) = (l.take j).filter (fun y => !overN t y) ++ [y] := filter_on HX.out (by rw [hq]; rfl)
          obtain ⟨cu2, hR4, hp1, hp2⟩ := hR3.put (k * 5) (ntF y)
          have hbig : k * 5 + (ntF y).length ≤ c * (ntS).n := by show k * 5 + 5 ≤ c * 5; omega
          have HL2 : Hid (((l.take (j + 1)).filter (fun y => !overN t y)).length = k + 1) := by show _ = _; rw [hfil, List.length_append, HL.out]; rfl
          have HK2 : Hid (∀ q y, ((l.take (j + 1)).filter (fun y => !overN t y))[q]? = some y → ∀ r u, (ntF y)[r]? = some u → cu2[q * 5 + r]? = some u) := by
            show ∀ q y, _ → _
            rw [hfil]
            intro q z hz r u hu
            have hr : r < 5 := (List.getElem?_eq_some_iff.1 hu).1
            by_cases hqk : q < k
            · rw [List.getElem?_append_left (by rw [HL.out]; exact hqk)] at hz
              rw [hp1 _ (.inl (by omega))]
              exact HK.out q z hz r u hu
            · rw [List.getElem?_append_right (by rw [HL.out]; omega), HL.out] at hz
              have hqk' : q = k := by have := (List.getElem?_eq_some_iff.1 hz).1; simp at this; omega
              subst hqk'
              simp at hz
              subst hz
              exact hp2 hbig r u hu
          have HT2 : Hid (∀ q y, j + 1 ≤ q → l[q]? = some y → ∀ r u, (ntF y)[r]? = some u → cu2[q * 5 + r]? = some u) := fun q z hq' hz r u hu => by
            rw [hp1 _ (.inr (by show k * 5 + 5 ≤ _; omega))]
            exact HT.out q z (by omega) hz r u hu
          have e0 := hR3.cell (j := k * 5) (by rw [hsz3]; omega)
          have e1 := hR3.cell (j := k * 5 + 1) (by rw [hsz3]; omega)
          have e2 := hR3.cell (j := k * 5 + 2) (by rw [hsz3]; omega)
          have e3 := hR3.cell (j := k * 5 + 3) (by rw [hsz3]; omega)
          have e4 := hR3.cell (j := k * 5 + 4) (by rw [hsz3]; omega)
          obtain ⟨z0, h0⟩ := Option.isSome_iff_exists.1 e0.1
          obtain ⟨z1, h1⟩ := Option.isSome_iff_exists.1 e1.1
          obtain ⟨z2, h2⟩ := Option.isSome_iff_exists.1 e2.1
          obtain ⟨z3, h3⟩ := Option.isSome_iff_exists.1 e3.1
          obtain ⟨z4, h4⟩ := Option.isSome_iff_exists.1 e4.1
          have f0 := e0.2
          have f1 := e1.2
          have f2 := e2.2
          have f3 := e3.2
          have f4 := e4.2
          have HR4 := Lib.hid hR4
          have HG4 := Lib.hid (putAll_grown hG3 (.inl rfl) (k * 5) (ntF y))
          have HC4 : Hid ((putAll w3 g (k * 5) (ntF y)).cell? ⟨b, 0, none⟩ = some (.int .i64 t) ∧ b < (putAll w3 g (k * 5) (ntF y)).heap.size) := by
            have hq2 := putAll_grown (W0 := w3) (W := w3) (g := g) (row := some g) ⟨rfl, rfl, rfl, Nat.le_refl _, fun _ _ _ => rfl⟩ (.inl rfl) (k * 5) (ntF y)
            exact ⟨(hq2.cell_far ⟨b, 0, none⟩ hC3.2 (fun e => by injection e with e; exact hgb e.symm)).trans hC3.1, Nat.lt_of_lt_of_le hC3.2 hq2.size⟩
          have hwk : IntKind.i64.wrap ((k : Int) + 1) = (k : Int) + 1 := by rw [IntKind.wrap_i64]; omega
          have hP : putAll w3 g (k * 5) (ntF y) = ((((w3.setCell ⟨g, k * 5, none⟩ (.int .i64 y.f)).setCell ⟨g, k * 5 + 1, none⟩ (.int .i64 y.n)).setCell ⟨g, k * 5 + 2, none⟩ (.int .i64 y.t)).setCell ⟨g, k * 5 + 3, none⟩ (.int .i64 y.u)).setCell ⟨g, k * 5 + 4, none⟩ (.string y.s) := rfl
          rw [hP] at HR4 HG4 HC4
          clear hq hfil hR3 hC3 hG3 hX3 HL HK HT HRo HG HC HX hR4 hp1 hp2 hbig e0 e1 e2 e3 e4 hP
          go_wp2
          go_roundw
          case rel => exact ⟨k + 1, j + 1, cu2, by omega, by omega, by go_num, by go_num, HL2, HR4, HK2, HT2, HG4, HC4⟩
          case measure => simp [intOf]; omega
      · obtain rfl : j = l.length := by omega
        have hfin : (l.take l.length).filter (fun y => !overN t y) = l.filter (fun y => !overN t y) := by rw [List.take_length]
        have hkl : (l.filter (fun y => !overN t y)).length = k := by rw [← hfin]; exact HL.out
        have hK : ∀ q y, (l.filter (fun y => !overN t y))[q]? = some y → ∀ r u, (ntF y)[r]? = some u → cu[q * 5 + r]? = some u := by rw [← hfin]; exact HK.out
        obtain ⟨out, hout⟩ : ∃ out, out = l.filter (fun y => !overN t y) := ⟨_, rfl⟩
        rw [← hout] at hkl hK
        have HOut := Lib.hid hout
        clear hout
        have hzl : (Builtin.zeroCells (Value.agg #[.int .i64 0, .int .i64 0, .int .i64 0, .int .i64 0, .string ⟨#[]⟩]).cells (l.length - k)).toList.length = (l.length - k) * 5 := by
          rw [Array.length_toList, zeroCells_size]; rfl
        have hclr : ∀ ty cc, (Builtin.clear_ #[26] ty #[.slice (some ⟨g, k * 5, none⟩) (l.length - k) cc]).run Tryz.prog wr = .ok (.tuple #[]) (putAll wr g (k * 5) (Builtin.zeroCells (Value.agg #[.int .i64 0, .int .i64 0, .int .i64 0, .int .i64 0, .string ⟨#[]⟩]).cells (l.length - k)).toList) := fun ty cc =>
          run_clear_k wr _ ty 74 j0 _ g (k * 5) (l.length - k) cc Tryz.underlying26 hj hy0 (by omega)
            (fun r hr => (HRo.out.cell (by rw [hzl] at hr; rw [hsz3]; omega)).1) (fun r _ => HRo.out.blk.frozen _) (zeros_oneN _)
        obtain ⟨cu2, hR4, hp1, hp2⟩ := HRo.out.put (k * 5) (Builtin.zeroCells (Value.agg #[.int .i64 0, .int .i64 0, .int .i64 0, .int .i64 0, .string ⟨#[]⟩]).cells (l.length - k)).toList
        have hG4 := putAll_grown HG.out (.inl rfl) (k * 5) (Builtin.zeroCells (Value.agg #[.int .i64 0, .int .i64 0, .int .i64 0, .int .i64 0, .string ⟨#[]⟩]).cells (l.length - k)).toList
        generalize putAll wr g (k * 5) (Builtin.zeroCells (Value.agg #[.int .i64 0, .int .i64 0, .int .i64 0, .int .i64 0, .string ⟨#[]⟩]).cells (l.length - k)).toList = W4 at hclr hR4 hG4
        have HO := Lib.hid (show OwnAt ntS 74 B W4 (.slice (some ⟨g, 0, none⟩) k c) out from by
          have hkc : out.length * (ntS).n ≤ c * (ntS).n := Nat.mul_le_mul_right _ (by omega)
          have hz : cu2.toList.length = c * (ntS).n := by simp [hR4.size]
          have := ownAt_mk (l := out) hR4 hBg (by omega) hcm (flat_of ntS (by rw [List.length_take, hz]; omega) (fun q y hq r u hu => by
            have hr : r < 5 := by have := (List.getElem?_eq_some_iff.1 hu).1; rwa [(ntS).len] at this
            have hql : q < out.length := (List.getElem?_eq_some_iff.1 hq).1
            rw [List.getElem?_take, if_pos (by rw [hsz3]; omega), Array.getElem?_toList, hp1 _ (.inl (by rw [hsz3]; omega))]
            exact hK q y hq r u hu))
          rw [hkl] at this
          exact this)
        have HG := Lib.hid hG4
        have hk0 : ¬ ((l.length : Int) < (l.length : Int)) := by omega
        have hk2 : (0 : Int) ≤ (k : Int) := by omega
        have hk3 : (k : Int) ≤ (l.length : Int) := by omega
        have hk4 : (l.length : Int) ≤ (c : Int) := by omega
        have hk5 : ¬ (c = k) := by omega
        have hk6 : (k : Int) ≤ (c : Int) := by omega
        clear hfin hkl hK hzl hR4 hp1 hp2 hG4 HL HK HT HRo HC
        go_wp2
        go_ret
        exact ⟨_, rfl, by rw [← HOut.out]; exact HO.out, HG.out, fun q hq => .inr hq⟩

theorem overN_not (t : Int) : (fun y : Nt => !overN t y) = fun y => decide (t < y.u) := by
  funext y
  unfold overN
  by_cases h : y.u ≤ t
  · rw [decide_eq_true h, decide_eq_false (by omega)]; rfl
  · rw [decide_eq_false h, decide_eq_true (by omega)]; rfl
set_option maxRecDepth 100000 in
theorem dropN_any (W : World) (B : Nat) (v : Value) (l : List Nt) (t : Int) (h : OwnAt ntS 74 B W v l) (hl : l.length ≤ 1048576) :
    Calls Tryz.prog 98 #[v, .int .i64 t] W (MutN B W v (l.filter (fun y => decide (t < y.u)))) := by
  have hB0 := (Below.refl W.heap.size W).alloc (Nat.le_refl _) (.cells #[.int .i64 t] 3)
  have hlt := fun g (hg : v.ownBlock = some g) => (OwnAt.ltW h hg).2
  have HD := Lib.hid (delFN _ B v l (h.alloc (.cells #[.int .i64 t] 3)) hl W.heap.size t ((Blk.new W 3 #[.int .i64 t]).cell 0) (by simp) (fun e => by have := hlt _ e; omega))
  rw [overN_not] at HD
  have HB := Lib.hid hB0
  have hmf := mkfn
  obtain ⟨A, c, rfl⟩ := OwnAt.form h
  clear hB0 hlt h
  go_enter Tryz.func98, Tryz.ntmps98
  go_wp2_with fail
  refine HD.out.mono ?_
  rintro e w4 ⟨v', rfl, hO4, hG4, hF4⟩
  have HR := Lib.hid (And.intro hO4 (And.intro (below_grown HB.out hG4) (from_later HB.out.size hF4)))
  clear hO4 hG4 hF4
  go_wp2
  go_ret
  exact ⟨_, rfl, HR.out.1, HR.out.2.1, HR.out.2.2⟩
end Go.Proofs.YtgihbilpimempabGreatDoor.kp

/-
  A keep under the program's hand: its block, its lists; contract of (*impl.Keep).hasNote.
-/
namespace Go.Proofs.YtgihbilpimempabGreatDoor.kp
open Go.ChangeShapes Go.WideShapes Go.ChangeAt Go.RowKit
open Go.Proofs.YtgihbilpimempabGreatDoor.wd Go.Proofs.YtgihbilpimempabGreatDoor.ow Go.Proofs.YtgihbilpimempabGreatDoor.rl Go.Proofs.YtgihbilpimempabGreatDoor.ok Go.Proofs.YtgihbilpimempabGreatDoor.nb Go.Proofs.YtgihbilpimempabGreatDoor.nx

/-- a keep in block g, its lists the call's own from B on -/
structure MK (B : Nat) (W : World) (g : Nat) (k : Kp) (a b c : Value) : Prop where
  box : KBox W g k a b c
  own : Own3 B W k a b c
  off : Off g a b c
  gB : B ≤ g
  bW : B ≤ W.heap.size
section
variable {B g : Nat} {W W' : World} {k : Kp} {a b c : Value}
theorem MK.sees (h : MK B W g k a b c) : SeesK W k a b c := ⟨h.own.held.sees, h.own.marks.sees, h.own.inbox.sees⟩
theorem MK.later (h : MK B W g k a b c) (hb : Below W.heap.size W W') : MK B W' g k a b c := ⟨h.box.below hb h.box.lt, h.own.later hb, h.off, h.gB, Nat.le_trans h.bW hb.size⟩
end

set_option maxRecDepth 100000 in
set_option maxHeartbeats 1600000 in
theorem hasNote_any (W : World) (g : Nat) (k : Kp) (a b c : Value) (x : Nt) (hb : KBox W g k a b c) (h : SeesK W k a b c) (hl : k.held.length ≤ 1048576 ∧ k.marks.length ≤ 1048576 ∧ k.inbox.length ≤ 1048576) :
    Calls Tryz.prog 103 #[.pointer (some ⟨g, 0, none⟩), ntV x] W (BoolK W (hasN k.held x.f x.n || hasN k.inbox x.f x.n)) := by
  have hB0 := (Below.refl W.heap.size W).alloc (Nat.le_refl _) (.cells #[.int .i64 x.f, .int .i64 x.n, .int .i64 x.t, .int .i64 x.u, .string x.s] 74)
  have k2 := Blk.new W 74 #[.int .i64 x.f, .int .i64 x.n, .int .i64 x.t, .int .i64 x.u, .string x.s]
  have k3 : KBox _ g k a b c := Blk.alloc (w := W) hb (.cells #[.int .i64 x.f, .int .i64 x.n, .int .i64 x.t, .int .i64 x.u, .string x.s] 74)
  have HN := Lib.hid (fun V => nmark_any x.f x.n x.t x.u x.s V)
  unfold AggPost mark note at HN
  have H1 := Lib.hid (fun V (hV : Below W.heap.size W V) => hasN_any V a k.held (h.held.later hV) hl.1 x.f x.n x.u)
  have H2 := Lib.hid (fun V (hV : Below W.heap.size W V) => hasN_any V c k.inbox (h.inbox.later hV) hl.2.2 x.f x.n x.u)
  unfold BoolK mark at H1 H2
  have HE := Lib.hid (show (hasN k.held x.f x.n || hasN k.inbox x.f x.n) = (hasN k.held x.f x.n || hasN k.inbox x.f x.n) from rfl)
  generalize hasN k.held x.f x.n = p1 at H1 HE ⊢
  generalize hasN k.inbox x.f x.n = p2 at H2 HE ⊢
  obtain ⟨Aa, ca, rfl, _⟩ := h.held
  obtain ⟨Ab, cb, rfl, _⟩ := h.marks
  obtain ⟨Ac, cc, rfl, _⟩ := h.inbox
  clear hb h hl HE
  unfold ntV note
  cases p1 with
  | true =>
    go_enter Tryz.func103, Tryz.ntmps103
    go_upto_region 1 with (fail)
    generalize W.alloc (.cells #[.int .i64 x.f, .int .i64 x.n, .int .i64 x.t, .int .i64 x.u, .string x.s] 74) = V at hB0 k2 k3 ⊢
    obtain ⟨c0, c1, c2, c3, c4⟩ := qa.five k2
    obtain ⟨d0, d1, d2, d3, d4, d5⟩ := qa.six k3
    have HB := Lib.hid hB0
    clear k2 k3 hB0
    refine qa.region (by kernel_rfl) (by kernel_rfl) ?_
    repeat (go_big_quiet_step (first | (go_at_call 93; exact qa.of_below (HN.out _)) | (go_at_call 124; with_reducible exact qa.of_below (H1.out _ (HB.out.trans ((qa.After.h _).mono HB.out.size))))))
    refine wpQuiet_nil ?_
    rintro _ ⟨p, rfl⟩
    have HB2 := Lib.hid (HB.out.trans (p.h.mono HB.out.size))
    clear c0 c1 c2 c3 c4 d0 d1 d2 d3 d4 d5
    go_wp2
    go_ret
    exact ⟨rfl, HB2.out⟩
  | false =>
    go_enter Tryz.func103, Tryz.ntmps103
    go_upto_region 1 with (fail)
    generalize W.alloc (.cells #[.int .i64 x.f, .int .i64 x.n, .int .i64 x.t, .int .i64 x.u, .string x.s] 74) = V at hB0 k2 k3 ⊢
    obtain ⟨c0, c1, c2, c3, c4⟩ := qa.five k2
    obtain ⟨d0, d1, d2, d3, d4, d5⟩ := qa.six k3
    have HB := Lib.hid hB0
    clear k2 k3 hB0
    refine qa.region (by kernel_rfl) (by kernel_rfl) ?_
    repeat (go_big_quiet_step (first | (go_at_call 93; exact qa.of_below (HN.out _)) | (go_at_call 124; with_reducible exact qa.of_below (H1.out _ (HB.out.trans ((qa.After.h _).mono HB.out.size)))) | (go_at_call 124; with_reducible exact qa.of_below (H2.out _ (HB.out.trans ((qa.After.h _).mono HB.out.size))))))
    refine wpQuiet_nil ?_
    rintro _ ⟨p, rfl⟩
    have HB2 := Lib.hid (HB.out.trans (p.h.mono HB.out.size))
    clear c0 c1 c2 c3 c4 d0 d1 d2 d3 d4 d5
    go_wp2
    go_ret
    exact ⟨rfl, HB2.out⟩
end Go.Proofs.YtgihbilpimempabGreatDoor.kp

/-
  A keep under the program's hand: a list or a number stored back.
-/
namespace Go.Proofs.YtgihbilpimempabGreatDoor.kp
open Go.ChangeShapes Go.WideShapes Go.ChangeAt Go.RowKit
open Go.Proofs.YtgihbilpimempabGreatDoor.wd Go.Proofs.YtgihbilpimempabGreatDoor.ow Go.Proofs.YtgihbilpimempabGreatDoor.rl Go.Proofs.YtgihbilpimempabGreatDoor.ok Go.Proofs.YtgihbilpimempabGreatDoor.nb Go.Proofs.YtgihbilpimempabGreatDoor.nx

section
variable {B g : Nat} {W W' : World} {k : Kp} {a b c : Value}
theorem blk_row {t : TypeId} {cs : Array Value} {row : Option Nat} (h : Blk W g t cs) (hb : W.grownBy W' row) (hg : row ≠ some g) : Blk W' g t cs := (hb.block g h.lt (fun e => hg e.symm)).trans h
theorem own_off {α : Type} {S : Shape α} {t : TypeId} {v : Value} {l : List α} (h : OwnAt S t B W v l) {p : Addr} (hp : v.ownBlock ≠ some p.block) (x : Value) : OwnAt S t B (W.setCell p x) v l :=
  h.same fun g' hg' => Below.heap_setCell W p x g' (fun e => hp (by rw [hg', e]))
theorem below_row {row : Option Nat} (hg : W.grownBy W' row) (hr : ∀ i, row = some i → B ≤ i) (hB : B ≤ W.heap.size) : Below B W W' :=
  ⟨hg.os, hg.tape, hg.output, hg.size, fun i hi => hg.block i (by omega) (fun e => by have := hr i e.symm; omega)⟩
theorem apart_row {u v : Value} (h : Apart u v) : u.ownBlock = none ∨ u.ownBlock ≠ v.ownBlock := by
  cases hu : u.ownBlock with
  | none => exact .inl rfl
  | some x => exact .inr fun e => h x hu e.symm
theorem from_apart {α : Type} {S : Shape α} {t : TypeId} {u v v' : Value} {l : List α} (hu : OwnAt S t B W u l) (h : Apart u v) (hF : From W v' v) : Apart u v' := fun x e1 e2 => by
  rcases hF x e2 with h1 | h1
  · have := (hu.lt e1).2; omega
  · exact h x e1 h1
theorem from_off {v v' : Value} (hl : g < W.heap.size) (h : v.ownBlock ≠ some g) (hF : From W v' v) : v'.ownBlock ≠ some g := fun e => by
  rcases hF g e with h1 | h1
  · omega
  · exact h h1
theorem MK.mut3 (h : MK B W g k a b c) {l : List Nt} {v' : Value} (hO : OwnAt ntS 74 B W' v' l) (hg : W.grownBy W' a.ownBlock) (hF : From W v' a) :
    MK B (W'.setCell ⟨g, 3, none⟩ v') g { k with held := l } v' b c ∧ Below B W (W'.setCell ⟨g, 3, none⟩ v') := by
  have hb : Below B W W' := below_row hg (fun i e => (h.own.held.lt e).1) h.bW
  have hne := from_off h.box.lt h.off.1 hF
  have box1 : KBox W' g k a b c := blk_row h.box hg h.off.1
  have hb2 := hb.setCell (p := ⟨g, 3, none⟩) h.gB v'
  refine ⟨⟨box1.put 3 v', ⟨own_off hO hne v', own_off (World.ownsRow.kept h.own.marks hg (apart_row h.own.hm.symm)) h.off.2.1 v', own_off (World.ownsRow.kept h.own.inbox hg (apart_row h.own.hi.symm)) h.off.2.2 v', (from_apart h.own.marks h.own.hm.symm hF).symm, (from_apart h.own.inbox h.own.hi.symm hF).symm, h.own.mi⟩, ⟨hne, h.off.2.1, h.off.2.2⟩, h.gB, Nat.le_trans h.bW hb2.size⟩, hb2⟩
theorem MK.mut4 (h : MK B W g k a b c) {l : List Mk} {v' : Value} (hO : OwnAt mkS 88 B W' v' l) (hg : W.grownBy W' b.ownBlock) (hF : From W v' b) :
    MK B (W'.setCell ⟨g, 4, none⟩ v') g { k with marks := l } a v' c ∧ Below B W (W'.setCell ⟨g, 4, none⟩ v') := by
  have hb : Below B W W' := below_row hg (fun i e => (h.own.marks.lt e).1) h.bW
  have hne := from_off h.box.lt h.off.2.1 hF
  have box1 : KBox W' g k a b c := blk_row h.box hg h.off.2.1
  have hb2 := hb.setCell (p := ⟨g, 4, none⟩) h.gB v'
  refine ⟨⟨box1.put 4 v', ⟨own_off (World.ownsRow.kept h.own.held hg (apart_row h.own.hm)) h.off.1 v', own_off hO hne v', own_off (World.ownsRow.kept h.own.inbox hg (apart_row h.own.mi.symm)) h.off.2.2 v', from_apart h.own.held h.own.hm hF, h.own.hi, (from_apart h.own.inbox h.own.mi.symm hF).symm⟩, ⟨h.off.1, hne, h.off.2.2⟩, h.gB, Nat.le_trans h.bW hb2.size⟩, hb2⟩
theorem MK.mut5 (h : MK B W g k a b c) {l : List Nt} {v' : Value} (hO : OwnAt ntS 74 B W' v' l) (hg : W.grownBy W' c.ownBlock) (hF : From W v' c) :
    MK B (W'.setCell ⟨g, 5, none⟩ v') g { k with inbox := l } a b v' ∧ Below B W (W'.setCell ⟨g, 5, none⟩ v') := by
  have hb : Below B W W' := below_row hg (fun i e => (h.own.inbox.lt e).1) h.bW
  have hne := from_off h.box.lt h.off.2.2 hF
  have box1 : KBox W' g k a b c := blk_row h.box hg h.off.2.2
  have hb2 := hb.setCell (p := ⟨g, 5, none⟩) h.gB v'
  refine ⟨⟨box1.put 5 v', ⟨own_off (World.ownsRow.kept h.own.held hg (apart_row h.own.hi)) h.off.1 v', own_off (World.ownsRow.kept h.own.marks hg (apart_row h.own.mi)) h.off.2.1 v', own_off hO hne v', h.own.hm, from_apart h.own.held h.own.hi hF, from_apart h.own.marks h.own.mi hF⟩, ⟨h.off.1, h.off.2.1, hne⟩, h.gB, Nat.le_trans h.bW hb2.size⟩, hb2⟩
theorem MK.set1 (h : MK B W g k a b c) (v : Int) : MK B (W.setCell ⟨g, 1, none⟩ (.int .i64 v)) g { k with time := v } a b c ∧ Below B W (W.setCell ⟨g, 1, none⟩ (.int .i64 v)) := by
  have hb2 := (Below.refl B W).setCell (p := ⟨g, 1, none⟩) h.gB (.int .i64 v)
  exact ⟨⟨h.box.put 1 _, ⟨own_off h.own.held h.off.1 _, own_off h.own.marks h.off.2.1 _, own_off h.own.inbox h.off.2.2 _, h.own.hm, h.own.hi, h.own.mi⟩, h.off, h.gB, Nat.le_trans h.bW hb2.size⟩, hb2⟩
theorem MK.set2 (h : MK B W g k a b c) (v : Int) : MK B (W.setCell ⟨g, 2, none⟩ (.int .i64 v)) g { k with next := v } a b c ∧ Below B W (W.setCell ⟨g, 2, none⟩ (.int .i64 v)) := by
  have hb2 := (Below.refl B W).setCell (p := ⟨g, 2, none⟩) h.gB (.int .i64 v)
  exact ⟨⟨h.box.put 2 _, ⟨own_off h.own.held h.off.1 _, own_off h.own.marks h.off.2.1 _, own_off h.own.inbox h.off.2.2 _, h.own.hm, h.own.hi, h.own.mi⟩, h.off, h.gB, Nat.le_trans h.bW hb2.size⟩, hb2⟩
theorem MK.far (h : MK B W g k a b c) {p : Addr} (hg : g ≠ p.block) (ho : Off p.block a b c) (x : Value) : MK B (W.setCell p x) g k a b c :=
  ⟨h.box.far hg x, ⟨own_off h.own.held ho.1 x, own_off h.own.marks ho.2.1 x, own_off h.own.inbox ho.2.2 x, h.own.hm, h.own.hi, h.own.mi⟩, h.off, h.gB, by simpa using h.bW⟩
end
end Go.Proofs.YtgihbilpimempabGreatDoor.kp

