/-
  The contract of the specification's MixPeel.
-/
import Derived.Test.YtokajeomojlinaaPeelSpec
import Derived.Deep.LoopGhost
namespace Go.Proofs.Ytokajeomojlinaa.ls
open Go.ChangeShapes Go.WideShapes Go.ChangeAt Go.RowKit
open Go.Proofs.Ytokajeomojlinaa.wd Go.Proofs.Ytokajeomojlinaa.cp Go.Proofs.Ytokajeomojlinaa.mp Go.Proofs.Ytokajeomojlinaa.mb Go.Proofs.Ytokajeomojlinaa.pp Go.Proofs.Ytokajeomojlinaa.ow Go.Proofs.Ytokajeomojlinaa.mk Go.Proofs.Ytokajeomojlinaa.pe Go.Proofs.Ytokajeomojlinaa.mi Go.Proofs.Ytokajeomojlinaa.ms Go.Proofs.Ytokajeomojlinaa.ci Go.Proofs.Ytokajeomojlinaa.cs

theorem tcs_ini (n : Nat) (s : St) : tcs n s 0 = tcs n ini n := by
  unfold tcs
  congr 1
  apply List.map_congr_left
  intro i hi
  rw [if_neg (by omega), if_pos (List.mem_range.mp hi)]
  rfl
theorem tcs_det {n : Nat} (s : St) (b : Nat) (p : Pc) : (tcs n s n).setIfInBounds b (.string (p.d.xor (sm p.S s.D 6)).str) = tcs n (pp.det s p b) n := by
  apply Array.ext
  · simp [tcs]
  · intro i h1 h2
    have hi : i < n := by simpa [tcs] using h2
    rw [Array.getElem_setIfInBounds (by simpa [tcs] using hi)]
    simp only [tcs, List.getElem_toArray, List.getElem_map, List.getElem_range]
    rw [if_pos hi, if_pos hi]
    by_cases e : b = i
    · subst e
      rw [if_pos rfl]
      simp [tx, pp.det, upd, updQ]
    · rw [if_neg e]
      have e' : i ≠ b := fun h => e h.symm
      simp [tx, pp.det, upd, updQ, e']
theorem part_snoc (ps : List Pc) (p : Pc) (s : St) : pp.part (ps ++ [p]) s = pp.step (pp.part ps s) p := by rw [part_append]; rfl

/-- at the head of the outer loop -/
def ORel2 (w : World) (n g : Nat) (ps : List Pc) (m : Nat) (ag : Bool) (wr : World) : Prop :=
  ∃ j, Blk wr g 9 (tcs n (pp.iter ps j) n) ∧ Below w.heap.size w wr ∧ (ag = false → pp.Still ps (pp.iter ps j)) ∧ m = if ag then 8 - cnt (pp.iter ps j).K 6 else 0
/-- at the head of the inner loop: k of the list are behind us in this pass -/
def IRel2 (w : World) (n g : Nat) (l : List Mx) (s : St) (k : Nat) (ag : Bool) (wr : World) : Prop :=
  Blk wr g 9 (tcs n (pp.part (pcs n (l.take k)) s) n) ∧ Below w.heap.size w wr ∧ (ag = false → pp.part (pcs n (l.take k)) s = s ∧ pp.Still (pcs n (l.take k)) s) ∧ (ag = true → cnt s.K 6 < cnt (pp.part (pcs n (l.take k)) s).K 6)
theorem still_snoc {ps : List Pc} {p : Pc} {s : St} (h : pp.Still ps s) (hp : ∀ b, ¬ pp.One p.S s.K b) : pp.Still (ps ++ [p]) s := fun q hq => by
  rcases List.mem_append.mp hq with hq | hq
  · exact h q hq
  · rw [List.mem_singleton.mp hq]; exact hp

set_option maxRecDepth 100000 in
set_option maxHeartbeats 4000000 in
theorem speel_any (w : World) (b : Int) (v : Value) (l : List Mx) (h : SeesM w v l) (hl : l.length ≤ 1048576) :
    Calls Try.prog 28 #[.int .i64 b, v] w (OwnPost 9 w ((peelL b l).map Value.string)) := by
  by_cases hin : 1 ≤ b ∧ b ≤ 6
  case neg =>
    have HE := Lib.hid (peelL_out (b := b) (by omega) l)
    have hf := inB_f (n := b) (a := 1) (b := 6) (by omega)
    go_enter Try.func28, Try.ntmps28
    go_wp2_with ((go_at_call 61; refine (in_any _ _ _ _).mono ?_; rintro e w' ⟨rfl, rfl⟩))
    go_ret
    exact ⟨_, rfl, by rw [HE.out]; exact Own.empty w⟩
  obtain ⟨n, rfl⟩ := Int.eq_ofNat_of_zero_le (show 0 ≤ b by omega)
  have hn0 : 1 ≤ n := by omega
  have hn1 : n ≤ 6 := by omega
  have HE := Lib.hid (peelL_in hn0 hn1 l)
  have ht := inB_t (n := (n : Int)) (a := 1) (b := 6) (by omega) (by omega)
  have hmk : ∀ (wx : World), (Instr.makeSlice 24 (.int .i64 n) (.int .i64 n)).run Try.prog wx = .ok (.slice (some ⟨wx.heap.size, 0, none⟩) n n) (wx.alloc (.cells (tcs n ini 0) 9)) := by
    rcases six hn0 hn1 with rfl | rfl | rfl | rfl | rfl | rfl <;> intro wx <;> kernel_rfl
  rw [tcs_ini] at hmk
  obtain ⟨A, c, rfl, hc⟩ := h
  have hS : SeesM w (.slice A l.length c) l := ⟨A, c, rfl, hc⟩
  have HS := Lib.hid hS
  clear hS hc hin
  have HR0 : Hid (ORel2 w n w.heap.size (pcs n l) 8 true (w.alloc (.cells (tcs n ini n) 9))) :=
    ⟨0, Blk.new w _ _, (Below.refl _ _).alloc (Nat.le_refl _) _, fun h => (by cases h), rfl⟩
  go_enter Try.func28, Try.ntmps28
  go_wp2_with ((go_at_call 61; refine (in_any _ _ _ _).mono ?_; rintro e w' ⟨rfl, rfl⟩))
  clear hmk ht
  go_loopg [6] 8 (fun m a wr => ∃ ag : Bool, a = .bool ag ∧ ORel2 w n w.heap.size (pcs n l) m ag wr)
  case atStart => exact ⟨true, rfl, HR0.out⟩
  case round =>
    obtain ⟨ag, rfl, j, hT, hB, hst, hgk⟩ := hrel
    clear HR0
    cases ag with
    | false =>
      have HF : Hid (fin (pcs n l) = pp.iter (pcs n l) j) := fin_eq ⟨⟨j, rfl⟩, hst rfl⟩
      have HO := Lib.hid (own_tcs (Nat.le_refl _) hT hn1 hB)
      clear hT hB hst hgk
      go_wp2
      go_ret
      exact ⟨_, rfl, by rw [HE.out, HF.out]; exact HO.out⟩
    | true =>
      have HGK := Lib.hid hgk
      have HZd := Lib.hid (Zd.iter (pcs n l) j)
      have HIt := Lib.hid (show pp.iter (pcs n l) (j + 1) = pp.part (pcs n l) (pp.iter (pcs n l) j) from rfl)
      have HI0 : Hid (IRel2 w n w.heap.size l (pp.iter (pcs n l) j) 0 false wr) := ⟨hT, hB, fun _ => ⟨rfl, fun q hq => by cases hq⟩, fun h => by cases h⟩
      clear hgk hT hB hst
      generalize pp.iter (pcs n l) j = s at HGK HZd HIt HI0
      obtain ⟨wo, rfl⟩ : ∃ x, x = wr := ⟨_, rfl⟩
      go_wp2
      go_loopw [6, 7] (fun a i wr => ∃ (k : Nat) (ag : Bool), k ≤ l.length ∧ i = .int .i64 k ∧ a = .bool ag ∧ IRel2 w n w.heap.size l s k ag wr) (fun _ i _ => (l.length + 1 : Nat) - (intOf i).toNat)
      case atStart => exact ⟨0, false, by omega, rfl, rfl, HI0.out⟩
      case round =>
        obtain ⟨k, ag, hk, rfl, rfl, hT, hB, hf, ht⟩ := hrel
        clear HI0
        by_cases hkl : k < l.length
        · have hx : l[k]? = some l[k] := List.getElem?_eq_getElem hkl
          generalize l[k] = m at hx
          obtain ⟨num, d⟩ := m
          obtain ⟨g, c', hA, hlt, _, r0, r1⟩ := (HS.out.later hB).at hx
          injection hA with hA _ hcc
          subst hA
          subst hcc
          have HTk := Lib.hid (take_snoc hx)
          clear hx
          go_wp2_with fail
          refine (smixed_any n (num, d) _).mono ?_
          rintro e w2 ⟨rfl, hB2⟩
          have hT2 := hT.below hB2 hT.lt
          have hBw2 := hB.trans (hB2.mono hB.size)
          cases hok : okP (n : Int) (num, d) with
          | false =>
            have R : Hid (IRel2 w n w.heap.size l s (k + 1) ag w2) := by
              unfold IRel2
              rw [HTk.out, pcs_f hok]
              exact ⟨hT2, hBw2, hf, ht⟩
            clear hT hB hf ht hT2 hBw2 hB2 hok r0 r1
            go_wp2
            go_roundw
            case rel => exact ⟨k + 1, ag, by omega, by go_num, rfl, R.out⟩
            case measure => simp [intOf]; omega
          | true =>
            have hd : d.size = 4 := by
              unfold okP at hok
              simp at hok
              exact hok.2
            have q0 := (hB2.cell (p := ⟨g, k * 2, none⟩) hlt).trans r0
            have q1 := (hB2.cell (p := ⟨g, k * 2 + 1, none⟩) hlt).trans r1
            have HPs := Lib.hid (pcs_t (l := l.take k) hok)
            have HZ' := Lib.hid (HZd.out.part (pcs (n : Int) (l.take k)))
            have HF := Lib.hid hf
            have HTt := Lib.hid ht
            have h0 := asc_nonneg (mo_asc (n : Int) num)
            have h6 : ∀ x ∈ mo (n : Int) num, x < 6 := fun x hx => by have := asc_lt' (mo_asc (n : Int) num) x hx; omega
            have hnd := asc_nodup (mo_asc (n : Int) num)
            have HXL := Lib.hid (fun D => xL_sm D h0 h6 hnd)
            have HOne := Lib.hid (fun (K : Nat → Bool) y (h : lf K (mo (n : Int) num) = [y]) => lf_one h0 h6 h)
            have HOf := Lib.hid (fun (K : Nat → Bool) b (h : pp.One (inL (mo (n : Int) num)) K b) => lf_of h0 h6 hnd h)
            have hlm := mo_small (n : Int) num
            have HAt := Lib.hid (asc_lt' (mo_asc (n : Int) num))
            have HN0 := Lib.hid h0
            have hTl := hT2.lt
            have HT2 := Lib.hid hT2
            have HB2 := Lib.hid hBw2
            clear hT hB hf ht hB2 r0 r1 h0 h6 hnd hok hT2 hBw2
            generalize hs' : pp.part (pcs (n : Int) (l.take k)) s = s' at HT2 HZ' HF HTt
            have HS' := Lib.hid hs'
            clear hs'
            go_wp2_with fail
            refine (left_any w2 n num d hd s' HZ'.out w.heap.size HT2.out).mono ?_
            rintro e w3 ⟨v3, rfl, hO3⟩
            have hT3 := HT2.out.below hO3.2 hTl
            have hB3 := HB2.out.trans (hO3.2.mono HB2.out.size)
            obtain ⟨A3, c3, rfl, hc3⟩ := hO3.form
            rw [List.length_map] at hc3 ⊢
            have hll := lf_len (K := s'.K) (l := mo (n : Int) num)
            by_cases h1 : (lf s'.K (mo (n : Int) num)).length = 1
            · obtain ⟨y, hy⟩ := List.length_eq_one_iff.mp h1
              have ho := HOne.out s'.K y hy
              have hmy : y ∈ mo (n : Int) num := by
                have : y ∈ lf s'.K (mo (n : Int) num) := by rw [hy]; exact List.mem_cons_self
                unfold lf at this
                exact (List.mem_filter.mp this).1
              have hy0 := HN0.out y hmy
              have hyn := HAt.out y hmy
              obtain ⟨g3, rfl, _, hg3, hcell3⟩ := hc3 (by omega)
              have e3 : w3.cell? ⟨g3, 0, none⟩ = some (.int .i64 y) := hcell3 0 _ (by rw [hy]; rfl)
              obtain ⟨j', rfl⟩ := Int.eq_ofNat_of_zero_le hy0
              rw [Int.toNat_natCast] at ho
              have hj'n : j' < n := by omega
              have t1 := hT3.cell j'
              rw [tcs_at s' n hj'n] at t1
              have f1 := hT3.frozen j'
              have hx := HXL.out s'.D
              have R : Hid (IRel2 w n w.heap.size l s (k + 1) true (w3.setCell ⟨w.heap.size, j', none⟩ (.string ((qb d 0).xor (xL s'.D (mo (n : Int) num))).str))) := by
                have hst : pp.step s' (pcOf (n : Int) (num, d)) = pp.det s' (pcOf (n : Int) (num, d)) j' := step_one ho
                have hcn := cnt_upd' ho.1 ho.new
                unfold IRel2
                rw [HTk.out, HPs.out, part_snoc, HS'.out, hst]
                refine ⟨?_, hB3.setCell (p := ⟨w.heap.size, j', none⟩) (Nat.le_refl _) _, fun h => (by cases h), fun _ => ?_⟩
                · have := hT3.put j' (.string ((qb d 0).xor (xL s'.D (mo (n : Int) num))).str)
                  rw [hx] at this ⊢
                  rw [← tcs_det s' j' (pcOf (n : Int) (num, d))]
                  exact this
                · show cnt s.K 6 < cnt (upd s'.K j') 6
                  rw [hcn]
                  cases ag with
                  | true => have := HTt.out rfl; omega
                  | false => rw [(HF.out rfl).1]; omega
              rw [h1]
              clear hc3 hcell3 hO3 hT3 hB3 hx ho hy h1 hll hmy
              go_wp2
              go_roundw
              case rel => exact ⟨k + 1, true, by omega, by go_num, rfl, R.out⟩
              case measure => simp [intOf]; omega
            · have hno : ∀ b, ¬ pp.One (pcOf (n : Int) (num, d)).S s'.K b := fun b hb => h1 (by rw [HOf.out s'.K b hb]; rfl)
              have R : Hid (IRel2 w n w.heap.size l s (k + 1) ag w3) := by
                unfold IRel2
                rw [HTk.out, HPs.out, part_snoc, HS'.out, step_none hno]
                refine ⟨hT3, hB3, fun h => ?_, HTt.out⟩
                obtain ⟨e1, e2⟩ := HF.out h
                exact ⟨e1, still_snoc e2 (by rw [← e1]; exact hno)⟩
              have hd1 : (((lf s'.K (mo (n : Int) num)).length : Int) == 1) = false := by rw [beq_eq_false_iff_ne]; omega
              clear hc3 hO3 hT3 hB3 hno h1 hll
              go_wp2
              go_roundw
              case rel => exact ⟨k + 1, ag, by omega, by go_num, rfl, R.out⟩
              case measure => simp [intOf]; omega
        · obtain rfl : k = l.length := by omega
          rw [List.take_length] at hT hf ht
          have hc6 := cnt_le (pp.part (pcs n l) s).K 6
          have R : Hid (ORel2 w n w.heap.size (pcs n l) (if ag then 8 - cnt (pp.part (pcs n l) s).K 6 else 0) ag wr) := by
            refine ⟨j + 1, by rw [HIt.out]; exact hT, hB, fun h => ?_, by rw [HIt.out]⟩
            rw [HIt.out, (hf h).1]
            exact (hf h).2
          have hms : (if ag then 8 - cnt (pp.part (pcs n l) s).K 6 else 0) < gk := by
            have h8 : gk = 8 - cnt s.K 6 := by simpa using HGK.out
            have hcs := cnt_le s.K 6
            cases ag with
            | true => have := ht rfl; rw [if_pos rfl]; omega
            | false => rw [if_neg (by simp)]; omega
          clear hT hB hf ht
          go_wp2
          go_roundg (if ag then 8 - cnt (pp.part (pcs n l) s).K 6 else 0)
          case measure => exact hms
          case rel => exact ⟨ag, rfl, R.out⟩
end Go.Proofs.Ytokajeomojlinaa.ls
