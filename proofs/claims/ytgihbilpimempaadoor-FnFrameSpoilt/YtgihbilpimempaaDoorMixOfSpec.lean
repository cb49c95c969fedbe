/-
  The contract of the specification's MixOf.
-/
import Derived.Test.YtgihbilpimempaaDoorMixOfImpl
namespace Go.Proofs.YtgihbilpimempaaDoor.ms
open Go.ChangeShapes Go.WideShapes Go.ChangeAt Go.RowKit
open Go.Proofs.YtgihbilpimempaaDoor.mp Go.Proofs.YtgihbilpimempaaDoor.mb Go.Proofs.YtgihbilpimempaaDoor.wd Go.Proofs.YtgihbilpimempaaDoor.mi

def bools (b : Nat) (u : Nat → Bool) : Array Value := ((List.range b).map fun i => Value.bool (u i)).toArray
theorem bools_at {b c : Nat} {u : Nat → Bool} (h : c < b) : (bools b u)[c]? = some (.bool (u c)) := by simp [bools, h]
theorem bools_set {b c : Nat} {u : Nat → Bool} : (bools b u).setIfInBounds c (.bool true) = bools b (upd u c) := by
  apply Array.ext
  · simp [bools]
  · intro i h1 h2
    simp [bools] at h1 h2
    rw [Array.getElem_setIfInBounds (by simpa [bools] using h1)]
    simp only [bools, upd, List.getElem_toArray, List.getElem_map, List.getElem_range]
    by_cases e : c = i
    · subst e; simp
    · rw [if_neg e, if_neg (fun h => e h.symm)]

theorem own_blk_ne {w : World} {g : Nat} {t : TypeId} {cs : Array Value} {base : Nat} {e : TypeId} {size n : Nat} {v : Value} {xs : List Value} (h : w.ownsRow base e size v n xs) (hg : Blk w g t cs) (hne : e ≠ t) : some g ≠ v.ownBlock := by
  rcases h.2 with ⟨rfl, _⟩ | ⟨g', cap, cur, rfl, _, hh, _⟩
  · simp [Value.ownBlock]
  · intro he
    have : g = g' := by simpa [Value.ownBlock] using he
    subst this
    unfold Blk at hg
    rw [hh] at hg
    injection hg with hg
    injection hg with _ ht
    exact hne ht

theorem blk_grown {w w' : World} {g : Nat} {t : TypeId} {cs : Array Value} {row : Option Nat} (h : Blk w g t cs) (hb : w.grownBy w' row) (hg : some g ≠ row) : Blk w' g t cs := (hb.block g h.lt hg).trans h

/-- the marks behind m steps; the empty slice that is to be filled -/
def SRel (w : World) (b : Nat) (x : Int) (m : Nat) (wr : World) : Prop :=
  Blk wr w.heap.size 3 #[] ∧ Blk wr (w.heap.size + 1) 4 (bools b (stu b x m)) ∧ Below w.heap.size w wr
theorem srel_on {w : World} {b : Nat} {x : Int} {m : Nat} {wr : World} {c : Nat} (h : SRel w b x m wr) (he : pr b (stu b x m) b (at_ b x m) = c) :
    SRel w b x (m + 1) (wr.setCell ⟨w.heap.size + 1, c, none⟩ (.bool true)) := by
  refine ⟨h.1.far (p := ⟨w.heap.size + 1, c, none⟩) (by simp) _, ?_, h.2.2.setCell (p := ⟨w.heap.size + 1, c, none⟩) (by simp) _⟩
  have := h.2.1.put c (.bool true)
  rw [bools_set] at this
  show Blk _ _ _ (bools b (upd _ _))
  rw [he]
  exact this

def GRel (w : World) (b : Nat) (u : Nat → Bool) (v : Value) (k : Nat) (wr : World) : Prop :=
  Ints w wr v (lst u k) ∧ Blk wr (w.heap.size + 1) 4 (bools b u)

set_option maxRecDepth 100000 in
set_option maxHeartbeats 1600000 in
theorem smo_any (blocks num : Int) (w : World) :
    Calls Tryd.prog 57 #[.int .i64 blocks, .int .i64 num] w (MoPost w blocks num) := by
  obtain ⟨i0, hi, hz0, hz1, hz2⟩ := info_parts infoInt
  have hE : Ints w (w.alloc (.cells #[] 3)) (.slice (some ⟨w.heap.size, 0, none⟩) 0 0) [] :=
    ⟨World.ownsRow_lit w #[] 0 (Nat.le_refl _) (by unfold maxLen; omega) rfl, (Below.refl _ _).alloc (Nat.le_refl _) _⟩
  cases hok : okM blocks num with
  | false =>
    have HM := Lib.hid (mo_no hok)
    have HE := Lib.hid hE
    clear hE
    go_enter Tryd.func57, Tryd.ntmps57
    go_wp2_with ((go_at_call 66; refine (sok_any _ _ _).mono ?_; rintro e w' ⟨rfl, rfl⟩))
    go_ret
    exact ⟨_, rfl, by rw [HM.out]; exact HE.out⟩
  | true =>
    obtain ⟨b0, b1, n0, n1⟩ := okM_out hok
    obtain ⟨b, rfl⟩ := Int.eq_ofNat_of_zero_le (show 0 ≤ blocks by omega)
    have HM := Lib.hid (mo_yes hok)
    by_cases hlt : num < b
    · have HN := Lib.hid (show moN b num = [num] by unfold moN; rw [if_pos hlt])
      go_enter Tryd.func57, Tryd.ntmps57
      go_wp2_with (first | (go_at_call 66; refine (sok_any _ _ _).mono ?_; rintro e w' ⟨rfl, rfl⟩) | (at_builtin; refine wpList_append_own _ rfl _ _ 56 rfl w.heap.size 3 i0 (.int .i64 0) 1 8 Tryd.underlying56 hi hz0 hz1 hz2 rfl (by decide) _ _ _ rfl (hE.1.alloc _) ⟨w.heap.size + 1, 0, none⟩ 1 1 [.int .i64 num] rfl rfl ?c1 ?c2 ?c3 ?c4 ?c5 ?_))
      case c1 => intro j x hj; match j, hj with | 0, hj => simp at hj; subst hj; simp [Addr.add]
      case c2 => intro x hx; simp at hx; subst hx; rfl
      case c3 => simp [maxLen]
      case c4 => simp
      case c5 => simp; omega
      intro v1 w1 hown1 hgrow1 _
      have R := Lib.hid (hE.more hown1 hgrow1)
      clear hown1 hgrow1 hE
      go_wp2
      go_ret
      refine ⟨_, rfl, ?_⟩
      rw [HM.out, HN.out]
      exact R.out
    · have HN := Lib.hid (show moN b num = lst (stu b (rnd (num * 7 + 1)) (mdN b num)) b by unfold moN; rw [if_neg hlt, show 7 * num + 1 = num * 7 + 1 by omega])
      have hx := rnd_range (num * 7 + 1)
      obtain ⟨d0, d1⟩ := mdN_range (b := b) (by omega) num
      have HD := Lib.hid (md_yes hok)
      have hmk : ∀ wx : World, (Instr.makeSlice 91 (.int .i64 b) (.int .i64 b)).run Tryd.prog wx = .ok (.slice (some ⟨wx.heap.size, 0, none⟩) b b) (wx.alloc (.cells (bools b (fun _ => false)) 4)) := by
        rcases six (show 1 ≤ b by omega) (by omega) with rfl | rfl | rfl | rfl | rfl | rfl <;> intro wx <;> kernel_rfl
      clear hE
      go_enter Tryd.func57, Tryd.ntmps57
      go_wp2_with (first | (go_at_call 66; refine (sok_any _ _ _).mono ?_; rintro e w' ⟨rfl, rfl⟩) | (go_at_call 67; refine (srnd_any _ _).mono ?_; rintro e w' ⟨rfl, rfl⟩))
      refine (smd_any _ _ _).mono ?_
      rintro e w2 ⟨rfl, rfl⟩
      rw [HD.out]
      clear hmk
      generalize mdN b num = m at d0 d1 HN ⊢
      generalize rnd (num * 7 + 1) = X at hx HN ⊢
      go_wp2
      go_loopw [7, 8, 9] (fun x n _ wr => ∃ k r : Nat, Hid (r + k = m) ∧ r ≤ m ∧ k ≤ m ∧ n = .int .i64 r ∧ x = .int .i64 (stx X k) ∧ SRel w b X k wr) (fun _ n _ _ => (intOf n).toNat)
      case atStart =>
        refine ⟨0, m, rfl, by omega, by omega, rfl, rfl, ?_, ?_, ?_⟩
        · exact (Blk.new w 3 #[]).alloc _
        · have := Blk.new (w.alloc (.cells #[] 3)) 4 (bools b (fun _ => false))
          have e : stu b X 0 = fun _ => false := rfl
          rw [e]
          simpa using this
        · exact ((Below.refl _ _).alloc (Nat.le_refl _) _).alloc (by simp) _
      case round =>
        obtain ⟨k, r, HK, hrm, hk, rfl, rfl, hS⟩ := hrel
        by_cases hkr : 0 < r
        · have hkm : k < m := by have := HK.out; omega
          have hat := at_lt (b := b) (by omega) X k
          have HA := Lib.hid (show rnd (stx X k) / 16 % (b : Int) = (at_ b X k : Int) by
            have h0 : 0 ≤ rnd (stx X k) / 16 % (b : Int) := Int.emod_nonneg _ (by omega)
            unfold at_; omega)
          have hcn := (stu_cnt (b := b) (by omega) X k (by omega)).1
          obtain ⟨hf, hp⟩ := find (u := stu b X k) hat (by omega)
          have HF := Lib.hid hf
          have hr := rnd_range (stx X k)
          clear hcn hf
          go_wp2_with ((go_at_call 67; refine (srnd_any _ _).mono ?_; rintro e w' ⟨rfl, rfl⟩))
          go_loopg [9] b (fun f p wq => ∃ d : Nat, d < b ∧ p = .int .i64 d ∧ Hid (pr b (stu b X k) b (at_ b X k) = pr b (stu b X k) f d) ∧ wr = wq)
          case atStart => exact ⟨at_ b X k, hat, by rw [HA.out], rfl, rfl⟩
          case round =>
            obtain ⟨d, hd, rfl, HP, rfl⟩ := hrel
            have kd := hS.2.1.cell d
            rw [bools_at hd] at kd
            have fd := hS.2.1.frozen d
            cases hu : stu b X k d with
            | true =>
              rw [hu] at kd
              have hgk : 0 < gk := by
                rcases Nat.eq_zero_or_pos gk with rfl | h
                · have h1 := HF.out; rw [HP.out] at h1; rw [show pr b (stu b X k) 0 d = d from rfl, hu] at h1; cases h1
                · exact h
              have HQ := Lib.hid (show pr b (stu b X k) b (at_ b X k) = pr b (stu b X k) (gk - 1) ((d + 1) % b) by
                rw [HP.out]; obtain ⟨f, rfl⟩ : ∃ f, gk = f + 1 := ⟨gk - 1, by omega⟩; rw [pr_miss hu]; rfl)
              have hlt' : (d + 1) % b < b := Nat.mod_lt _ (by omega)
              clear hu
              go_wp2
              go_roundg (gk - 1)
              case measure => omega
              case rel => exact ⟨(d + 1) % b, hlt', by simp, HQ.out, rfl⟩
            | false =>
              rw [hu] at kd
              have HQ := Lib.hid (show pr b (stu b X k) b (at_ b X k) = d by rw [HP.out, pr_hit hu])
              have R := Lib.hid (srel_on hS HQ.out)
              clear hu
              go_wp2
              go_roundw
              case rel => exact ⟨k + 1, r - 1, by have := HK.out; exact (by omega : r - 1 + (k + 1) = m), by omega, by omega, by go_num, rfl, R.out⟩
              case measure => simp [intOf]; omega
        · obtain rfl : k = m := by have := HK.out; omega
          have HL := Lib.hid (show mo b num = lst (stu b X k) b by rw [HM.out, HN.out])
          have hG : GRel w b (stu b X k) (.slice (some ⟨w.heap.size, 0, none⟩) 0 0) 0 wr :=
            ⟨⟨⟨rfl, .inr ⟨w.heap.size, 0, #[], rfl, Nat.le_refl _, hS.1, Nat.le_refl _, by unfold maxLen; omega, rfl, rfl⟩⟩, hS.2.2⟩, hS.2.1⟩
          clear hS HN
          generalize stu b X k = u at HL hG
          go_wp2
          go_loopw [5, 10] (fun v i wq => ∃ j : Nat, j ≤ b ∧ i = .int .i64 j ∧ GRel w b u v j wq) (fun _ i _ => (b + 1 : Nat) - (intOf i).toNat)
          case atStart => exact ⟨0, by omega, rfl, hG⟩
          case round =>
            obtain ⟨j, hj, rfl, hI, hU⟩ := hrel
            clear hG
            by_cases hjb : j < b
            · have hll := lst_le u j
              have kj := hU.cell j
              rw [bools_at hjb] at kj
              cases hu : u j with
              | true =>
                have HS := Lib.hid (lst_step_t hu)
                rw [hu] at kj
                clear hu
                go_wp2_with (at_builtin; refine wpList_append_own _ rfl _ _ 56 rfl w.heap.size 3 i0 (.int .i64 0) 1 8 Tryd.underlying56 hi hz0 hz1 hz2 rfl (by decide) _ _ _ rfl (hI.1.alloc _) ⟨wr.heap.size, 0, none⟩ 1 1 [.int .i64 j] rfl rfl ?e1 ?e2 ?e3 ?e4 ?e5 ?_)
                case e1 => exact cell_one_new _ _ _
                case e2 => intro x hx; simp at hx; subst hx; rfl
                case e3 => unfold maxLen; omega
                case e4 => omega
                case e5 => have := hI.2.size; simp; omega
                intro v1 w1 hown1 hgrow1 _
                have R := Lib.hid (hI.more hown1 hgrow1)
                have R2 := Lib.hid (blk_grown (hU.alloc _) hgrow1 (own_blk_ne hI.1 hU (by decide)))
                clear hown1 hgrow1 hI hU kj
                go_wp2
                go_roundw
                case rel => exact ⟨j + 1, by omega, by go_num, by rw [HS.out]; exact R.out, R2.out⟩
                case measure => simp [intOf]; omega
              | false =>
                have HS := Lib.hid (lst_step_f hu)
                rw [hu] at kj
                clear hu
                go_wp2
                go_roundw
                case rel => exact ⟨j + 1, by omega, by go_num, by rw [HS.out]; exact hI, hU⟩
                case measure => simp [intOf]; omega
            · obtain rfl : j = b := by omega
              go_wp2
              go_ret
              refine ⟨_, rfl, ?_⟩
              rw [HL.out]
              exact hI
end Go.Proofs.YtgihbilpimempaaDoor.ms
