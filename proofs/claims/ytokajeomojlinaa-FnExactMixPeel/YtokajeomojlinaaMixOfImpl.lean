/-
  Contracts of the program's selection and MixOf.
-/
import Derived.Test.YtokajeomojlinaaMixImpl
import Derived.Test.YtokajeomojlinaaMixSel
import Derived.Deep.LoopGhost
import Derived.OwnWalk
import Derived.WalkSpells
namespace Go.Proofs.Ytokajeomojlinaa.mi
open Go.ChangeShapes Go.WideShapes Go.ChangeAt Go.RowKit
open Go.Proofs.Ytokajeomojlinaa.mp Go.Proofs.Ytokajeomojlinaa.mb Go.Proofs.Ytokajeomojlinaa.wd

def sel (b : Nat) (u : Nat → Bool) : Array Value := #[.int .i64 b, .bool (u 0), .bool (u 1), .bool (u 2), .bool (u 3), .bool (u 4), .bool (u 5)]
theorem six0 {b : Nat} (h1 : b < 6) : b = 0 ∨ b = 1 ∨ b = 2 ∨ b = 3 ∨ b = 4 ∨ b = 5 := by omega
theorem sel_at {b c : Nat} {u : Nat → Bool} (h : c < 6) : (sel b u)[1 + c]? = some (.bool (u c)) := by
  rcases six0 h with rfl | rfl | rfl | rfl | rfl | rfl <;> rfl
theorem sel_set {b c : Nat} {u : Nat → Bool} (h : c < 6) : (sel b u).setIfInBounds (1 + c) (.bool true) = sel b (upd u c) := by
  rcases six0 h with rfl | rfl | rfl | rfl | rfl | rfl <;> simp [sel, upd]

def AddPost (w : World) (g b : Nat) (u : Nat → Bool) (c : Nat) (e : Ending) (w' : World) : Prop :=
  e = .returned (.tuple #[]) ∧ Blk w' g 72 (sel b (upd u (pr b u b c))) ∧ Only g w w'

set_option maxHeartbeats 400000 in
theorem add_any (w : World) (g b : Nat) (u : Nat → Bool) (c : Nat) (b1 : b ≤ 6) (hc : c < b) (hn : cnt u b < b) (h : Blk w g 72 (sel b u)) :
    Calls Try.prog 54 #[.pointer (some ⟨g, 0, none⟩), .int .i64 c] w (AddPost w g b u c) := by
  obtain ⟨hf, hp⟩ := find hc hn
  have H := Lib.hid h
  have HF := Lib.hid hf
  have k0 := h.cell 0
  simp [sel] at k0
  clear h hf hn
  go_enter Try.func54, Try.ntmps54
  go_wp2
  go_loopg [1] b (fun k p wr => ∃ d : Nat, d < b ∧ p = .int .i64 d ∧ Hid (pr b u b c = pr b u k d) ∧ w = wr)
  case atStart => exact ⟨c, hc, rfl, rfl, rfl⟩
  case round =>
    obtain ⟨d, hd, rfl, HP, rfl⟩ := hrel
    have kd := H.out.cell (1 + d)
    rw [sel_at (by omega)] at kd
    have fd := H.out.frozen (1 + d)
    cases hu : u d with
    | true =>
      rw [hu] at kd
      have hgk : 0 < gk := by
        rcases Nat.eq_zero_or_pos gk with rfl | h
        · have h1 := HF.out; rw [HP.out] at h1; rw [show pr b u 0 d = d from rfl, hu] at h1; cases h1
        · exact h
      have HQ := Lib.hid (show pr b u b c = pr b u (gk - 1) ((d + 1) % b) by
        rw [HP.out]; obtain ⟨f, rfl⟩ : ∃ f, gk = f + 1 := ⟨gk - 1, by omega⟩; rw [pr_miss hu]; rfl)
      have hlt : (d + 1) % b < b := Nat.mod_lt _ (by omega)
      clear hu
      go_wp2
      go_roundg (gk - 1)
      case measure => omega
      case rel => exact ⟨(d + 1) % b, hlt, by simp, HQ.out, rfl⟩
    | false =>
      rw [hu] at kd
      have HQ := Lib.hid (show pr b u b c = d by rw [HP.out, pr_hit hu])
      clear hu
      go_wp2
      go_end0
      refine ⟨rfl, ?_, only_set _ _ _ _⟩
      have := H.out.put (1 + d) (.bool true)
      rw [sel_set (by omega)] at this
      rw [HQ.out]
      exact this

theorem infoInt : (Try.prog.info? 3).map (fun i => (i.zero, i.size, i.bytes)) = some (some (.int .i64 0), 1, 8) := by kernel_rfl

/-- a slice of ints of the call's own: what it holds -/
def Ints (w0 w' : World) (v : Value) (l : List Int) : Prop := w'.ownsRow w0.heap.size 3 1 v l.length (l.map (Value.int .i64)) ∧ Below w0.heap.size w0 w'
def IntsPost (w : World) (l : List Int) (e : Ending) (w' : World) : Prop := ∃ v, e = .returned v ∧ Ints w w' v l

theorem Ints.more {w0 w w1 : World} {v v1 : Value} {l : List Int} {n : Int} {o : Obj} (h : Ints w0 w v l)
    (h1 : w1.ownsRow w0.heap.size 3 1 v1 (l.length + 1) (l.map (Value.int .i64) ++ [.int .i64 n])) (hg : (w.alloc o).grownBy w1 v.ownBlock) : Ints w0 w1 v1 (l ++ [n]) := by
  refine ⟨by simpa using h1, ?_⟩
  have hs : (w.alloc o).heap.size = w.heap.size + 1 := by simp
  exact (h.2.alloc h.2.size o).grown hg (by have := h.2.size; omega) (fun k hk => (h.1.lt k hk).1)

theorem lst_step_t {u : Nat → Bool} {k : Nat} (h : u k = true) : lst u (k + 1) = lst u k ++ [(k : Int)] := by simp [lst, h]
theorem lst_step_f {u : Nat → Bool} {k : Nat} (h : u k = false) : lst u (k + 1) = lst u k := by simp [lst, h]
theorem lst_le (u : Nat → Bool) (k : Nat) : (lst u k).length ≤ k := by rw [lst_len]; exact cnt_le u k

set_option maxRecDepth 100000 in
set_option maxHeartbeats 1600000 in
theorem asc_any (w : World) (g b : Nat) (u : Nat → Bool) (h : Blk w g 72 (sel b u)) :
    Calls Try.prog 56 #[.pointer (some ⟨g, 0, none⟩)] w (IntsPost w (lst u 6)) := by
  obtain ⟨i0, hi, hz0, hz1, hz2⟩ := info_parts infoInt
  have k1 := h.cell 1
  have k2 := h.cell 2
  have k3 := h.cell 3
  have k4 := h.cell 4
  have k5 := h.cell 5
  have k6 := h.cell 6
  simp [sel] at k1 k2 k3 k4 k5 k6
  clear h
  go_enter Try.func56, Try.ntmps56
  go_wp2
  go_loopw [3, 4, 5, 10] (fun v _ _ i wr => ∃ k : Nat, k ≤ 6 ∧ i = .int .i64 k ∧ Ints w wr v (lst u k)) (fun _ _ _ i _ => 7 - (intOf i).toNat)
  case atStart => exact ⟨0, by omega, rfl, World.ownsRow_nil _ _ _ _, Below.refl _ _⟩
  case round =>
    obtain ⟨k, hk, rfl, hI⟩ := hrel
    clear k1 k2 k3 k4 k5 k6
    by_cases hk6 : k < 6
    · have hll := lst_le u k
      cases hu : u k with
      | true =>
        have HS := Lib.hid (lst_step_t hu)
        have ix : ∀ wx, (Instr.index 70 (.agg #[.bool (u 0), .bool (u 1), .bool (u 2), .bool (u 3), .bool (u 4), .bool (u 5)]) (.int .i64 k)).run Try.prog wx = .ok (.bool true) wx := by
          rw [← hu]
          rcases six0 hk6 with rfl | rfl | rfl | rfl | rfl | rfl <;> intro wx <;> kernel_rfl
        clear hu
        go_wp2_with (at_builtin; refine wpList_append_own _ rfl _ _ 31 rfl w.heap.size 3 i0 (.int .i64 0) 1 8 Try.underlying31 hi hz0 hz1 hz2 rfl (by decide) _ _ _ rfl (hI.1.alloc _) ⟨wr.heap.size, 0, none⟩ 1 1 [.int .i64 k] rfl rfl ?c1 ?c2 ?c3 ?c4 ?c5 ?_)
        case c1 => exact cell_one_new _ _ _
        case c2 => intro x hx; simp at hx; subst hx; rfl
        case c3 => unfold maxLen; omega
        case c4 => omega
        case c5 => have := hI.2.size; simp; omega
        intro v1 w1 hown1 hgrow1 _
        have R := Lib.hid (hI.more hown1 hgrow1)
        clear hown1 hgrow1 hI
        go_wp2
        go_roundw
        case rel => exact ⟨k + 1, by omega, by go_num, by rw [HS.out]; exact R.out⟩
        case measure => simp [intOf]; omega
      | false =>
        have HS := Lib.hid (lst_step_f hu)
        have ix : ∀ wx, (Instr.index 70 (.agg #[.bool (u 0), .bool (u 1), .bool (u 2), .bool (u 3), .bool (u 4), .bool (u 5)]) (.int .i64 k)).run Try.prog wx = .ok (.bool false) wx := by
          rw [← hu]
          rcases six0 hk6 with rfl | rfl | rfl | rfl | rfl | rfl <;> intro wx <;> kernel_rfl
        clear hu
        go_wp2
        go_roundw
        case rel => exact ⟨k + 1, by omega, by go_num, by rw [HS.out]; exact hI⟩
        case measure => simp [intOf]; omega
    · obtain rfl : k = 6 := by omega
      go_wp2
      go_ret
      exact ⟨_, rfl, hI⟩

theorem Only.blk {b g : Nat} {w w' : World} {t : TypeId} {cs : Array Value} (h : Only b w w') (hne : g ≠ b) (k : Blk w g t cs) : Blk w' g t cs := (h.2.1 g hne).trans k

theorem ownsRow_base {w : World} {base base' : Nat} {e : TypeId} {size : Nat} {v : Value} {n : Nat} {xs : List Value} (h : w.ownsRow base e size v n xs) (hb : base' ≤ base) : w.ownsRow base' e size v n xs := by
  refine ⟨h.1, ?_⟩
  rcases h.2 with h | ⟨g, cap, cur, h1, h2, h3⟩
  · exact .inl h
  · exact .inr ⟨g, cap, cur, h1, by omega, h3⟩

/-- at the head of the loop over the degree: m blocks are selected -/
def ORel (w : World) (gg gs b : Nat) (x : Int) (m : Nat) (wr : World) : Prop :=
  Blk wr gg 68 #[.int .i64 (stx x m)] ∧ Blk wr gs 72 (sel b (stu b x m)) ∧ Below w.heap.size w wr

theorem orel_on {w : World} {gg gs b : Nat} {x : Int} {m : Nat} {wr w3 w4 : World} (h : ORel w gg gs b x m wr) (hg : w.heap.size ≤ gg) (hs : w.heap.size ≤ gs) (hne : gg ≠ gs)
    (h1 : Blk w3 gg 68 #[.int .i64 (rnd (stx x m))]) (o1 : Only gg wr w3) (h2 : Blk w4 gs 72 (sel b (upd (stu b x m) (pr b (stu b x m) b (at_ b x m))))) (o2 : Only gs w3 w4) :
    ORel w gg gs b x (m + 1) w4 :=
  ⟨o2.blk hne h1, h2, (h.2.2.trans (o1.1.mono hg)).trans (o2.1.mono hs)⟩

def MoPost (w : World) (b n : Int) (e : Ending) (w' : World) : Prop := IntsPost w (mo b n) e w'

set_option maxHeartbeats 1600000 in
theorem imo_any (blocks num : Int) (w : World) :
    Calls Try.prog 24 #[.int .i64 blocks, .int .i64 num] w (MoPost w blocks num) := by
  cases hok : okM blocks num with
  | false =>
    have HM := Lib.hid (mo_no hok)
    go_enter Try.func24, Try.ntmps24
    go_wp2_with ((go_at_call 51; refine (iok_any _ _ _).mono ?_; rintro e w' ⟨rfl, rfl⟩))
    go_ret
    exact ⟨_, rfl, by rw [HM.out]; exact World.ownsRow_nil _ _ _ _, Below.refl _ _⟩
  | true =>
    obtain ⟨b0, b1, n0, n1⟩ := okM_out hok
    obtain ⟨b, rfl⟩ := Int.eq_ofNat_of_zero_le (show 0 ≤ blocks by omega)
    have HM := Lib.hid (mo_yes hok)
    by_cases hlt : num < b
    · have HN := Lib.hid (show moN b num = [num] by unfold moN; rw [if_pos hlt])
      go_enter Try.func24, Try.ntmps24
      go_wp2_with ((go_at_call 51; refine (iok_any _ _ _).mono ?_; rintro e w' ⟨rfl, rfl⟩))
      go_ret
      refine ⟨_, rfl, ?_, (Below.refl _ _).alloc (Nat.le_refl _) _⟩
      rw [HM.out, HN.out]
      exact World.ownsRow_lit _ #[.int .i64 num] 1 (Nat.le_refl _) (by unfold maxLen; omega) rfl
    · have HN := Lib.hid (show moN b num = lst (stu b (rnd (7 * num + 1)) (mdN b num)) b by unfold moN; rw [if_neg hlt])
      have hx := rnd_range (7 * num + 1)
      obtain ⟨d0, d1⟩ := mdN_range (b := b) (by omega) num
      have HD := Lib.hid (md_yes hok)
      go_enter Try.func24, Try.ntmps24
      go_wp2_with ((go_at_call 51; refine (iok_any _ _ _).mono ?_; rintro e w' ⟨rfl, rfl⟩))
      refine (start_any _ _).mono ?_
      rintro e w1 ⟨rfl, hB1⟩
      go_wp2_with fail
      refine (imd_any _ _ _).mono ?_
      rintro e w2 ⟨rfl, hB2⟩
      rw [HD.out]
      generalize mdN b num = m at d0 d1 HN
      have HR : Hid (ORel w w1.heap.size (w1.heap.size + 1) b (rnd (7 * num + 1)) 0 w2) := by
        have z1 : (w1.alloc (.cells #[.int .i64 (rnd (7 * num + 1))] 68)).heap.size = w1.heap.size + 1 := by simp
        have k1 := (Blk.new w1 68 #[.int .i64 (rnd (7 * num + 1))]).alloc (.cells (sel b (fun _ => false)) 72)
        have k2 := Blk.new (w1.alloc (.cells #[.int .i64 (rnd (7 * num + 1))] 68)) 72 (sel b (fun _ => false))
        rw [z1] at k2
        have hl1 := k1.lt
        have hl2 := k2.lt
        have hz := hB1.size
        exact ⟨k1.below hB2 hl1, k2.below hB2 hl2, ((hB1.alloc hz _).alloc (by omega) _).trans (hB2.mono (by simp; omega))⟩
      have hz := hB1.size
      clear hB1 hB2
      generalize w1.heap.size = gg at HR hz ⊢
      generalize rnd (7 * num + 1) = X at hx HR HN ⊢
      go_wp2
      go_loopw [25] (fun i wr => ∃ k : Nat, k ≤ m ∧ i = .int .i64 k ∧ ORel w gg (gg + 1) b X k wr) (fun i _ => (m + 1 : Nat) - (intOf i).toNat)
      case atStart => exact ⟨0, by omega, rfl, HR.out⟩
      case round =>
        obtain ⟨k, hk, rfl, hO⟩ := hrel
        clear HR
        by_cases hkm : k < m
        · have HA := Lib.hid (show rnd (stx X k) / 16 % (b : Int) = (at_ b X k : Int) by
            have h0 : 0 ≤ rnd (stx X k) / 16 % (b : Int) := Int.emod_nonneg _ (by omega)
            unfold at_; omega)
          have hat := at_lt (b := b) (by omega) X k
          have hcn := (stu_cnt (b := b) (by omega) X k (by omega)).1
          have HC : Hid (cnt (stu b X k) b < b) := (by omega : cnt (stu b X k) b < b)
          clear hcn
          go_wp2_with fail
          refine (draw_any _ _ _ _ hO.1 (by omega) (by omega)).mono ?_
          rintro e w3 ⟨rfl, hG3, hO3⟩
          rw [HA.out]
          go_wp2_with fail
          refine (add_any _ _ _ (stu b X k) _ (by omega) hat HC.out (hO3.blk (by omega) hO.2.1)).mono ?_
          rintro e w4 ⟨rfl, hS4, hO4⟩
          have R := Lib.hid (orel_on hO hz (by omega) (by omega) hG3 hO3 hS4 hO4)
          clear hO hG3 hO3 hS4 hO4
          go_wp2
          go_roundw
          case rel => exact ⟨k + 1, by omega, by go_num, R.out⟩
          case measure => simp [intOf]; omega
        · obtain rfl : k = m := by omega
          have HL := Lib.hid (show lst (stu b X k) 6 = mo b num by
            rw [HM.out, HN.out]
            have := lst_more (u := stu b X k) (b := b) (stu_cnt (by omega) X k d1).2 (6 - b)
            rw [show b + (6 - b) = 6 by omega] at this
            exact this)
          go_wp2_with fail
          refine (asc_any _ _ _ _ hO.2.1).mono ?_
          rintro e w5 ⟨v, rfl, hI⟩
          go_wp2
          go_ret
          refine ⟨_, rfl, ?_, hO.2.2.trans (hI.2.mono hO.2.2.size)⟩
          rw [← HL.out]
          exact ownsRow_base hI.1 hO.2.2.size
end Go.Proofs.Ytokajeomojlinaa.mi
