/-
  Contracts of the specification's l2Mixed and l2Left.
-/
import Derived.Test.YtokajeomojlinaaLeftPlain
namespace Go.Proofs.Ytokajeomojlinaa.ls
open Go.ChangeShapes Go.WideShapes Go.ChangeAt Go.RowKit
open Go.Proofs.Ytokajeomojlinaa.wd Go.Proofs.Ytokajeomojlinaa.cp Go.Proofs.Ytokajeomojlinaa.mp Go.Proofs.Ytokajeomojlinaa.mb Go.Proofs.Ytokajeomojlinaa.pp Go.Proofs.Ytokajeomojlinaa.ow Go.Proofs.Ytokajeomojlinaa.mk Go.Proofs.Ytokajeomojlinaa.pe Go.Proofs.Ytokajeomojlinaa.mi Go.Proofs.Ytokajeomojlinaa.ms Go.Proofs.Ytokajeomojlinaa.ci Go.Proofs.Ytokajeomojlinaa.cs

theorem smixed_any (b : Int) (m : Mx) (w : World) : Calls Try.prog 62 #[.int .i64 b, .agg #[.int .i64 m.1, .string m.2]] w (BoolPost w (okP b m)) := by
  obtain ⟨num, d⟩ := m
  have HB := Lib.hid ((Below.refl w.heap.size w).alloc (Nat.le_refl _) (.cells #[.int .i64 num, .string d] 40))
  cases hok : okM b num with
  | false =>
    have HP := Lib.hid (show okP b (num, d) = false by unfold okP; rw [hok]; rfl)
    rw [HP.out]
    go_enter Try.func62, Try.ntmps62
    go_wp2_with ((go_at_call 65; refine (sok_any _ _ _).mono ?_; rintro e w' ⟨rfl, rfl⟩))
    go_ret
    exact ⟨rfl, HB.out⟩
  | true =>
    by_cases hd : d.size = 4
    · have HP := Lib.hid (show okP b (num, d) = true by unfold okP; rw [hok]; simp [hd])
      rw [HP.out]
      go_enter Try.func62, Try.ntmps62
      go_wp2_with ((go_at_call 65; refine (sok_any _ _ _).mono ?_; rintro e w' ⟨rfl, rfl⟩))
      go_ret
      exact ⟨rfl, HB.out⟩
    · have HP := Lib.hid (show okP b (num, d) = false by unfold okP; rw [hok]; simp [hd])
      have hd4 : ((d.size : Int) == 4) = false := by rw [beq_eq_false_iff_ne]; omega
      rw [HP.out]
      clear hd
      go_enter Try.func62, Try.ntmps62
      go_wp2_with ((go_at_call 65; refine (sok_any _ _ _).mono ?_; rintro e w' ⟨rfl, rfl⟩))
      go_ret
      exact ⟨rfl, HB.out⟩

def LeftPost (w : World) (b num : Int) (d : ByteArray) (s : St) (e : Ending) (w' : World) : Prop :=
  ∃ v, e = .returned (.tuple #[v, .string ((qb d 0).xor (xL s.D (mo b num))).str]) ∧ Own 3 w w' v ((lf s.K (mo b num)).map (Value.int .i64))

theorem str_nonempty (q : Q) : q.str.toList.isEmpty = false := by rw [ByteArray.toList_eq]; rfl

/-- the row of what is left: made ahead of w2, or behind it; nothing else has changed -/
def LRow (w w2 : World) (v : Value) (wr : World) : Prop := (∀ k, v.ownBlock = some k → k = w.heap.size + 1 ∨ w2.heap.size ≤ k) ∧ w2.grownBy wr (some (w.heap.size + 1))
theorem LRow.more {w w2 : World} {v : Value} {wr w4 : World} {o : Obj} {gg n cap : Nat} (h : LRow w w2 v wr) (hg : (wr.alloc o).grownBy w4 v.ownBlock) (hat : v.ownBlock = some gg ∨ gg = wr.heap.size + 1) : LRow w w2 (.slice (some ⟨gg, 0, none⟩) n cap) w4 := by
  have hz : (wr.alloc o).heap.size = wr.heap.size + 1 := by simp
  have h2 := h.2.size
  refine ⟨fun k hk => ?_, hg.os.trans h.2.os, hg.tape.trans h.2.tape, hg.output.trans h.2.output, Nat.le_trans h2 (Nat.le_trans (by omega) hg.size), fun i hi hn => ?_⟩
  · have hk' : k = gg := by simpa [Value.ownBlock] using hk.symm
    subst hk'
    rcases hat with hat | hat
    · exact h.1 k hat
    · right; omega
  · refine (hg.block i (by omega) (fun e => ?_)).trans ((Below.heap_alloc wr o i (by omega)).trans (h.2.block i hi hn))
    rcases h.1 i e.symm with h' | h'
    · exact hn (by rw [h'])
    · omega

set_option maxRecDepth 100000 in
set_option maxHeartbeats 4000000 in
theorem left_any (w : World) (n : Nat) (num : Int) (d : ByteArray) (hd : d.size = 4) (s : St) (hZ : Zd s) (g : Nat) (hg : Blk w g 9 (tcs n s n)) :
    Calls Try.prog 63 #[.int .i64 n, .agg #[.int .i64 num, .string d], .slice (some ⟨g, 0, none⟩) n n] w (LeftPost w n num d s) := by
  obtain ⟨i0, hi, hz0, hz1, hz2⟩ := info_parts infoInt
  have hls := mo_small n num
  have HA := Lib.hid (fun k h => mo_at (b := (n : Int)) (num := num) (k := k) h)
  have HD := Lib.hid (data_str hd)
  have HZ := Lib.hid hZ
  have hgl := hg.lt
  have HG := Lib.hid hg
  clear hd hZ hg
  have hB0 := (Below.refl w.heap.size w).alloc (Nat.le_refl _) (.cells #[.int .i64 num, .string d] 40)
  have hz0' : (w.alloc (.cells #[.int .i64 num, .string d] 40)).heap.size = w.heap.size + 1 := by simp
  have hE : Own 3 w ((w.alloc (.cells #[.int .i64 num, .string d] 40)).alloc (.cells #[] 3)) (.slice (some ⟨w.heap.size + 1, 0, none⟩) 0 0) [] := by
    have := Own.empty_on (t := 3) hB0
    rwa [hz0'] at this
  have HE := Lib.hid hE
  clear hE hB0 hz0'
  go_enter Try.func63, Try.ntmps63
  go_wp2_with fail
  refine (smo_any _ _ _).mono ?_
  rintro e w2 ⟨v2, rfl, hI2⟩
  obtain ⟨A2, c2, rfl, hc2⟩ := ints_form hI2
  have HC2 := Lib.hid hc2
  have HE2 := Lib.hid (HE.out.later hI2.2)
  have hz2' := hI2.2.size
  simp at hz2'
  have HB02 : Hid (Below w.heap.size w w2) := (((Below.refl _ _).alloc (Nat.le_refl _) _).alloc (by simp) _).trans (hI2.2.mono (by simp; omega))
  clear hc2 hI2 HE
  generalize hL : mo (n : Int) num = l at hls HA HC2
  have HL := Lib.hid hL
  clear hL
  go_wp2
  go_loopw [8, 9, 11] (fun v x i wr => ∃ k : Nat, k ≤ l.length ∧ i = .int .i64 k ∧ x = .string ((qb d 0).xor (xL s.D (l.take k))).str ∧ Own 3 w wr v ((lf s.K (l.take k)).map (Value.int .i64)) ∧ LRow w w2 v wr) (fun _ _ i _ => (l.length + 1 : Nat) - (intOf i).toNat)
  case atStart => exact ⟨0, by omega, rfl, by rw [show xL s.D (l.take 0) = Q.zero from rfl, Q.xor_zero, ← HD.out], HE2.out, fun k hk => .inl (by simpa [Value.ownBlock] using hk.symm), World.grownBy.refl _ _⟩
  case round =>
    obtain ⟨k, hk, rfl, rfl, hO, hR⟩ := hrel
    clear HE2
    by_cases hkl : k < l.length
    · obtain ⟨x0, x1⟩ := HA.out k hkl
      obtain ⟨g2, rfl, hg2a, hg2b, hcell2⟩ := HC2.out (by omega)
      simp at hg2a
      have e2 := (hR.2.cell_far ⟨g2, k, none⟩ hg2b (by simp; omega)).trans (hcell2 k hkl)
      have HX := Lib.hid (xL_on s.D hkl)
      have HLt := Lib.hid (fun h => lf_on_t (K := s.K) hkl h)
      have HLf := Lib.hid (fun h => lf_on_f (K := s.K) hkl h)
      have hll := lf_len (K := s.K) (l := l.take k)
      have htk : (l.take k).length ≤ 6 := by rw [List.length_take]; omega
      clear hcell2
      generalize l.getD k 0 = y at x0 x1 e2 HX HLt HLf
      obtain ⟨j, rfl⟩ := Int.eq_ofNat_of_zero_le x0
      rw [Int.toNat_natCast] at HX HLt HLf
      have hjn : j < n := by omega
      have hgw : Blk wr g 9 (tcs n s n) := (hR.2.block g (by omega) (by simp; omega)).trans ((HB02.out.block g hgl).trans HG.out)
      have e1 := hgw.cell j
      rw [tcs_at s n hjn, if_pos hjn] at e1
      cases hK : s.K j with
      | false =>
        have HLL := Lib.hid (HLf.out hK)
        have HXX := Lib.hid (show ((qb d 0).xor (xL s.D (l.take (k + 1)))).str = ((qb d 0).xor (xL s.D (l.take k))).str by rw [HX.out, HZ.out j hK, Q.xor_zero])
        rw [show tx s j = ⟨#[]⟩ by unfold tx; rw [hK]; rfl] at e1
        generalize ((qb d 0).xor (xL s.D (l.take k))).str = X at HXX
        have hln : ((lf s.K (l.take k)).map (Value.int .i64)).length ≤ 6 := by rw [List.length_map]; omega
        have HMp := Lib.hid (show (lf s.K (l.take k)).map (Value.int .i64) ++ [.int .i64 (j : Int)] = (lf s.K (l.take k) ++ [(j : Int)]).map (Value.int .i64) by simp)
        generalize (lf s.K (l.take k)).map (Value.int .i64) = os at hO hln HMp
        clear hK hgw
        go_wp2_with (at_builtin; refine wpList_append_lies _ rfl _ _ 31 rfl w.heap.size 3 i0 (.int .i64 0) 1 8 Try.underlying31 hi hz0 hz1 hz2 rfl (by decide) _ _ _ rfl (hO.1.alloc _) ⟨wr.heap.size, 0, none⟩ 1 1 [.int .i64 (j : Int)] rfl rfl ?c1 ?c2 (by decide) ?c3 ?c4 ?c5 _ rfl ?_)
        case c1 => exact cell_one_new _ _ _
        case c2 => intro x hx; simp at hx; subst hx; rfl
        case c3 => unfold maxLen; omega
        case c4 => omega
        case c5 => have := hO.2.size; simp; omega
        intro gg cap w4 hown4 hgrow4 hat4 hlt4
        have R := Lib.hid (hO.more hown4 hgrow4)
        have R2 := Lib.hid (hR.more (n := os.length + 1) (cap := cap) hgrow4 hat4)
        clear hown4 hgrow4 hat4 hlt4 hO hR e1 e2
        go_wp2
        go_roundw
        case rel => exact ⟨k + 1, by omega, by go_num, by rw [HXX.out], by rw [HLL.out, ← HMp.out]; exact R.out, R2.out⟩
        case measure => simp [intOf]; omega
      | true =>
        have HLL := Lib.hid (HLt.out hK)
        have hne := str_nonempty (s.D j)
        rw [show tx s j = (s.D j).str by unfold tx; rw [hK]; rfl] at e1
        have HXX := Lib.hid (show (qb d 0).xor (xL s.D (l.take (k + 1))) = ((qb d 0).xor (xL s.D (l.take k))).xor (s.D j) by rw [HX.out, Q.xor_assoc])
        generalize (qb d 0).xor (xL s.D (l.take k)) = X at HXX
        clear hK hgw
        go_wp2_with fail
        refine (xor_any _ _ _).mono ?_
        rintro e w4 ⟨rfl, hB4⟩
        have R := Lib.hid (hO.later hB4)
        have R2 : Hid (LRow w w2 u8 w4) := ⟨hR.1, pe.grown_trans hR.2 (pe.grown_of_below hB4 _)⟩
        clear hB4 hO hR e1 e2 hne
        go_wp2
        go_roundw
        case rel => exact ⟨k + 1, by omega, by go_num, by rw [HXX.out], by rw [HLL.out]; exact R.out, R2.out⟩
        case measure => simp [intOf]; omega
    · obtain rfl : k = l.length := by omega
      rw [List.take_length] at hO ⊢
      go_wp2
      go_ret2
      exact ⟨_, by rw [HL.out]; rfl, by rw [HL.out]; exact hO⟩
end Go.Proofs.Ytokajeomojlinaa.ls
