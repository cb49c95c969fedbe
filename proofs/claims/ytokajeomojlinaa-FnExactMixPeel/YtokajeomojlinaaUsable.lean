/-
  The contract of the program's usablePieces.
-/
import Derived.Test.YtokajeomojlinaaLists
import Derived.Test.YtokajeomojlinaaMakeImpl
import Derived.Deep.RegionHeld3
import Derived.Deep.AppendLies
namespace Go.Proofs.Ytokajeomojlinaa.ls
open Go.ChangeShapes Go.WideShapes Go.ChangeAt Go.RowKit
open Go.Proofs.Ytokajeomojlinaa.wd Go.Proofs.Ytokajeomojlinaa.cp Go.Proofs.Ytokajeomojlinaa.mp Go.Proofs.Ytokajeomojlinaa.mb Go.Proofs.Ytokajeomojlinaa.pp Go.Proofs.Ytokajeomojlinaa.ow Go.Proofs.Ytokajeomojlinaa.mk Go.Proofs.Ytokajeomojlinaa.pe Go.Proofs.Ytokajeomojlinaa.mi Go.Proofs.Ytokajeomojlinaa.ci Go.Proofs.Ytokajeomojlinaa.cs

theorem infoPiece : (Try.prog.info? 113).map (fun i => (i.zero, i.size, i.bytes)) = some (some (.agg #[.int .u8 0, .int .u8 0, .int .u8 0, .int .u8 0, .int .u8 0]), 5, 5) := by kernel_rfl

def UsePost (w : World) (b : Int) (l : List Mx) (e : Ending) (w' : World) : Prop := ∃ v, e = .returned v ∧ OwnZ 113 5 w w' v (pcs b l).length ((pcs b l).flatMap pc)

theorem ints_set {w0 w w' : World} {v : Value} {l : List Int} (h : Ints w0 w v l) (hB : Below w.heap.size w w') :
    ∃ A c, v = .slice A l.length c ∧ (0 < l.length → ∃ g, A = some ⟨g, 0, none⟩ ∧ ∀ i, i < l.length → w'.cell? ⟨g, i, none⟩ = some (.int .i64 (l.getD i 0))) := by
  obtain ⟨A, c, rfl, hc⟩ := ints_form h
  refine ⟨A, c, rfl, fun hn => ?_⟩
  obtain ⟨g, rfl, _, hg, hcell⟩ := hc hn
  exact ⟨g, rfl, fun i hi => (hB.cell (p := ⟨g, i, none⟩) hg).trans (hcell i hi)⟩

theorem bel2 {W w2 w3 : World} (h : Below W.drew.heap.size W.drew w2) (k : Below w2.heap.size w2 w3) : Below W.heap.size W w3 := by
  have h' : Below W.heap.size W w2 := ⟨h.os, h.tape, h.output, h.size, h.block⟩
  exact h'.trans (k.mono h'.size)
theorem pc_one (x : Pc) : ∀ u ∈ pc x, u.oneCell' = true := by
  intro u hu
  simp only [pc, List.mem_cons, List.not_mem_nil, or_false] at hu
  rcases hu with rfl | rfl | rfl | rfl | rfl <;> rfl

set_option maxRecDepth 100000 in
set_option maxHeartbeats 4000000 in
theorem usable_any (w : World) (b : Int) (hb0 : 1 ≤ b) (hb1 : b ≤ 6) (v : Value) (l : List Mx) (h : SeesM w v l) (hl : l.length ≤ 1048576) :
    Calls Try.prog 59 #[.int .i64 b, v] w (UsePost w b l) := by
  obtain ⟨i0, hi, hz0, hz1, hz2⟩ := info_parts infoPiece
  obtain ⟨A, c, rfl, hc⟩ := h
  have hS : SeesM w (.slice A l.length c) l := ⟨A, c, rfl, hc⟩
  have HS := Lib.hid hS
  clear hS hc
  go_enter Try.func59, Try.ntmps59
  go_wp2
  go_loopw [5, 10] (fun o i wr => ∃ k : Nat, k ≤ l.length ∧ i = .int .i64 k ∧ OwnZ 113 5 w wr o (pcs b (l.take k)).length ((pcs b (l.take k)).flatMap pc)) (fun _ i _ => (l.length + 1 : Nat) - (intOf i).toNat)
  case atStart => exact ⟨0, by omega, rfl, OwnZ.nil w⟩
  case round =>
    obtain ⟨k, hk, rfl, hO⟩ := hrel
    by_cases hkl : k < l.length
    · have hx : l[k]? = some l[k] := List.getElem?_eq_getElem hkl
      generalize l[k] = m at hx
      obtain ⟨num, d⟩ := m
      obtain ⟨g, c', hA, hlt, _, r0, r1⟩ := (HS.out.later hO.2).at hx
      injection hA with hA _ hcc
      subst hA
      subst hcc
      have HT := Lib.hid (take_snoc hx)
      have hlp := pcs_len b (l.take k)
      have hlk : (l.take k).length ≤ l.length := by rw [List.length_take]; omega
      clear hx
      cases hok : okM b num with
      | false =>
        have HP := Lib.hid (pcs_f (l := l.take k) (show okP b (num, d) = false by unfold okP; rw [hok]; rfl))
        have R := Lib.hid (hO.later ((Below.refl wr.heap.size wr).alloc (Nat.le_refl _) (.cells #[.int .i64 num, .string d] 40)))
        clear hO
        go_wp2_with ((go_at_call 51; refine (iok_any _ _ _).mono ?_; rintro e w' ⟨rfl, rfl⟩))
        go_roundw
        case rel => exact ⟨k + 1, by omega, by go_num, by rw [HT.out, HP.out]; exact R.out⟩
        case measure => simp [intOf]; omega
      | true =>
        by_cases hd : d.size = 4
        · have HP := Lib.hid (pcs_t (l := l.take k) (show okP b (num, d) = true by unfold okP; rw [hok]; simp [hd]))
          have hB1 := (Below.refl wr.heap.size wr).alloc (Nat.le_refl _) (.cells #[.int .i64 num, .string d] 40)
          have hno : some wr.heap.size ≠ u5.ownBlock := fun e => by have := (hO.1.lt _ e.symm).2; omega
          have hO1 := hO.later hB1
          have hT1 := Blk.new wr 40 #[.int .i64 num, .string d]
          have t0 : (wr.alloc (.cells #[.int .i64 num, .string d] 40)).cell? ⟨wr.heap.size, 0, none⟩ = some (.int .i64 num) := hT1.cell 0
          have t1 : (wr.alloc (.cells #[.int .i64 num, .string d] 40)).cell? ⟨wr.heap.size, 1, none⟩ = some (.string d) := hT1.cell 1
          have hzW : wr.heap.size < (wr.alloc (.cells #[.int .i64 num, .string d] 40)).heap.size := hT1.lt
          have hls := mo_small b num
          have HA := Lib.hid (fun k h => mo_at (b := b) (num := num) (k := k) h)
          have HFl := Lib.hid (show (pcs b (l.take k)).flatMap pc ++ pc (pcOf b (num, d)) = (pcs b (l.take k) ++ [pcOf b (num, d)]).flatMap pc by simp)
          have HLn := Lib.hid (show (pcs b (l.take k) ++ [pcOf b (num, d)]).length = (pcs b (l.take k)).length + 1 by simp)
          have hbase := hO1.2.size
          clear hO hB1 hT1
          go_wp2_with ((go_at_call 51; refine (iok_any _ _ _).mono ?_; rintro e w' ⟨rfl, rfl⟩))
          generalize wr.alloc (.cells #[.int .i64 num, .string d] 40) = W at t0 t1 hzW hO1 hbase ⊢
          generalize hnn : (pcs b (l.take k)).length = nn at hO1 hlp HLn
          generalize (pcs b (l.take k)).flatMap pc = xs at hO1 HFl
          clear hnn
          go_region_held3 (fun w' => w'.cell? ⟨wr.heap.size, 0, none⟩ = some (.int .i64 num) ∧ w'.cell? ⟨wr.heap.size, 1, none⟩ = some (.string d)) (first | exact ⟨t0, t1⟩ | exact ⟨s0, s1⟩ | exact ⟨s2, s3⟩ | exact ⟨s4, s5⟩ | (exact ⟨(World.cell?_alloc_lt _ _ _ hz33).trans s2, (World.cell?_alloc_lt _ _ _ hz33).trans s3⟩) | go_keep) (first | (go_at_call 24; refine (imo_any _ _ _).mono ?_; rintro e w2 ⟨v2, rfl, hI2⟩; have s0 := (hI2.2.cell (p := ⟨wr.heap.size, 0, none⟩) hzW).trans t0; have s1 := (hI2.2.cell (p := ⟨wr.heap.size, 1, none⟩) hzW).trans t1) | (go_at_call 82; refine (setOf_any _ _ (mo b num) (ints_set hI2 (Below.refl _ _)) hls (fun i hi => ?_)).mono ?_; (have := HA.out i hi; omega); rintro e w' ⟨rfl, rfl⟩) | (go_at_call 74; refine (dataOf_at d _ 0 (by simp) _).mono ?_; rintro e w3 ⟨rfl, hB3⟩; have s2 := (hB3.cell (p := ⟨wr.heap.size, 0, none⟩) (Nat.lt_of_lt_of_le hzW hI2.2.size)).trans s0; have s3 := (hB3.cell (p := ⟨wr.heap.size, 1, none⟩) (Nat.lt_of_lt_of_le hzW hI2.2.size)).trans s1; have hBW := bel2 hI2.2 hB3; have hO3 := hO1.later hBW; have hz33 : wr.heap.size < w3.heap.size := Nat.lt_of_lt_of_le hzW hBW.size) | (refine step_append_lies _ rfl (.tmp 24) (.tmp 34) 77 rfl w.heap.size 113 i0 _ 5 5 Try.underlying77 hi hz0 hz1 hz2 rfl (by decide) u5 nn xs (by simp [Act.eval]) (hO3.1.alloc _) ⟨w3.heap.size, 0, none⟩ 1 1 (pc (pcOf b (num, d))) (by simp [Act.eval]) rfl (World.news_of_block (heap_alloc_new w3 _)) (fun u hu => ?_) (by decide) (by unfold maxLen; omega) (by omega) (by have := hO3.2.size; simp; omega) _ rfl ?_; exact pc_one _ u hu; intro gg cap w4 hown4 hgrow4 _ _; have s4 := (hgrow4.cell_far ⟨wr.heap.size, 0, none⟩ (by simp; omega) hno).trans ((World.cell?_alloc_lt _ _ _ hz33).trans s2); have s5 := (hgrow4.cell_far ⟨wr.heap.size, 1, none⟩ (by simp; omega) hno).trans ((World.cell?_alloc_lt _ _ _ hz33).trans s3)))
          have R := Lib.hid (hO3.more hown4 hgrow4)
          clear hown4 hgrow4 hO3 hO1 hB3 hBW hI2 s0 s1 s2 s3 s4 s5 t0 t1
          go_wp2
          go_roundw
          case rel => exact ⟨k + 1, by omega, by go_num, by rw [HT.out, HP.out, HLn.out, ← HFl.out]; exact R.out⟩
          case measure => simp [intOf]; omega
        · have HP := Lib.hid (pcs_f (l := l.take k) (show okP b (num, d) = false by unfold okP; rw [hok]; simp [hd]))
          have R := Lib.hid (hO.later ((Below.refl wr.heap.size wr).alloc (Nat.le_refl _) (.cells #[.int .i64 num, .string d] 40)))
          have hd4 : ((d.size : Int) == 4) = false := by rw [beq_eq_false_iff_ne]; omega
          clear hO hd
          go_wp2_with ((go_at_call 51; refine (iok_any _ _ _).mono ?_; rintro e w' ⟨rfl, rfl⟩))
          go_roundw
          case rel => exact ⟨k + 1, by omega, by go_num, by rw [HT.out, HP.out]; exact R.out⟩
          case measure => simp [intOf]; omega
    · obtain rfl : k = l.length := by omega
      rw [List.take_length] at hO
      go_wp2
      go_ret
      exact ⟨_, rfl, hO⟩
end Go.Proofs.Ytokajeomojlinaa.ls
