/-
  Contract of spec.l3Nums at four numbers.
-/
import Derived.Test.YtekoghcgkmldgaaDoorDec3
import Derived.Test.YtekoghcgkmldgaaDoorWord
import Derived.Test.YtekoghcgkmldgaaDoorOwn
import Derived.Deep.LoopGhost
namespace Go.Proofs.YtekoghcgkmldgaaDoor.dc
open Go.ChangeShapes Go.WideShapes Go.ChangeAt Go.RowKit
open Go.Proofs.YtekoghcgkmldgaaDoor.nb Go.Proofs.YtekoghcgkmldgaaDoor.ok Go.Proofs.YtekoghcgkmldgaaDoor.wd

theorem infoInt : (Tryd.prog.info? 3).map (fun i => (i.zero, i.size, i.bytes)) = some (some (.int .i64 0), 1, 8) := by kernel_rfl

def iv (l : List Int) : List Value := l.map (Value.int .i64)
theorem iv_snoc (l : List Int) (x : Int) : iv l ++ [.int .i64 x] = iv (l ++ [x]) := by simp [iv]
theorem iv_len (l : List Int) : (iv l).length = l.length := by simp [iv]

def NumsPost (w : World) (l : List UInt8) (e : Ending) (w' : World) : Prop :=
  ∃ (v : Value) (vs : List Int) (r : List UInt8), e = .returned (.tuple #[v, .string (str r)]) ∧ vs.length = 4 ∧ ow.Own 3 w w' v (iv vs) ∧ Inv l 4 vs r ∧ r.length ≤ l.length

set_option maxRecDepth 100000 in
set_option maxHeartbeats 1600000 in
theorem nums_any (s : ByteArray) (hs : s.size ≤ 1048576) (w : World) :
    Calls Tryd.prog 34 #[.string s, .int .i64 4] w (NumsPost w s.data.toList) := by
  obtain ⟨i0, hi, hz0, hz1, hz2⟩ := info_parts infoInt
  have hsz := Lib.hid (Lib.size_eq s)
  go_enter Tryd.func34, Tryd.ntmps34
  go_wp2
  go_loopw [0, 6, 7] (fun sv ov i wr => ∃ (k : Nat) (vs : List Int) (r : List UInt8), k ≤ 4 ∧ Hid (vs.length = k) ∧ i = .int .i64 k ∧ sv = .string (str r) ∧ ow.Own 3 w wr ov (iv vs) ∧ Hid (Inv s.data.toList k vs r) ∧ r.length ≤ s.size) (fun _ _ i _ => 4 - (intOf i).toNat)
  case atStart => exact ⟨0, [], s.data.toList, by omega, rfl, rfl, by rw [str_data], ow.Own.empty w, inv_start _, by rw [hsz.out]; exact Nat.le_refl _⟩
  case round =>
    obtain ⟨k, vs, r, hk, HL, rfl, rfl, hO, HI, hr⟩ := hrel
    have hbase := hO.2.size
    by_cases hk4 : k < 4
    · have hwl := word_len r
      have HSt := Lib.hid (fun v (h : Spells (word r).1 v) => inv_step (v := v) hk4 HI.out h)
      have HW := Lib.hid (fun W => sword_any (str r) (by rw [str_size]; omega) W)
      have HD := Lib.hid (fun W => dec3_any (str (word r).1) (by rw [str_size]; omega) W)
      unfold WordPost at HW
      rw [data_str] at HW HD
      generalize word r = pq at HSt HW HD hwl
      obtain ⟨p, q⟩ := pq
      simp only at HSt HW HD hwl
      have hq : q.length ≤ s.size := by omega
      clear hwl HI
      go_wp2_with fail
      refine (HW.out _).mono ?_
      rintro e w1 ⟨rfl, hB1⟩
      have hO1 := hO.later hB1
      clear hO hB1 HW
      go_wp2_with fail
      refine (HD.out _).mono ?_
      rintro e w2 ⟨x, rfl, hsp, hB2⟩
      have hO2 := hO1.later hB2
      have HS := Lib.hid (HSt.out x hsp)
      have hlv : (iv vs).length ≤ 4 := by rw [iv_len, HL.out]; omega
      clear hO1 hB2 HD HSt hsp
      go_wp2_with (at_builtin; refine wpList_append_own _ rfl _ _ 59 rfl w.heap.size 3 i0 (.int .i64 0) 1 8 Tryd.underlying59 hi hz0 hz1 hz2 rfl (by decide) _ _ _ rfl (hO2.1.alloc _) ⟨w2.heap.size, 0, none⟩ 1 1 [.int .i64 x] rfl rfl ?c1 ?c2 ?c3 ?c4 ?c5 ?_)
      case c1 => exact cell_one_new _ _ _
      case c2 => intro y hy; simp at hy; subst hy; rfl
      case c3 => unfold maxLen; omega
      case c4 => omega
      case c5 => have := hO2.2.size; simp; omega
      intro v1 w3 hown1 hgrow1 _
      have R := hO2.more hown1 hgrow1
      rw [iv_snoc] at R
      have HR := Lib.hid R
      clear hown1 hgrow1 hO2 R
      go_wp2
      go_roundw
      case rel => exact ⟨k + 1, vs ++ [x], q, by omega, by show (vs ++ [x]).length = k + 1; rw [List.length_append, HL.out]; rfl, by go_num, rfl, HR.out, HS.out, hq⟩
      case measure => simp [intOf]; omega
    · obtain rfl : k = 4 := by omega
      have H4 : Hid (r.length ≤ s.data.toList.length) := by show _ ≤ _; rw [← hsz.out]; exact hr
      go_wp2
      go_ret2
      exact ⟨_, vs, r, rfl, HL.out, hO, HI.out, H4.out⟩
end Go.Proofs.YtekoghcgkmldgaaDoor.dc
