/-
  Contracts of the program's dataOf, text, mixedWith.
-/
import Derived.Test.YtokajeomojlinaaCutSpec
import Derived.Test.YtokajeomojlinaaMixImpl
import Derived.Laws.CopyRow
import Derived.Laws.Tables
import Derived.BigRegion
namespace Go.Proofs.Ytokajeomojlinaa.ci
open Go.ChangeShapes Go.WideShapes Go.ChangeAt Go.RowKit
open Go.Proofs.Ytokajeomojlinaa.wd Go.Proofs.Ytokajeomojlinaa.cp Go.Proofs.Ytokajeomojlinaa.ow Go.Proofs.Ytokajeomojlinaa.mi

theorem by_list (s : ByteArray) (k : Nat) : by_ s k = s.data.toList.getD k 0 := by
  unfold by_
  by_cases h : k < s.size
  · rw [dif_pos h]
    have h' : k < s.data.toList.length := by simpa using h
    rw [List.getD_eq_getElem?_getD, List.getElem?_eq_getElem h']
    rfl
  · rw [dif_neg h]
    have h' : s.data.toList.length ≤ k := by simpa using h
    rw [List.getD_eq_getElem?_getD, List.getElem?_eq_none h']
    rfl

theorem splice_cells (s : ByteArray) : (s.data.toList.map bv).take (Nat.min s.size 4) ++ Q.zero.cells.toList.drop (Nat.min s.size 4) = (qb s 0).cells.toList := by
  rw [Q.cells_list (qb s 0)]
  unfold qb Q.list
  simp only [by_list]
  rw [Lib.size_eq]
  generalize s.data.toList = l
  rcases l with _ | ⟨a, _ | ⟨b, _ | ⟨c, _ | ⟨d, l⟩⟩⟩⟩ <;> simp [Q.zero, Q.cells, List.getD, bv]

theorem sizeBlock : (Try.prog.info? 58).map (·.size) = some 4 := by kernel_rfl
theorem sizeByte : (Try.prog.info? 5).map (·.size) = some 1 := by kernel_rfl

theorem run_copy_text (w : World) (ty : TypeId) (g : Nat) (s : ByteArray) (hg : Blk w g 58 Q.zero.cells) :
    (Builtin.copy_ #[22, 9] ty #[.slice (some ⟨g, 0, none⟩) 4 4, .string s]).run Try.prog w = .ok (goInt (Nat.min s.size 4)) (w.setRow g (qb s 0).cells) := by
  have hlen : ((s.data.toList.map bv).take (Nat.min s.size 4)).length = Nat.min s.size 4 := by
    rw [List.length_take, List.length_map, ← Lib.size_eq]
    exact Nat.min_eq_left (Nat.min_le_left _ _)
  have hle : Nat.min s.size 4 ≤ 4 := Nat.min_le_right _ _
  have hst := run_storeCells_at Try.prog g 0 58 ((s.data.toList.map bv).take (Nat.min s.size 4)) 0 Q.zero.cells w hg (by rw [hlen, Q.cells_size]; omega)
    (fun v hv => bv_one _ v (List.mem_of_mem_take hv))
  rw [hlen] at hst
  simp only [Nat.add_zero, Nat.zero_add, List.take_zero, List.nil_append] at hst
  cases hq : Try.prog.info? 5 with
  | none => have := sizeByte; simp [hq] at this
  | some i =>
    have htk : List.take (Nat.min s.size 4) (List.map (fun b : UInt8 => Value.int IntKind.u8 (b.toNat : Int)) s.data.toList) = (s.data.toList.map bv).take (Nat.min s.size 4) := rfl
    simp [Builtin.copy_, run_underlying Try.underlying22, Builtin.lenOf, Builtin.firstCells, sizeOf, typeInfo, hq]
    rw [htk, hst]
    simp [Result.andThen, splice_cells]

theorem only_setRow {w : World} {g : Nat} {t : TypeId} {cs : Array Value} (hg : Blk w g t cs) (cs' : Array Value) : Blk (w.setRow g cs') g t cs' ∧ Only g w (w.setRow g cs') :=
  ⟨setRow_heap w g cs cs' t (0, 0) hg, ⟨rfl, rfl, rfl, by simp [World.setRow], fun k hk => setRow_other w g k cs' (by omega)⟩, fun k hk => setRow_other w g k cs' hk, by simp [World.setRow]⟩

theorem wpList_copy_text {ops : Array Oper} {rest : List Oper} {o : Oper} {a : Act} {w : World} {K : Exit → Act → World → Prop} (hgd : o.guard = none) (d s : Operand)
    (ho : o.op = .call { callee := .builtin .copy, args := #[d, s], argTypes := #[22, 9] }) (g : Nat) (t : ByteArray)
    (hd : a.eval d = .slice (some ⟨g, 0, none⟩) 4 4) (hs : a.eval s = .string t) (hg : Blk w g 58 Q.zero.cells)
    (h : ∀ w', Blk w' g 58 (qb t 0).cells → Only g w w' → wpList Try.prog ops K rest (a.put o.dst (goInt (Nat.min t.size 4))) w') : wpList Try.prog ops K (o :: rest) a w := by
  refine wpList_plain hgd fun K hK => ?_
  have hrun := run_copy_text w o.type g t hg
  unfold Oper.wp
  simp [execOp, ho, resolve, invoke, builtin, hd, hs, hrun, Result.andThen]
  obtain ⟨h1, h2⟩ := only_setRow hg (qb t 0).cells
  exact hK _ _ (h _ h1 h2)

def AggPost (w : World) (cs : Array Value) (e : Ending) (w' : World) : Prop := e = .returned (.agg cs) ∧ Below w.heap.size w w'

theorem only_blk {b g : Nat} {w w' : World} {t : TypeId} {cs : Array Value} (h : Only b w w') (hne : g ≠ b) (k : Blk w g t cs) : Blk w' g t cs := (h.2.1 g hne).trans k

theorem zero_cells : Q.zero.cells = #[.int .u8 0, .int .u8 0, .int .u8 0, .int .u8 0] := rfl

set_option maxHeartbeats 400000 in
theorem dataOf_any (t : ByteArray) (w : World) : Calls Try.prog 74 #[.string t] w (AggPost w (qb t 0).cells) := by
  go_enter Try.func74, Try.ntmps74
  go_wp2_with (with_reducible refine wpList_copy_text rfl (.tmp 4) (.tmp 5) rfl (w.heap.size + 1) t rfl rfl ?c1 ?_)
  case c1 =>
    rw [show w.heap.size + 1 = (w.alloc (.cells Q.zero.cells 58)).heap.size by simp]
    exact Blk.new _ _ _
  intro w1 hB hO
  have hR : Blk w1 w.heap.size 58 Q.zero.cells := only_blk hO (by omega) ((Blk.new w 58 Q.zero.cells).alloc _)
  have hW : Below w.heap.size w w1 := (((Below.refl _ _).alloc (Nat.le_refl _) _).alloc (by simp) _).trans (hO.1.mono (by omega))
  clear hO
  go_wp2_with (first | (refine wpList_load_row rfl 58 (.tmp 3) rfl (w.heap.size + 1) rfl 58 (qb t 0).cells (0, 0) _ hB Try.underlying58 rfl sizeBlock ?_) | (refine wpList_store_row rfl 58 (.tmp 2) (.tmp 7) rfl w.heap.size (qb t 0).cells rfl rfl 58 Q.zero.cells hR sizeBlock rfl (Q.cells_one _) ?_))
  obtain ⟨h1, h2⟩ := only_setRow hR (qb t 0).cells
  exact bodyPost_ret (v := .agg (qb t 0).cells) (results_cell_row rfl _ _ w.heap.size 58 _ (0, 0) _ rfl h1 Try.underlying58 rfl sizeBlock) rfl ⟨rfl, hW.trans h2.1⟩

theorem text_any (q : Q) (w : World) : Calls Try.prog 46 #[.agg q.cells] w (StrPost w q.str) := by
  have hcv : (convert 22 9 (.slice (some ⟨w.heap.size, 0, none⟩) 4 4)).run Try.prog (w.alloc (.cells q.cells 58)) = .ok (.string q.str) (w.alloc (.cells q.cells 58)) :=
    run_convert_bytes_back (P := Try.prog) _ 22 9 5 ⟨w.heap.size, 0, none⟩ 4 q.list Try.underlying22 Try.underlying5 Try.underlying9 (fun j hj => by
      have e : (⟨w.heap.size, 0, none⟩ : Addr).add j = ⟨w.heap.size, j, none⟩ := by unfold Addr.add; split <;> simp_all
      rw [e, (Blk.new w 58 q.cells).cell j]
      have : j = 0 ∨ j = 1 ∨ j = 2 ∨ j = 3 := by simp [Q.list] at hj; omega
      rcases this with rfl | rfl | rfl | rfl <;> rfl)
  generalize hq : q.cells = cs at hcv ⊢
  have HQ := Lib.hid hq
  clear hq
  go_enter Try.func46, Try.ntmps46
  go_wp2
  go_ret
  exact ⟨rfl, (Below.refl _ _).alloc (Nat.le_refl _) _⟩

/-- the first k bytes mixed -/
def mixTo (p q : Q) (k : Nat) : Q := ⟨if 0 < k then p.a ^^^ q.a else p.a, if 1 < k then p.b ^^^ q.b else p.b, if 2 < k then p.c ^^^ q.c else p.c, if 3 < k then p.d ^^^ q.d else p.d⟩
theorem mixTo_0 (p q : Q) : mixTo p q 0 = p := rfl
theorem mixTo_4 (p q : Q) : mixTo p q 4 = p.xor q := rfl
theorem four {k : Nat} (h : k < 4) : k = 0 ∨ k = 1 ∨ k = 2 ∨ k = 3 := by omega
def Q.get (q : Q) : Nat → UInt8
  | 0 => q.a
  | 1 => q.b
  | 2 => q.c
  | _ => q.d
theorem cells_get (q : Q) {k : Nat} (h : k < 4) : q.cells[k]? = some (.int .u8 ((Q.get q k).toNat : Int)) := by
  rcases four h with rfl | rfl | rfl | rfl <;> rfl
theorem mixTo_on (p q : Q) {k : Nat} (h : k < 4) : (mixTo p q k).cells.setIfInBounds k (.int .u8 (bits .xor .u8 ((Q.get (mixTo p q k) k).toNat : Int) ((Q.get q k).toNat : Int))) = (mixTo p q (k + 1)).cells := by
  rw [xor_bv]
  rcases four h with rfl | rfl | rfl | rfl <;> rfl

/-- at the head of the loop -/
def MRel (w : World) (p q : Q) (k : Nat) (wr : World) : Prop :=
  Blk wr w.heap.size 58 (mixTo p q k).cells ∧ Blk wr (w.heap.size + 1) 58 q.cells ∧ Blk wr (w.heap.size + 2) 58 Q.zero.cells ∧ Below w.heap.size w wr

theorem mrel_on {w : World} {p q : Q} {k : Nat} {wr : World} (h : MRel w p q k wr) (hk : k < 4) :
    MRel w p q (k + 1) (wr.setCell ⟨w.heap.size, k, none⟩ (.int .u8 (bits .xor .u8 ((Q.get (mixTo p q k) k).toNat : Int) ((Q.get q k).toNat : Int)))).drew := by
  obtain ⟨h1, h2, h3, h4⟩ := h
  refine ⟨?_, h2.far (p := ⟨w.heap.size, k, none⟩) (by simp) _, h3.far (p := ⟨w.heap.size, k, none⟩) (by simp) _, (h4.setCell (p := ⟨w.heap.size, k, none⟩) (Nat.le_refl _) _).drew⟩
  rw [← mixTo_on p q hk]
  exact h1.put k _

set_option maxRecDepth 100000 in
set_option maxHeartbeats 1000000 in
theorem mixed_any (p q : Q) (w : World) : Calls Try.prog 50 #[.agg p.cells, .agg q.cells] w (AggPost w (p.xor q).cells) := by
  have hR : MRel w p q 0 (((w.alloc (.cells p.cells 58)).alloc (.cells q.cells 58)).alloc (.cells #[.int .u8 0, .int .u8 0, .int .u8 0, .int .u8 0] 58)) := by
    refine ⟨((Blk.new w _ p.cells).alloc _).alloc _, ?_, ?_, (((Below.refl _ _).alloc (Nat.le_refl _) _).alloc (by simp) _).alloc (by simp; omega) _⟩
    · have := (Blk.new (w.alloc (.cells p.cells 58)) 58 q.cells).alloc (.cells #[.int .u8 0, .int .u8 0, .int .u8 0, .int .u8 0] 58)
      simpa using this
    · have := Blk.new ((w.alloc (.cells p.cells 58)).alloc (.cells q.cells 58)) 58 Q.zero.cells
      rw [show ((w.alloc (.cells p.cells 58)).alloc (.cells q.cells 58)).heap.size = w.heap.size + 2 by simp] at this
      exact this
  generalize hpc : p.cells = pc at hR ⊢
  generalize hqc : q.cells = qc at hR ⊢
  clear hpc hqc
  have HR := Lib.hid hR
  clear hR
  go_enter Try.func50, Try.ntmps50
  go_wp2
  go_loopw [6] (fun i wr => ∃ k : Nat, k ≤ 4 ∧ i = .int .i64 k ∧ MRel w p q k wr) (fun i _ => 5 - (intOf i).toNat)
  case atStart => exact ⟨0, by omega, rfl, HR.out⟩
  case round =>
    obtain ⟨k, hk, rfl, hM⟩ := hrel
    clear HR
    by_cases hk4 : k < 4
    · have HN := Lib.hid (mrel_on hM hk4)
      obtain ⟨h1, h2, h3, h4⟩ := hM
      have c1 := h1.cell k
      rw [cells_get _ hk4] at c1
      have f1 := h1.frozen k
      have c2 := h2.cell k
      rw [cells_get _ hk4] at c2
      clear h1 h2 h3 h4
      generalize Q.get (mixTo p q k) k = x at c1 HN
      generalize Q.get q k = y at c2 HN
      go_wp2
      go_region
      go_wp2
      go_roundw
      case rel => exact ⟨k + 1, by omega, by go_num, HN.out⟩
      case measure => simp [intOf]; omega
    · obtain rfl : k = 4 := by omega
      obtain ⟨h1, h2, h3, h4⟩ := hM
      rw [mixTo_4] at h1
      clear h2
      go_wp2_with (first | (refine wpList_load_row rfl 58 (.tmp 2) rfl w.heap.size rfl 58 (p.xor q).cells (0, 0) _ h1 Try.underlying58 rfl sizeBlock ?_) | (refine wpList_store_row rfl 58 (.tmp 4) (.tmp 18) rfl (w.heap.size + 2) (p.xor q).cells rfl rfl 58 Q.zero.cells h3 sizeBlock rfl (Q.cells_one _) ?_))
      obtain ⟨k1, k2⟩ := only_setRow h3 (p.xor q).cells
      exact bodyPost_ret (v := .agg (p.xor q).cells) (results_cell_row rfl _ _ (w.heap.size + 2) 58 _ (0, 0) _ rfl k1 Try.underlying58 rfl sizeBlock) rfl ⟨rfl, h4.trans (k2.1.mono (by omega))⟩
end Go.Proofs.Ytokajeomojlinaa.ci
