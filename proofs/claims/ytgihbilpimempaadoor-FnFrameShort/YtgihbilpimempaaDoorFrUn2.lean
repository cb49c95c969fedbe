/-
  Contracts of the program's reading of a frame: (*impl.frameCursor).readBytes, readBlock, readFrame, readSum, readEnd; impl.FrameUnpack.
-/
import Derived.Test.YtgihbilpimempaaDoorFrUn
import Derived.Test.YtgihbilpimempaaDoorIPack2
namespace Go.Proofs.YtgihbilpimempaaDoor.fr
open Go.ChangeShapes Go.WideShapes Go.ChangeAt Go.RowKit
open Go.Proofs.YtgihbilpimempaaDoor.nb Go.Proofs.YtgihbilpimempaaDoor.wd Go.Proofs.YtgihbilpimempaaDoor.cp Go.Proofs.YtgihbilpimempaaDoor.ow

/-- below B nothing but the blocks y and z has turned -/
def But2 (B y z : Nat) (w w' : World) : Prop := w'.os = w.os ∧ w'.tape = w.tape ∧ w'.output = w.output ∧ w.heap.size ≤ w'.heap.size ∧ ∀ k, k < B → k ≠ y → k ≠ z → w'.heap[k]? = w.heap[k]?
section
variable {B y z : Nat} {w w' w'' : World}
theorem But2.refl (B y z : Nat) (w : World) : But2 B y z w w := ⟨rfl, rfl, rfl, Nat.le_refl _, fun _ _ _ _ => rfl⟩
theorem But2.trans (h : But2 B y z w w') (k : But2 B y z w' w'') : But2 B y z w w'' :=
  ⟨k.1.trans h.1, k.2.1.trans h.2.1, k.2.2.1.trans h.2.2.1, Nat.le_trans h.2.2.2.1 k.2.2.2.1, fun i hi h1 h2 => (k.2.2.2.2 i hi h1 h2).trans (h.2.2.2.2 i hi h1 h2)⟩
theorem But2.of1 (h : But B y w w') : But2 B y z w w' := ⟨h.1, h.2.1, h.2.2.1, h.2.2.2.1, fun i hi h1 _ => h.2.2.2.2 i hi h1⟩
theorem But2.set (h : But2 B y z w w') (i : Nat) (v : Value) : But2 B y z w (w'.setCell ⟨z, i, none⟩ v) := h.trans ⟨rfl, rfl, rfl, by simp, fun k _ _ hk => Below.heap_setCell w' ⟨z, i, none⟩ v k hk⟩
theorem But2.cell {R i : Nat} (h : But2 B y z w w') (hR : R < B) (h1 : R ≠ y) (h2 : R ≠ z) : w'.cell? ⟨R, i, none⟩ = w.cell? ⟨R, i, none⟩ := World.cell?_of_block (h.2.2.2.2 R hR h1 h2)
theorem But2.blk {R : Nat} {T : TypeId} {cs : Array Value} (h : But2 B y z w w') (hb : Blk w R T cs) (hR : R < B) (h1 : R ≠ y) (h2 : R ≠ z) : Blk w' R T cs := (h.2.2.2.2 R hR h1 h2).trans hb
theorem But2.low (h : But2 B y z w w') (hy : y ≤ z) (hB : y ≤ B) : Below y w w' := ⟨h.1, h.2.1, h.2.2.1, h.2.2.2.1, fun i hi => h.2.2.2.2 i (by omega) (by omega) (by omega)⟩
end

/-- a row of cells with n numbers that were read stored from o on -/
def putsV (cs : Array Value) (o : Nat) (l : List UInt8) (i : Nat) : Nat → Array Value
  | 0 => cs
  | n + 1 => (putsV cs o l i n).setIfInBounds (o + n) (.int .i64 (vl l (i + n)))
theorem putsV_size (cs : Array Value) (o : Nat) (l : List UInt8) (i : Nat) : ∀ n, (putsV cs o l i n).size = cs.size
  | 0 => rfl
  | n + 1 => by show ((putsV cs o l i n).setIfInBounds _ _).size = _; rw [Array.size_setIfInBounds, putsV_size cs o l i n]

def BytesPost (w : World) (b : Nat) (A : Option Addr) (c : Nat) (l : List UInt8) (i n R o : Nat) (cs : Array Value) (e : Ending) (w' : World) : Prop :=
  e = .returned (.tuple #[]) ∧ Cu w' b A c l (i + n) ∧ Blk w' R 24 (putsV cs o l i n) ∧ But2 w.heap.size b R w w' ∧ w'.heap.size = w.heap.size

set_option maxRecDepth 100000 in
set_option maxHeartbeats 2000000 in
theorem readBytes_any (w : World) (b : Nat) (A : Option Addr) (c : Nat) (l : List UInt8) (i P R o n : Nat) (cs : Array Value) (h : Cu w b A c l i) (hr : RowU b w A l) (hE : FErr b w) (hl : l.length ≤ 1048576)
    (hP : ∀ j, j < n → w.cell? ⟨P, j, none⟩ = some (.pointer (some ⟨R, o + j, none⟩))) (hPl : P < w.heap.size) (hPb : P ≠ b) (hPR : P ≠ R) (hR : Blk w R 24 cs) (hbR : b < R) (ho : o + n ≤ cs.size) (hn : n ≤ 100) :
    Calls Tryd.prog 51 #[.pointer (some ⟨b, 0, none⟩), .slice (some ⟨P, 0, none⟩) n n] w (BytesPost w b A c l i n R o cs) := by
  have HC := Lib.hid h
  have HRow := Lib.hid hr
  have HErr := Lib.hid hE
  have HP := Lib.hid hP
  have HPb := Lib.hid hPb
  have HPR := Lib.hid hPR
  have HR := Lib.hid hR
  have hRl := hR.lt
  clear h hr hE hP hPb hPR hR
  go_enter Tryd.func51, Tryd.ntmps51
  go_wp2
  go_loopw [8] (fun x wr => ∃ k : Nat, k ≤ n ∧ x = .int .i64 k ∧ Hid (Cu wr b A c l (i + k)) ∧ Hid (Blk wr R 24 (putsV cs o l i k)) ∧ Hid (But2 w.heap.size b R w wr) ∧ Hid (wr.heap.size = w.heap.size)) (fun x _ => n - (intOf x).toNat)
  case atStart => exact ⟨0, by omega, rfl, HC.out, HR.out, But2.refl _ _ _ _, rfl⟩
  case round =>
    obtain ⟨k, hk, rfl, hC, hB, hT, hs⟩ := hrel
    clear HC HR
    by_cases hlt : k < n
    · have ix := (hT.out.cell hPl HPb.out HPR.out).trans (HP.out k hlt)
      have hlow := hT.out.low (by omega) (by omega)
      have HN := Lib.hid (next_any wr b A c l (i + k) hC.out (HRow.out.below hlow) (HErr.out.below hlow) hl)
      have HV := Lib.hid (show putsV cs o l i (k + 1) = (putsV cs o l i k).setIfInBounds (o + k) (.int .i64 (vl l (i + k))) from rfl)
      have hsz := putsV_size cs o l i k
      unfold NextPost at HN
      generalize putsV cs o l i k = C at hB HV hsz
      have Y0 := vl_lo l (i + k)
      have Y1 := vl_hi l (i + k)
      generalize vl l (i + k) = Y at HN HV Y0 Y1
      clear hlow hC
      go_wp2_with fail
      clear ix
      refine HN.out.mono ?_
      rintro e V ⟨rfl, hC, hBt, hs2⟩
      have hBV := hBt.blk hB.out (by rw [hs.out]; exact hRl) (by omega)
      have HT2 := Lib.hid ((hT.out.trans (But2.of1 (by rw [← hs.out]; exact hBt))).set (o + k) (.int .i64 Y))
      have HS2 : Hid ((V.setCell ⟨R, o + k, none⟩ (.int .i64 Y)).heap.size = w.heap.size) := by
        show _ = _
        rw [← hs.out, ← hs2]; simp
      have HB2 : Hid (Blk (V.setCell ⟨R, o + k, none⟩ (.int .i64 Y)) R 24 (putsV cs o l i (k + 1))) := by
        show Blk _ _ _ _
        rw [HV.out]; exact hBV.put (o + k) (.int .i64 Y)
      obtain ⟨flt, hCb, hCf⟩ := hC
      have HC2 : Hid (Cu (V.setCell ⟨R, o + k, none⟩ (.int .i64 Y)) b A c l (i + (k + 1))) := ⟨flt, hCb.far (p := ⟨R, o + k, none⟩) (by show b ≠ R; omega) _, hCf⟩
      obtain ⟨x, hx⟩ : ∃ x, V.cell? ⟨R, o + k, none⟩ = some x := ⟨C[o + k]'(by omega), by rw [hBV.cell]; exact Array.getElem?_eq_getElem (by omega)⟩
      have fx := hBV.frozen (o + k)
      clear hBV hBt hs2 hCb hCf hB HN HV hT hs
      go_wp2
      go_roundw
      case rel => exact ⟨k + 1, by omega, by go_num, HC2.out, HB2.out, HT2.out, HS2.out⟩
      case measure => simp [intOf]; omega
    · obtain rfl : n = k := by omega
      go_wp2
      go_end0
      exact ⟨rfl, hC.out, hB.out, hT.out, hs.out⟩

theorem text_any (q : Q) (w : World) : Calls Tryd.prog 63 #[.agg q.cells] w (StrPost w q.str) := by
  have hcv : (convert 22 9 (.slice (some ⟨w.heap.size, 0, none⟩) 4 4)).run Tryd.prog (w.alloc (.cells q.cells 89)) = .ok (.string q.str) (w.alloc (.cells q.cells 89)) :=
    run_convert_bytes_back (P := Tryd.prog) _ 22 9 5 ⟨w.heap.size, 0, none⟩ 4 q.list Tryd.underlying22 Tryd.underlying5 Tryd.underlying9 (fun j hj => by
      have e : (⟨w.heap.size, 0, none⟩ : Addr).add j = ⟨w.heap.size, j, none⟩ := by unfold Addr.add; split <;> simp_all
      rw [e, (Blk.new w 89 q.cells).cell j]
      have : j = 0 ∨ j = 1 ∨ j = 2 ∨ j = 3 := by simp [Q.list] at hj; omega
      rcases this with rfl | rfl | rfl | rfl <;> rfl)
  generalize hq : q.cells = cs at hcv ⊢
  have HQ := Lib.hid hq
  clear hq
  go_enter Tryd.func63, Tryd.ntmps63
  go_wp2
  go_ret
  exact ⟨rfl, (Below.refl _ _).alloc (Nat.le_refl _) _⟩

/-- four bytes as they are read -/
def qOf (l : List UInt8) (i : Nat) : Q := ⟨l.getD i 0, l.getD (i + 1) 0, l.getD (i + 2) 0, l.getD (i + 3) 0⟩
theorem qOf_str (l : List UInt8) (i : Nat) : (qOf l i).str = four l i := rfl
/-- the first k of them read, zeros behind -/
def qTo (l : List UInt8) (i k : Nat) : Array Value := #[.int .u8 (if 0 < k then vl l i else 0), .int .u8 (if 1 < k then vl l (i + 1) else 0), .int .u8 (if 2 < k then vl l (i + 2) else 0), .int .u8 (if 3 < k then vl l (i + 3) else 0)]
theorem qTo_0 (l : List UInt8) (i : Nat) : qTo l i 0 = #[.int .u8 0, .int .u8 0, .int .u8 0, .int .u8 0] := rfl
theorem qTo_4 (l : List UInt8) (i : Nat) : qTo l i 4 = (qOf l i).cells := rfl
theorem qTo_put (l : List UInt8) (i : Nat) {k : Nat} (hk : k < 4) : (qTo l i k).setIfInBounds k (.int .u8 (vl l (i + k))) = qTo l i (k + 1) := by
  have h4 : k = 0 ∨ k = 1 ∨ k = 2 ∨ k = 3 := by omega
  rcases h4 with rfl | rfl | rfl | rfl <;> rfl
theorem qTo_size (l : List UInt8) (i k : Nat) : (qTo l i k).size = 4 := rfl
theorem sizeBlock : Tryd.prog.cellsOf 89 = 4 := by kernel_rfl

def BlockPost (w : World) (b : Nat) (A : Option Addr) (c : Nat) (l : List UInt8) (i : Nat) (e : Ending) (w' : World) : Prop :=
  e = .returned (.string (four l i)) ∧ Cu w' b A c l (i + 4) ∧ But w.heap.size b w w'

set_option maxRecDepth 100000 in
set_option maxHeartbeats 2000000 in
theorem readBlock_any (w : World) (b : Nat) (A : Option Addr) (c : Nat) (l : List UInt8) (i : Nat) (h : Cu w b A c l i) (hr : RowU b w A l) (hE : FErr b w) (hl : l.length ≤ 1048576) (hb : b < w.heap.size) :
    Calls Tryd.prog 53 #[.pointer (some ⟨b, 0, none⟩)] w (BlockPost w b A c l i) := by
  have hD := Blk.new w 89 (qTo l i 0)
  have hB0 : Below w.heap.size w (w.alloc (.cells (qTo l i 0) 89)) := (Below.refl _ _).alloc (Nat.le_refl _) _
  have hz0 : (w.alloc (.cells (qTo l i 0) 89)).heap.size = w.heap.size + 1 := by simp
  obtain ⟨flt, hCb, hCf⟩ := h
  have HC : Hid (Cu (w.alloc (.cells (qTo l i 0) 89)) b A c l i) := ⟨flt, hCb.alloc _, hCf⟩
  have HRow := Lib.hid hr
  have HErr := Lib.hid hE
  have HD := Lib.hid hD
  have HZ := Lib.hid hz0
  have HB0 := Lib.hid hB0
  clear hD hB0 hz0 hCb hCf hr hE
  rw [qTo_0] at HC HD HZ HB0
  go_enter Tryd.func53, Tryd.ntmps53
  go_wp2
  generalize w.alloc (.cells #[.int .u8 0, .int .u8 0, .int .u8 0, .int .u8 0] 89) = W at HC HD HZ HB0 ⊢
  go_loopw [5] (fun x wr => ∃ k : Nat, k ≤ 4 ∧ x = .int .i64 k ∧ Hid (Cu wr b A c l (i + k)) ∧ Hid (Blk wr w.heap.size 89 (qTo l i k)) ∧ Hid (But w.heap.size b w wr) ∧ Hid (wr.heap.size = w.heap.size + 1)) (fun x _ => 4 - (intOf x).toNat)
  case atStart => exact ⟨0, by omega, rfl, HC.out, HD.out, But.of HB0.out (Nat.le_refl _), HZ.out⟩
  case round =>
    obtain ⟨k, hk, rfl, hC, hB, hT, hs⟩ := hrel
    clear HC HD HB0
    by_cases hlt : k < 4
    · have hlow : Below b w wr := ⟨hT.out.1, hT.out.2.1, hT.out.2.2.1, hT.out.2.2.2.1, fun j hj => hT.out.2.2.2.2 j (by omega) (by omega)⟩
      have HN := Lib.hid (next_any wr b A c l (i + k) hC.out (HRow.out.below hlow) (HErr.out.below hlow) hl)
      have HV := Lib.hid (qTo_put l i hlt)
      have hsz := qTo_size l i k
      unfold NextPost at HN
      have Y0 := vl_lo l (i + k)
      have Y1 := vl_hi l (i + k)
      generalize qTo l i k = C at hB HV hsz
      generalize vl l (i + k) = Y at HN HV Y0 Y1
      clear hlow hC
      have hk1 : (k : Int) < 4 := by omega
      go_wp2_with fail
      refine HN.out.mono ?_
      rintro e V ⟨rfl, hC, hBt, hs2⟩
      have hBV := hBt.blk hB.out (by rw [hs.out]; omega) (by omega)
      have hset : But w.heap.size b V (V.setCell ⟨w.heap.size, k, none⟩ (.int .u8 Y)) := ⟨rfl, rfl, rfl, by simp, fun j hj _ => Below.heap_setCell V ⟨w.heap.size, k, none⟩ _ j (by show j ≠ w.heap.size; omega)⟩
      have HT2 := Lib.hid ((hT.out.trans (hBt.less (by rw [hs.out]; omega))).trans hset)
      have HS2 : Hid ((V.setCell ⟨w.heap.size, k, none⟩ (.int .u8 Y)).heap.size = w.heap.size + 1) := by
        show _ = _
        rw [← hs.out, ← hs2]; simp
      have HB2 : Hid (Blk (V.setCell ⟨w.heap.size, k, none⟩ (.int .u8 Y)) w.heap.size 89 (qTo l i (k + 1))) := by
        show Blk _ _ _ _
        rw [← HV.out]; exact hBV.put k (.int .u8 Y)
      obtain ⟨flt, hCb, hCf⟩ := hC
      have HC2 : Hid (Cu (V.setCell ⟨w.heap.size, k, none⟩ (.int .u8 Y)) b A c l (i + (k + 1))) := ⟨flt, hCb.far (p := ⟨w.heap.size, k, none⟩) (by show b ≠ w.heap.size; omega) _, hCf⟩
      obtain ⟨x, hx⟩ : ∃ x, V.cell? ⟨w.heap.size, k, none⟩ = some x := ⟨C[k]'(by omega), by rw [hBV.cell]; exact Array.getElem?_eq_getElem (by omega)⟩
      have fx := hBV.frozen k
      clear hBV hBt hs2 hCb hCf hB HN HV hT hs hset
      go_wp2
      go_roundw
      case rel => exact ⟨k + 1, by omega, by go_num, HC2.out, HB2.out, HT2.out, HS2.out⟩
      case measure => simp [intOf]; omega
    · obtain rfl : k = 4 := by omega
      rw [qTo_4] at hB
      have HTx := Lib.hid (fun V => text_any (qOf l i) V)
      rw [qOf_str] at HTx
      have hcs : (qOf l i).cells = #[.int .u8 ((qOf l i).a.toNat : Int), .int .u8 ((qOf l i).b.toNat : Int), .int .u8 ((qOf l i).c.toNat : Int), .int .u8 ((qOf l i).d.toNat : Int)] := rfl
      rw [hcs] at HTx hB
      clear hcs
      have c0 := hB.out.cell 0
      have c1 := hB.out.cell 1
      have c2 := hB.out.cell 2
      have c3 := hB.out.cell 3
      simp only [List.getElem?_toArray, List.getElem?_cons_zero, List.getElem?_cons_succ] at c0 c1 c2 c3
      generalize ((qOf l i).a.toNat : Int) = q0 at HTx c0
      generalize ((qOf l i).b.toNat : Int) = q1 at HTx c1
      generalize ((qOf l i).c.toNat : Int) = q2 at HTx c2
      generalize ((qOf l i).d.toNat : Int) = q3 at HTx c3
      clear hB
      go_wp2_with fail
      refine (HTx.out _).mono ?_
      rintro e V ⟨rfl, hBV⟩
      have hC := hC.out
      obtain ⟨flt, hCb, hCf⟩ := hC
      have HC2 : Hid (Cu V b A c l (i + 4)) := ⟨flt, hCb.below hBV hCb.lt, hCf⟩
      have HT2 := Lib.hid (hT.out.trans ((But.of (z := b) hBV (Nat.le_refl _)).less (by rw [hs.out]; omega)))
      clear hBV hCb hCf hT hs
      go_wp2
      go_ret
      exact ⟨rfl, HC2.out, HT2.out⟩
end Go.Proofs.YtgihbilpimempaaDoor.fr
