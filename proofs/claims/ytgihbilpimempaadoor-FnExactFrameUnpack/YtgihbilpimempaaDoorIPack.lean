/-
  Contracts of impl.FramePack and of its parts: the bytes of a frame under the program's hand.
-/
import Derived.Test.YtgihbilpimempaaDoorIFr
import Derived.Test.YtgihbilpimempaaDoorSPack
import Derived.Deep.AppendLies
import Derived.Deep.RegionLaw
import Derived.Lib.AppendStr
import Derived.Outline
namespace Go.Proofs.YtgihbilpimempaaDoor.fr
open Go.ChangeShapes Go.WideShapes Go.ChangeAt Go.RowKit
open Go.Proofs.YtgihbilpimempaaDoor.nb Go.Proofs.YtgihbilpimempaaDoor.wd Go.Proofs.YtgihbilpimempaaDoor.cp Go.Proofs.YtgihbilpimempaaDoor.ow

/-- below B nothing but block z has turned -/
def But (B z : Nat) (w w' : World) : Prop := w'.os = w.os ∧ w'.tape = w.tape ∧ w'.output = w.output ∧ w.heap.size ≤ w'.heap.size ∧ ∀ k, k < B → k ≠ z → w'.heap[k]? = w.heap[k]?
/-- the bytes that block z holds: in memory from B on -/
def FB (B z : Nat) (w : World) (l : List UInt8) : Prop :=
  ∃ A N c, Blk w z 42 #[.slice A N c] ∧ w.ownsRow B 5 1 (.slice A N c) l.length (l.map bv) ∧ z < B ∧ B ≤ w.heap.size
section
variable {B z : Nat} {w w' w'' : World} {l l' : List UInt8}
theorem But.refl (B z : Nat) (w : World) : But B z w w := ⟨rfl, rfl, rfl, Nat.le_refl _, fun _ _ _ => rfl⟩
theorem But.trans (h : But B z w w') (k : But B z w' w'') : But B z w w'' :=
  ⟨k.1.trans h.1, k.2.1.trans h.2.1, k.2.2.1.trans h.2.2.1, Nat.le_trans h.2.2.2.1 k.2.2.2.1, fun i hi hn => (k.2.2.2.2 i hi hn).trans (h.2.2.2.2 i hi hn)⟩
theorem But.blk {R : Nat} {T : TypeId} {cs : Array Value} (h : But B z w w') (hb : Blk w R T cs) (hR : R < B) (hz : R ≠ z) : Blk w' R T cs := (h.2.2.2.2 R hR hz).trans hb
theorem But.cell {R i : Nat} (h : But B z w w') (hR : R < B) (hz : R ≠ z) : w'.cell? ⟨R, i, none⟩ = w.cell? ⟨R, i, none⟩ := World.cell?_of_block (h.2.2.2.2 R hR hz)
theorem But.less {B' : Nat} (h : But B z w w') (hb : B' ≤ B) : But B' z w w' := ⟨h.1, h.2.1, h.2.2.1, h.2.2.2.1, fun i hi hn => h.2.2.2.2 i (by omega) hn⟩
theorem But.below {w0 : World} (h : But B z w w') (hB : Below w0.heap.size w0 w) (h0 : w0.heap.size ≤ z) (hz : z < B) : Below w0.heap.size w0 w' :=
  ⟨h.1.trans hB.os, h.2.1.trans hB.tape, h.2.2.1.trans hB.output, Nat.le_trans hB.size h.2.2.2.1, fun i hi => (h.2.2.2.2 i (by omega) (by omega)).trans (hB.block i hi)⟩
theorem But.of (h : Below w.heap.size w w') (hB : B ≤ w.heap.size) : But B z w w' := ⟨h.os, h.tape, h.output, h.size, fun i hi _ => h.block i (by omega)⟩
theorem But.drewN (h : But B z w w') (n : Nat) : But B z w (w'.drewN n) := h

theorem own_val {t : TypeId} {sz : Nat} {v : Value} {n : Nat} {xs : List Value} (hO : w.ownsRow B t sz v n xs) : ∃ A N c, v = .slice A N c := by
  rcases hO.2 with ⟨rfl, hn⟩ | ⟨g, cap, cur, rfl, _⟩
  · exact ⟨none, 0, 0, rfl⟩
  · exact ⟨_, n, cap, rfl⟩
theorem FB.nil (h : Blk w z 42 #[.slice none 0 0]) (hz : z < B) (hB : B ≤ w.heap.size) : FB B z w [] := ⟨none, 0, 0, h, World.ownsRow_nil _ _ _ _, hz, hB⟩
theorem FB.lt (h : FB B z w l) : z < w.heap.size := by obtain ⟨_, _, _, hb, _⟩ := h; exact hb.lt
/-- memory was made -/
theorem FB.later (h : FB B z w l) (hb : Below w.heap.size w w') : FB B z w' l := by
  obtain ⟨A, N, c, h1, h2, h3, h4⟩ := h
  refine ⟨A, N, c, h1.below hb h1.lt, ?_, h3, Nat.le_trans h4 hb.size⟩
  refine h2.kept (row := none) ⟨hb.os, hb.tape, hb.output, hb.size, fun i hi _ => hb.block i hi⟩ ?_
  cases hv : (Value.slice A N c).ownBlock with
  | none => exact .inl rfl
  | some k => exact .inr (by simp)
/-- behind an append, ahead of the store: the block that holds the bytes -/
theorem app_z {n : Nat} {xs : List Value} {A : Option Addr} {N c : Nat} (h1 : Blk w z 42 #[.slice A N c]) (h2 : w.ownsRow B 5 1 (.slice A N c) n xs) (hz : z < B) (hg : w.grownBy w' (Value.slice A N c).ownBlock) : Blk w' z 42 #[.slice A N c] :=
  (hg.block z h1.lt (fun e => by have := (h2.lt z e.symm).1; omega)).trans h1
theorem FB.store {A1 A : Option Addr} {N1 c1 N c n m : Nat} {xs : List Value} (h1 : Blk w z 42 #[.slice A N c]) (h2 : w.ownsRow B 5 1 (.slice A N c) n xs) (hz : z < B) (hB : B ≤ w.heap.size) (ho : w'.ownsRow B 5 1 (.slice A1 N1 c1) m (l'.map bv)) (hg : w.grownBy w' (Value.slice A N c).ownBlock) :
    FB B z (w'.setCell ⟨z, 0, none⟩ (.slice A1 N1 c1)) l' ∧ But B z w (w'.setCell ⟨z, 0, none⟩ (.slice A1 N1 c1)) := by
  have hz' := app_z h1 h2 hz hg
  have hb : Below (z + 1) w w := Below.refl _ _
  have hm : m = l'.length := by have := ho.1; simp at this; omega
  subst hm
  refine ⟨⟨A1, N1, c1, by simpa using hz'.put 0 (.slice A1 N1 c1), ?_, hz, ?_⟩, ?_⟩
  · have hk : Below w'.heap.size w' w' := Below.refl _ _
    refine ho.kept (row := some z) ⟨rfl, rfl, rfl, by simp, fun i hi hn => Below.heap_setCell w' _ _ i (fun e => hn (by rw [e]))⟩ ?_
    cases hv : (Value.slice A1 N1 c1).ownBlock with
    | none => exact .inl rfl
    | some k => exact .inr (fun e => by have := (ho.lt k hv).1; injection e; omega)
  · simp; exact Nat.le_trans hB hg.size
  · refine ⟨hg.os, hg.tape, hg.output, by simpa using hg.size, fun i hi hn => ?_⟩
    rw [Below.heap_setCell w' ⟨z, 0, none⟩ _ i hn]
    exact hg.block i (by omega) (fun e => by have := (h2.lt i e.symm).1; omega)
end
theorem tuple0 : Ending.returned (.tuple #[]) = .returned (.tuple #[]) := rfl
def AddPost (B z : Nat) (w : World) (l : List UInt8) (e : Ending) (w' : World) : Prop := e = .returned (.tuple #[]) ∧ FB B z w' l ∧ But B z w w'
theorem grown_alloc {w w1 : World} {o : Obj} {r : Option Nat} {B : Nat} (hg : (w.alloc o).grownBy w1 r) (hr : ∀ k, r = some k → B ≤ k) (hB : B ≤ w.heap.size) : ∀ i, i < B → w1.heap[i]? = w.heap[i]? := fun i hi =>
  (hg.block i (by simp; omega) (fun e => by have := hr i e.symm; omega)).trans (Below.heap_alloc w o i (by omega))

set_option maxRecDepth 100000 in
set_option maxHeartbeats 1000000 in
theorem addPair_any (B z : Nat) (w : World) (l : List UInt8) (n : Int) (h : FB B z w l) (h0 : 0 ≤ n) (h1 : n ≤ 65535) (hl : l.length ≤ 1000) :
    Calls Tryd.prog 27 #[.pointer (some ⟨z, 0, none⟩), .int .i64 n] w (AddPost B z w (l ++ two n)) := by
  obtain ⟨i0, hi, hz0, hz1, hz2⟩ := info_parts infoByte
  obtain ⟨A, N, c, hb, ho, hzB, hBw⟩ := h
  have c0 := hb.cell 0
  simp only [List.getElem?_toArray, List.getElem?_cons_zero] at c0
  have HM := Lib.hid (two_map h0 h1)
  have hm0 : 0 ≤ n / 256 := by omega
  have hm1 : n / 256 ≤ 255 := by omega
  go_enter Tryd.func27, Tryd.ntmps27
  go_wp2_with (at_builtin; refine wpList_append_own _ rfl _ _ 42 rfl B 5 i0 (.int .u8 0) 1 1 Tryd.underlying42 hi hz0 hz1 hz2 rfl (by decide) _ _ _ rfl (ho.alloc _) ⟨w.heap.size, 0, none⟩ 2 2 [.int .u8 (n / 256), .int .u8 (n % 256)] rfl rfl ?c1 ?c2 ?c3 ?c4 ?c5 ?_)
  case c1 => exact World.news_of_block (heap_alloc_new w _)
  case c2 => intro x hx; simp at hx; rcases hx with rfl | rfl <;> rfl
  case c3 => unfold maxLen; omega
  case c4 => omega
  case c5 => simp; omega
  intro v1 w1 hown1 hgrow1 _
  obtain ⟨A1, N1, c1, rfl⟩ := own_val hown1
  have hz1' := app_z (hb.alloc _) (ho.alloc _) hzB hgrow1
  have d0 := hz1'.cell 0
  simp only [List.getElem?_toArray, List.getElem?_cons_zero] at d0
  have e0 := hz1'.frozen 0
  rw [← HM.out, ← List.map_append] at hown1
  have R := Lib.hid (FB.store (hb.alloc _) (ho.alloc _) hzB (by simp; omega) hown1 hgrow1)
  have hA := Lib.hid (But.of (z := z) ((Below.refl w.heap.size w).alloc (Nat.le_refl _) (.cells #[.int .u8 (n / 256), .int .u8 (n % 256)] 5)) hBw)
  clear hown1 hgrow1 hz1' hb ho c0
  go_wp2
  go_end0
  exact ⟨rfl, R.out.1, hA.out.trans R.out.2⟩

set_option maxRecDepth 100000 in
set_option maxHeartbeats 1000000 in
theorem addText_any (B z : Nat) (w : World) (l : List UInt8) (s : ByteArray) (h : FB B z w l) (hs : s.size ≤ 1000) (hl : l.length ≤ 1000) :
    Calls Tryd.prog 41 #[.pointer (some ⟨z, 0, none⟩), .string s] w (AddPost B z w (l ++ s.data.toList)) := by
  obtain ⟨i0, hi, hz0, hz1, hz2⟩ := info_parts infoByte
  obtain ⟨A, N, c, hb, ho, hzB, hBw⟩ := h
  have c0 := hb.cell 0
  simp only [List.getElem?_toArray, List.getElem?_cons_zero] at c0
  go_enter Tryd.func41, Tryd.ntmps41
  go_wp2_with (at_builtin; refine Lib.wpList_append_own_string _ rfl (.tmp 7) (.tmp 8) 42 9 rfl B 5 i0 Tryd.underlying42 Tryd.underlying9 hi hz0 hz1 hz2 _ _ _ rfl ho s rfl ?c3 ?c4 ?c5 ?_)
  case c3 => unfold maxLen; omega
  case c4 => omega
  case c5 => omega
  intro v1 w1 hown1 hgrow1 _
  obtain ⟨A1, N1, c1, rfl⟩ := own_val hown1
  have hz1' := app_z hb ho hzB hgrow1
  have d0 := hz1'.cell 0
  simp only [List.getElem?_toArray, List.getElem?_cons_zero] at d0
  have e0 := hz1'.frozen 0
  rw [show Lib.strCells s = s.data.toList.map bv from rfl, ← List.map_append] at hown1
  have R := Lib.hid (FB.store hb ho hzB hBw hown1 hgrow1)
  clear hown1 hgrow1 hz1' hb ho c0
  go_wp2
  go_end0
  exact ⟨rfl, R.out⟩

def ptr6 (g : Nat) : Array Value := #[.pointer (some ⟨g, 0, none⟩), .pointer (some ⟨g, 1, none⟩), .pointer (some ⟨g, 2, none⟩), .pointer (some ⟨g, 3, none⟩), .pointer (some ⟨g, 4, none⟩), .pointer (some ⟨g, 5, none⟩)]
theorem ptr6_at {k : Nat} (hk : k < 6) (g : Nat) : (ptr6 g)[k]? = some (.pointer (some ⟨g, k, none⟩)) := by
  match k, hk with
  | 0, _ => rfl
  | 1, _ => rfl
  | 2, _ => rfl
  | 3, _ => rfl
  | 4, _ => rfl
  | 5, _ => rfl
def NumPost (g : Nat) (w : World) (e : Ending) (w' : World) : Prop := ∃ R, e = .returned (.slice (some ⟨R, 0, none⟩) 6 6) ∧ R = w.heap.size ∧ Blk w' R 65 (ptr6 g) ∧ Below w.heap.size w w'

set_option maxRecDepth 100000 in
set_option maxHeartbeats 1000000 in
theorem numbers_any (g : Nat) (w : World) :
    Calls Tryd.prog 40 #[.pointer (some ⟨g, 0, none⟩)] w (NumPost g w) := by
  go_enter Tryd.func40, Tryd.ntmps40
  go_wp2_with fail
  go_region
  all_goals
    go_wp2
    go_ret
    exact ⟨_, rfl, rfl, Blk.new _ _ _, ((Below.refl _ _).alloc (Nat.le_refl _) _).drew⟩

set_option maxRecDepth 100000 in
set_option maxHeartbeats 2000000 in
/-- numbers behind pointers, one behind the other, written as bytes -/
theorem addBytes_any (B z : Nat) (w : World) (l : List UInt8) (P R o n : Nat) (vals : List Int) (h : FB B z w l) (hn : vals.length = n) (hP : ∀ j, j < n → w.cell? ⟨P, j, none⟩ = some (.pointer (some ⟨R, o + j, none⟩))) (hPB : (P < B ∧ P ≠ z) ∨ n = 1)
    (hR : R < B) (hRz : R ≠ z) (hv : ∀ j x, vals[j]? = some x → w.cell? ⟨R, o + j, none⟩ = some (.int .i64 x) ∧ 0 ≤ x ∧ x ≤ 255) (hl : l.length + n ≤ 1000) :
    Calls Tryd.prog 39 #[.pointer (some ⟨z, 0, none⟩), .slice (some ⟨P, 0, none⟩) n n] w (AddPost B z w (l ++ vals.map b8)) := by
  obtain ⟨i0, hi, hz0, hz1, hz2⟩ := info_parts infoByte
  have HN := Lib.hid hn
  have HP := Lib.hid hP
  have HPB := Lib.hid hPB
  have HV := Lib.hid hv
  have HF := Lib.hid h
  have HRz := Lib.hid hRz
  clear hn hP hPB hv h hRz
  go_enter Tryd.func39, Tryd.ntmps39
  go_wp2
  go_loopw [8] (fun i wr => ∃ k : Nat, k ≤ n ∧ i = .int .i64 k ∧ Hid (FB B z wr (l ++ (vals.take k).map b8)) ∧ Hid (But B z w wr) ∧ Hid (k = 0 → wr = w)) (fun i _ => n - (intOf i).toNat)
  case atStart => exact ⟨0, by omega, rfl, by simpa [Hid] using HF.out, But.refl _ _ _, fun _ => rfl⟩
  case round =>
    obtain ⟨k, hk, rfl, hF, hBt, hW⟩ := hrel
    by_cases hlt : k < n
    · obtain ⟨y, hx⟩ : ∃ y, vals[k]? = some y := ⟨_, List.getElem?_eq_getElem (by rw [HN.out]; exact hlt)⟩
      have HT := Lib.hid (show (vals.take (k + 1)).map b8 = (vals.take k).map b8 ++ [b8 y] by rw [List.take_add_one, hx, List.map_append]; rfl)
      obtain ⟨hvc, y0, y1⟩ := HV.out k _ hx
      have ix : wr.cell? ⟨P, k, none⟩ = some (.pointer (some ⟨R, o + k, none⟩)) := by
        rcases HPB.out with ⟨h1, h2⟩ | h1
        · rw [hBt.out.cell h1 h2]; exact HP.out k hlt
        · rw [hW.out (by omega)]; exact HP.out k hlt
      have cR : wr.cell? ⟨R, o + k, none⟩ = some (.int .i64 y) := by rw [hBt.out.cell hR HRz.out]; exact hvc
      have hbv := Lib.hid (bv_b8 (n := y) (by omega) (by omega))
      have hw8 : IntKind.u8.wrap y = y := by simp [IntKind.wrap, IntKind.bits, IntKind.signed]; omega
      have hll : (l ++ (vals.take k).map b8).length ≤ 1000 := by rw [List.length_append, List.length_map, List.length_take]; omega
      clear hx hvc hW
      obtain ⟨A, N, c, hb, ho, hzB, hBw⟩ := hF.out
      have c0 := hb.cell 0
      have hzl := hb.lt
      have hRl : R < wr.heap.size := by omega
      simp only [List.getElem?_toArray, List.getElem?_cons_zero] at c0
      have HL := Lib.hid (show l ++ (vals.take (k + 1)).map b8 = l ++ (vals.take k).map b8 ++ [b8 y] by rw [HT.out, List.append_assoc])
      generalize l ++ (vals.take k).map b8 = L at hF hb ho hll HL
      clear hF
      go_upto_region 3 with (fail)
      go_region_law (refine step_append_lies _ rfl (.tmp 15) (.tmp 20) 42 rfl B 5 i0 (.int .u8 0) 1 1 Tryd.underlying42 hi hz0 hz1 hz2 rfl (by decide) (.slice A N c) L.length (L.map bv) (by simp [Act.eval]) (ho.alloc _) ⟨wr.heap.size, 0, none⟩ 1 1 [.int .u8 y] (by simp [Act.eval]) rfl (cell_one_new _ _ _) (by intro x hx; simp at hx; subst hx; rfl) (by decide) (by unfold maxLen; omega) (by omega) (by simp; omega) _ rfl ?_; intro g cap w1 hown1 hgrow1 _ _; have hz1' := app_z (hb.alloc _) (ho.alloc _) hzB (grown_of_drew hgrow1); have d0 := hz1'.cell 0; simp only [List.getElem?_toArray, List.getElem?_cons_zero] at d0; have e0 := hz1'.frozen 0)
      all_goals
        have hs := FB.store (l' := L ++ [b8 y]) (hb.alloc _) (ho.alloc _) hzB (by simp; omega) (by rw [List.map_append]; show w1.ownsRow B _ 1 _ _ (L.map bv ++ [bv (b8 y)]); rw [hbv.out]; exact hown1) (grown_of_drew hgrow1)
        have R1 := Lib.hid hs.1
        have R2 := Lib.hid (hBt.out.trans ((But.of (z := z) ((Below.refl wr.heap.size wr).alloc (Nat.le_refl _) (.cells #[.int .u8 y] 5)) hBw).trans hs.2))
        clear hs hown1 hgrow1 hz1' hb ho c0
        go_wp2
        go_roundw
        case rel => exact ⟨k + 1, by omega, by go_num, by show FB _ _ _ _; rw [HL.out]; exact R1.out, R2.out, fun h => absurd h (by omega)⟩
        case measure => simp [intOf]; omega
    · obtain rfl : n = k := by omega
      have HT := Lib.hid (show (vals.take n).map b8 = vals.map b8 by rw [List.take_of_length_le (by rw [HN.out]; exact Nat.le_refl _)])
      rw [HT.out] at hF
      go_wp2
      go_end0
      exact ⟨rfl, hF.out, hBt.out⟩

/-- an owned row reads as its bytes -/
theorem row_of {B : Nat} {w : World} {A : Option Addr} {N c n : Nat} {l : List UInt8} (h : w.ownsRow B 5 1 (.slice A N c) n (l.map bv)) : N = l.length ∧ RowB w A l := by
  have hl : n = l.length := by have := h.1; simp at this; omega
  subst hl
  rcases h.2 with ⟨e, hn⟩ | ⟨g, cap, cur, e, hb, hh, hn, hm, hs, ht⟩
  · injection e with e1 e2 e3
    refine ⟨by omega, fun hp => absurd hp (by omega)⟩
  · injection e with e1 e2 e3
    subst e1
    refine ⟨e2, fun hp => ⟨g, 0, rfl, (Array.getElem?_eq_some_iff.1 hh).1, fun j hj => ?_⟩⟩
    subst e2; subst e3
    rw [Nat.zero_add, World.ownsRow.cellAt (g := g) (cap := c) h j (by simpa using hj)]
    rw [List.getElem?_map, List.getElem?_eq_getElem hj]
    unfold bv vl
    rw [List.getD_eq_getElem?_getD, List.getElem?_eq_getElem hj]
    rfl
end Go.Proofs.YtgihbilpimempaaDoor.fr
