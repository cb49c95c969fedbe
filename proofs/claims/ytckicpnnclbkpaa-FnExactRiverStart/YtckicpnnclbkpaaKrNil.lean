/-
  Nodes without partial messages: as values; contracts of the laws' own helpers over them, and of both KeeperStart.
-/
import Derived.Test.YtckicpnnclbkpaaWords
import Derived.Test.YtckicpnnclbkpaaIn0
import Derived.Test.YtckicpnnclbkpaaLim
namespace Go.Proofs.Ytckicpnnclbkpaa.kr
open Go.ChangeShapes Go.WideShapes Go.ChangeAt Go.RowKit
open Go.Proofs.Ytckicpnnclbkpaa.wd Go.Proofs.Ytckicpnnclbkpaa.nb Go.Proofs.Ytckicpnnclbkpaa.li

/-- a node, as a value -/
abbrev krV (id : Int) (up : Bool) (s : ByteArray) (f : Int) (h : Value) : Value := .agg #[.int .i64 id, .bool up, .string s, .int .i64 f, h]
abbrev krC (id : Int) (up : Bool) (s : ByteArray) (f : Int) (h : Value) : Array Value := #[.int .i64 id, .bool up, .string s, .int .i64 f, h]
abbrev no : Value := .slice none 0 0
def BPost (w : World) (b : Bool) (e : Ending) (w' : World) : Prop := e = .returned (.bool b) ∧ Below w.heap.size w w'
def IPost (w : World) (k : Int) (e : Ending) (w' : World) : Prop := e = .returned (.int .i64 k) ∧ Below w.heap.size w w'

theorem eqS_same (s : ByteArray) (f : Int) (w : World) : Calls Try.prog 37 #[.agg #[.string s, .int .i64 f], .agg #[.string s, .int .i64 f]] w (BPost w true) := by
  go_enter Try.func37, Try.ntmps37
  go_wp2
  go_ret
  exact ⟨rfl, ((Below.refl _ _).alloc (Nat.le_refl _) _).alloc (by simp) _⟩
theorem eqH_nil (w : World) : Calls Try.prog 38 #[no, no] w (BPost w true) := by
  go_enter Try.func38, Try.ntmps38
  go_wp2
  go_loopw [5] (fun i wr => i = .int .i64 0 ∧ wr = w) (fun _ _ => 0)
  case atStart => exact ⟨rfl, rfl⟩
  case round =>
    obtain ⟨rfl, rfl⟩ := hrel
    go_wp2
    go_ret
    exact ⟨rfl, Below.refl _ _⟩
theorem markH_nil (k : Int) (w : World) : Calls Try.prog 32 #[no, .int .i64 k] w (IPost w k) := by
  go_enter Try.func32, Try.ntmps32
  go_wp2
  go_loopw [1, 5] (fun a i wr => i = .int .i64 0 ∧ a = .int .i64 k ∧ wr = w) (fun _ _ _ => 0)
  case atStart => exact ⟨rfl, rfl, rfl⟩
  case round =>
    obtain ⟨rfl, rfl, rfl⟩ := hrel
    go_wp2
    go_ret
    exact ⟨rfl, Below.refl _ _⟩
theorem heldH_nil (k : Int) (w : World) : Calls Try.prog 33 #[no, .int .i64 k] w (IPost w k) := by
  go_enter Try.func33, Try.ntmps33
  go_wp2
  go_loopw [1, 5] (fun a i wr => i = .int .i64 0 ∧ a = .int .i64 k ∧ wr = w) (fun _ _ _ => 0)
  case atStart => exact ⟨rfl, rfl, rfl⟩
  case round =>
    obtain ⟨rfl, rfl, rfl⟩ := hrel
    go_wp2
    go_ret
    exact ⟨rfl, Below.refl _ _⟩

/-- the cells of a node's box -/
theorem cells5k {w : World} {g : Nat} {t : TypeId} {a b c d e : Value} (h : Blk w g t #[a, b, c, d, e]) : w.cell? ⟨g, 0, none⟩ = some a ∧ w.cell? ⟨g, 1, none⟩ = some b ∧ w.cell? ⟨g, 2, none⟩ = some c ∧ w.cell? ⟨g, 3, none⟩ = some d ∧ w.cell? ⟨g, 4, none⟩ = some e :=
  ⟨h.cell 0, h.cell 1, h.cell 2, h.cell 3, h.cell 4⟩

set_option maxRecDepth 100000 in
set_option maxHeartbeats 1600000 in
theorem eqKr_nil (id : Int) (up : Bool) (s : ByteArray) (f : Int) (w : World) : Calls Try.prog 28 #[krV id up s f no, krV id up s f no] w (BPost w true) := by
  have HE := Lib.hid (fun V => eqS_same s f V)
  have HH := Lib.hid (fun V => eqH_nil V)
  have k1 := (Blk.new w 36 (krC id up s f no)).alloc (.cells (krC id up s f no) 36)
  have k2 := Blk.new (w.alloc (.cells (krC id up s f no) 36)) 36 (krC id up s f no)
  have B0 := ((Below.refl w.heap.size w).alloc (Nat.le_refl _) (.cells (krC id up s f no) 36)).alloc (by simp) (.cells (krC id up s f no) 36)
  simp only [World.size_alloc] at k2
  go_enter Try.func28, Try.ntmps28
  go_wp2_with fail
  generalize (w.alloc (.cells (krC id up s f no) 36)).alloc (.cells (krC id up s f no) 36) = V at k1 k2 B0 ⊢
  refine (HE.out _).mono ?_
  rintro e w1 ⟨rfl, B1⟩
  obtain ⟨_, _, _, _, c4⟩ := cells5k (k1.below B1 k1.lt)
  obtain ⟨_, _, _, _, d4⟩ := cells5k (k2.below B1 k2.lt)
  have B2 := B0.trans (B1.mono B0.size)
  clear k1 k2 B0 B1
  go_wp2_with fail
  refine (HH.out _).mono ?_
  rintro e w2 ⟨rfl, B3⟩
  have B4 := B2.trans (B3.mono B2.size)
  clear c4 d4 B2 B3
  go_wp2
  go_ret
  exact ⟨rfl, B4⟩
/-- the number and the running of a node at first -/
def stId (id : Int) : Int := if inB id 0 3 then id else 0
def StartPost (w : World) (id : Int) (e : Ending) (w' : World) : Prop := e = .returned (krV (stId id) (inB id 0 3) ⟨#[]⟩ 0 no) ∧ Below w.heap.size w w'

set_option maxRecDepth 100000 in
set_option maxHeartbeats 1600000 in
theorem skr_start (id : Int) (w : World) : Calls Try.prog 9 #[.int .i64 id] w (StartPost w id) := by
  have H1 := Lib.hid (fun V => keeper_any id V)
  unfold StartPost stId
  cases hb : inB id 0 3 with
  | false =>
    rw [hb] at H1
    go_enter Try.func9, Try.ntmps9
    go_wp2_with fail
    refine (H1.out _).mono ?_
    rintro e w1 ⟨rfl, rfl⟩
    go_wp2
    refine bodyPost_ret (v := krV 0 false ⟨#[]⟩ 0 no) (by simp [results, Try.results9, go_sem]) rfl ⟨rfl, ?_⟩
    exact (Below.refl _ _).alloc (Nat.le_refl _) _
  | true =>
    rw [hb] at H1
    go_enter Try.func9, Try.ntmps9
    go_wp2_with fail
    refine (H1.out _).mono ?_
    rintro e w1 ⟨rfl, rfl⟩
    go_wp2
    refine bodyPost_ret (v := krV id true ⟨#[]⟩ 0 no) (by simp [results, Try.results9, go_sem]) rfl ⟨rfl, ?_⟩
    exact (Below.refl _ _).alloc (Nat.le_refl _) _
/-- a node stored into a block -/
abbrev put5k (V : World) (R : Nat) (a b c d e : Value) : World := ((((V.setCell ⟨R, 0, none⟩ a).setCell ⟨R, 1, none⟩ b).setCell ⟨R, 2, none⟩ c).setCell ⟨R, 3, none⟩ d).setCell ⟨R, 4, none⟩ e
theorem put5_blk {V : World} {R : Nat} {t : TypeId} {a b c d e a' b' c' d' e' : Value} (h : Blk V R t #[a, b, c, d, e]) : Blk (put5k V R a' b' c' d' e') R t #[a', b', c', d', e'] :=
  ((((h.put 0 a').put 1 b').put 2 c').put 3 d').put 4 e'
theorem put5_below {w V : World} {B R : Nat} (hR : B ≤ R) (h : Below B w V) (a b c d e : Value) : Below B w (put5k V R a b c d e) :=
  ((((h.setCell (p := ⟨R, 0, none⟩) hR a).setCell (p := ⟨R, 1, none⟩) hR b).setCell (p := ⟨R, 2, none⟩) hR c).setCell (p := ⟨R, 3, none⟩) hR d).setCell (p := ⟨R, 4, none⟩) hR e

set_option maxRecDepth 100000 in
set_option maxHeartbeats 1600000 in
theorem ikr_start (id : Int) (w : World) : Calls Try.prog 11 #[.int .i64 id] w (StartPost w id) := by
  have H1 := Lib.hid (fun V => outside_any id 0 3 V)
  have k0 := Blk.new w 36 (krC 0 false ⟨#[]⟩ 0 no)
  have B0 := (Below.refl w.heap.size w).alloc (Nat.le_refl _) (.cells (krC 0 false ⟨#[]⟩ 0 no) 36)
  unfold StartPost stId
  cases hb : inB id 0 3 with
  | false =>
    rw [hb] at H1
    go_enter Try.func11, Try.ntmps11
    go_wp2_with fail
    generalize w.alloc (.cells (krC 0 false ⟨#[]⟩ 0 no) 36) = V at k0 B0 ⊢
    refine (limited_any _ _).mono ?_
    rintro e w1 ⟨rfl, b1⟩
    have k1 := k0.below b1 k0.lt
    have B1 := B0.trans (b1.mono B0.size)
    clear k0 B0 b1
    go_wp2_with fail
    refine (H1.out _).mono ?_
    rintro e w2 ⟨rfl, b2⟩
    have k2 := k1.below b2 k1.lt
    have B2 := B1.trans (b2.mono B1.size)
    obtain ⟨r0, r1, r2, r3, r4⟩ := cells5k k2
    have f0 := k2.frozen 0
    have f1 := k2.frozen 1
    have f2 := k2.frozen 2
    have f3 := k2.frozen 3
    have f4 := k2.frozen 4
    have HC := Lib.hid (put5_blk (a' := .int .i64 0) (b' := .bool false) (c' := .string ⟨#[]⟩) (d' := .int .i64 0) (e' := no) k2)
    have HD := Lib.hid (put5_below (B := w.heap.size) (R := w.heap.size) (Nat.le_refl _) B2 (.int .i64 0) (.bool false) (.string ⟨#[]⟩) (.int .i64 0) no)
    clear k1 B1 b2 k2 B2
    go_wp2
    obtain ⟨x0, x1, x2, x3, x4⟩ := cells5k HC.out
    refine bodyPost_ret (v := krV 0 false ⟨#[]⟩ 0 no) (by simp [results, Try.results11, go_sem, x0, x1, x2, x3, x4]) rfl ⟨rfl, ?_⟩
    exact HD.out
  | true =>
    rw [hb] at H1
    go_enter Try.func11, Try.ntmps11
    go_wp2_with fail
    generalize w.alloc (.cells (krC 0 false ⟨#[]⟩ 0 no) 36) = V at k0 B0 ⊢
    refine (limited_any _ _).mono ?_
    rintro e w1 ⟨rfl, b1⟩
    have k1 := k0.below b1 k0.lt
    have B1 := B0.trans (b1.mono B0.size)
    clear k0 B0 b1
    go_wp2_with fail
    refine (H1.out _).mono ?_
    rintro e w2 ⟨rfl, b2⟩
    have k2 := k1.below b2 k1.lt
    have B2 := B1.trans (b2.mono B1.size)
    obtain ⟨r0, r1, r2, r3, r4⟩ := cells5k k2
    have f0 := k2.frozen 0
    have f1 := k2.frozen 1
    have f2 := k2.frozen 2
    have f3 := k2.frozen 3
    have f4 := k2.frozen 4
    have HC := Lib.hid (put5_blk (a' := .int .i64 id) (b' := .bool true) (c' := .string ⟨#[]⟩) (d' := .int .i64 0) (e' := no) k2)
    have HD := Lib.hid (put5_below (B := w.heap.size) (R := w.heap.size) (Nat.le_refl _) B2 (.int .i64 id) (.bool true) (.string ⟨#[]⟩) (.int .i64 0) no)
    clear k1 B1 b2 k2 B2
    go_wp2
    obtain ⟨x0, x1, x2, x3, x4⟩ := cells5k HC.out
    refine bodyPost_ret (v := krV id true ⟨#[]⟩ 0 no) (by simp [results, Try.results11, go_sem, x0, x1, x2, x3, x4]) rfl ⟨rfl, ?_⟩
    exact HD.out
end Go.Proofs.Ytckicpnnclbkpaa.kr
