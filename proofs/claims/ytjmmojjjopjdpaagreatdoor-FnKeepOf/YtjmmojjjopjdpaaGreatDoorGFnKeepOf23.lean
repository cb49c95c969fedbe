/-
  Merged texts: Lim, Next, IMark, IHas, IHas2, RecRow.
-/
import Derived.Test.YtjmmojjjopjdpaaGreatDoorGFnKeepOf1
import Derived.Test.YtjmmojjjopjdpaaGreatDoorGFnKeepOf5
import Derived.Test.YtjmmojjjopjdpaaGreatDoorGFnKeepOf6
import Derived.Test.YtjmmojjjopjdpaaGreatDoorGFnKeepOf15
import Derived.Test.YtjmmojjjopjdpaaGreatDoorGFnKeepOf14
import Derived.Below
import Derived.Deep.RegionHeld3
import Derived.Deep.Cut
import Derived.Laws.IdiomCopy
import Derived.Lib.AppendZerosOnto
import Derived.Lib.Overlaps
/-
  Contracts of impl.limitedNode and of (impl.limited).isOutside: a number with its limits.
-/
namespace Go.Proofs.YtjmmojjjopjdpaaGreatDoor.li
open Go.ChangeShapes Go.WideShapes Go.ChangeAt Go.RowKit
open Go.Proofs.YtjmmojjjopjdpaaGreatDoor.nb

abbrev lim (v a b : Int) : Value := .agg #[.int .i64 v, .int .i64 a, .int .i64 b]

theorem limited_any (n : Int) (w : World) :
    Calls Tryz.prog 55 #[.int .i64 n] w fun e w' => e = .returned (lim n 0 3) ∧ Below w.heap.size w w' := by
  go_enter Tryz.func55, Tryz.ntmps55
  go_wp2
  exact bodyPost_ret (v := lim n 0 3) (by simp [results, Tryz.results55, go_sem, lim]) rfl ⟨rfl, (Below.refl _ _).alloc (Nat.le_refl _) _⟩

theorem limNum_any (n : Int) (w : World) :
    Calls Tryz.prog 184 #[.int .i64 n] w fun e w' => e = .returned (lim n 1 99) ∧ Below w.heap.size w w' := by
  go_enter Tryz.func184, Tryz.ntmps184
  go_wp2
  exact bodyPost_ret (v := lim n 1 99) (by simp [results, Tryz.results184, go_sem, lim]) rfl ⟨rfl, (Below.refl _ _).alloc (Nat.le_refl _) _⟩
theorem limUntil_any (n : Int) (w : World) :
    Calls Tryz.prog 185 #[.int .i64 n] w fun e w' => e = .returned (lim n 1 999) ∧ Below w.heap.size w w' := by
  go_enter Tryz.func185, Tryz.ntmps185
  go_wp2
  exact bodyPost_ret (v := lim n 1 999) (by simp [results, Tryz.results185, go_sem, lim]) rfl ⟨rfl, (Below.refl _ _).alloc (Nat.le_refl _) _⟩
theorem outside_any (v a b : Int) (w : World) :
    Calls Tryz.prog 56 #[lim v a b] w fun e w' => e = .returned (.bool (!inB v a b)) ∧ Below w.heap.size w w' := by
  unfold lim
  by_cases h1 : v < a
  · rw [inB_f (.inl h1)]
    go_enter Tryz.func56, Tryz.ntmps56
    go_wp2
    go_ret
    exact ⟨rfl, (Below.refl _ _).alloc (Nat.le_refl _) _⟩
  · by_cases h2 : b < v
    · rw [inB_f (.inr h2)]
      go_enter Tryz.func56, Tryz.ntmps56
      go_wp2
      go_ret
      exact ⟨rfl, (Below.refl _ _).alloc (Nat.le_refl _) _⟩
    · rw [inB_t (by omega) (by omega)]
      go_enter Tryz.func56, Tryz.ntmps56
      go_wp2
      go_ret
      exact ⟨rfl, (Below.refl _ _).alloc (Nat.le_refl _) _⟩
end Go.Proofs.YtjmmojjjopjdpaaGreatDoor.li

/-
  Contracts of both NoteNext: one function of two numbers.
-/
namespace Go.Proofs.YtjmmojjjopjdpaaGreatDoor.nx
open Go.ChangeShapes Go.WideShapes Go.ChangeAt Go.RowKit
open Go.Proofs.YtjmmojjjopjdpaaGreatDoor.nb Go.Proofs.YtjmmojjjopjdpaaGreatDoor.li

def nxt (a t : Int) : Int := if a = t ∨ a < 0 ∨ 3 < a ∨ t < 0 ∨ 3 < t then -1 else if a < t then a + 1 else a - 1
theorem nxt_no {a t : Int} (h : a = t ∨ a < 0 ∨ 3 < a ∨ t < 0 ∨ 3 < t) : nxt a t = -1 := if_pos h
theorem nxt_up {a t : Int} (h0 : 0 ≤ a) (h : a < t) (h1 : t ≤ 3) : nxt a t = a + 1 := by unfold nxt; rw [if_neg (by omega), if_pos h]
theorem nxt_down {a t : Int} (h0 : 0 ≤ t) (h : t < a) (h1 : a ≤ 3) : nxt a t = a - 1 := by unfold nxt; rw [if_neg (by omega), if_neg (by omega)]

theorem snext_any (a t : Int) (w : World) :
    Calls Tryz.prog 334 #[.int .i64 a, .int .i64 t] w fun e w' => e = .returned (.int .i64 (nxt a t)) ∧ w = w' := by
  by_cases h1 : 0 ≤ a ∧ a ≤ 3
  · have k1 := inB_t h1.1 h1.2
    by_cases h2 : 0 ≤ t ∧ t ≤ 3
    · have k2 := inB_t h2.1 h2.2
      rcases Int.lt_trichotomy a t with h | h | h
      · have hr := Lib.hid (nxt_up h1.1 h h2.2)
        obtain ⟨a0, a1⟩ := h1
        obtain ⟨t0, t1⟩ := h2
        go_enter Tryz.func334, Tryz.ntmps334
        go_wp2_with ((go_at_call 49; refine (keeper_any _ _).mono ?_; rintro e w' ⟨rfl, rfl⟩))
        go_ret
        exact ⟨ret_int hr.out.symm, rfl⟩
      · subst h
        have hr := Lib.hid (nxt_no (a := a) (t := a) (.inl rfl))
        clear h1 h2
        go_enter Tryz.func334, Tryz.ntmps334
        go_wp2_with ((go_at_call 49; refine (keeper_any _ _).mono ?_; rintro e w' ⟨rfl, rfl⟩))
        go_ret
        exact ⟨ret_int hr.out.symm, rfl⟩
      · have hr := Lib.hid (nxt_down h2.1 h h1.2)
        obtain ⟨a0, a1⟩ := h1
        obtain ⟨t0, t1⟩ := h2
        go_enter Tryz.func334, Tryz.ntmps334
        go_wp2_with ((go_at_call 49; refine (keeper_any _ _).mono ?_; rintro e w' ⟨rfl, rfl⟩))
        go_ret
        exact ⟨ret_int hr.out.symm, rfl⟩
    · have k2 := inB_f (n := t) (a := 0) (b := 3) (by omega)
      have hr := Lib.hid (nxt_no (a := a) (t := t) (by omega))
      clear h1 h2
      go_enter Tryz.func334, Tryz.ntmps334
      go_wp2_with ((go_at_call 49; refine (keeper_any _ _).mono ?_; rintro e w' ⟨rfl, rfl⟩))
      go_ret
      exact ⟨ret_int hr.out.symm, rfl⟩
  · have k1 := inB_f (n := a) (a := 0) (b := 3) (by omega)
    have hr := Lib.hid (nxt_no (a := a) (t := t) (by omega))
    clear h1
    go_enter Tryz.func334, Tryz.ntmps334
    go_wp2_with ((go_at_call 49; refine (keeper_any _ _).mono ?_; rintro e w' ⟨rfl, rfl⟩))
    go_ret
    exact ⟨ret_int hr.out.symm, rfl⟩

def cmpI (x y : Int) : Int := if x < y then -1 else if y < x then 1 else 0
theorem cmpI_lt {x y : Int} (h : x < y) : cmpI x y = -1 := if_pos h
theorem cmpI_gt {x y : Int} (h : y < x) : cmpI x y = 1 := by unfold cmpI; rw [if_neg (by omega), if_pos h]
theorem cmpI_eq {x y : Int} (h : x = y) : cmpI x y = 0 := by unfold cmpI; rw [if_neg (by omega), if_neg (by omega)]

theorem nan_any (x : Int) (w : World) :
    Calls Tryz.prog 268 #[.int .i64 x] w fun e w' => e = .returned (.bool false) ∧ w = w' := by
  go_enter Tryz.func268, Tryz.ntmps268
  go_wp2
  go_ret
  exact ⟨rfl, rfl⟩

theorem cmp_any (x y : Int) (w : World) :
    Calls Tryz.prog 230 #[.int .i64 x, .int .i64 y] w fun e w' => e = .returned (.int .i64 (cmpI x y)) ∧ w = w' := by
  rcases Int.lt_trichotomy x y with h | h | h
  · have hr := Lib.hid (cmpI_lt h)
    go_enter Tryz.func230, Tryz.ntmps230
    go_wp2_with ((go_at_call 268; refine (nan_any _ _).mono ?_; rintro e w' ⟨rfl, rfl⟩))
    go_ret
    exact ⟨ret_int hr.out.symm, rfl⟩
  · subst h
    have hr := Lib.hid (cmpI_eq (x := x) rfl)
    go_enter Tryz.func230, Tryz.ntmps230
    go_wp2_with ((go_at_call 268; refine (nan_any _ _).mono ?_; rintro e w' ⟨rfl, rfl⟩))
    go_ret
    exact ⟨ret_int hr.out.symm, rfl⟩
  · have hr := Lib.hid (cmpI_gt h)
    have h2 : ¬ x < y := by omega
    go_enter Tryz.func230, Tryz.ntmps230
    go_wp2_with ((go_at_call 268; refine (nan_any _ _).mono ?_; rintro e w' ⟨rfl, rfl⟩))
    go_ret
    exact ⟨ret_int hr.out.symm, rfl⟩

theorem inext_any (a t : Int) (w : World) :
    Calls Tryz.prog 263 #[.int .i64 a, .int .i64 t] w fun e w' => e = .returned (.int .i64 (nxt a t)) ∧ Below w.heap.size w w' := by
  by_cases h : a = t
  · subst h
    have hr := Lib.hid (nxt_no (a := a) (t := a) (.inl rfl))
    go_enter Tryz.func263, Tryz.ntmps263
    go_wp2_with fail
    go_ret
    exact ⟨ret_int hr.out.symm, Below.refl _ _⟩
  have hne : (a == t) = false := by simpa using h
  by_cases h1 : 0 ≤ a ∧ a ≤ 3
  · have k1 := inB_t h1.1 h1.2
    by_cases h2 : 0 ≤ t ∧ t ≤ 3
    · have k2 := inB_t h2.1 h2.2
      obtain ⟨a0, a1⟩ := h1
      obtain ⟨t0, t1⟩ := h2
      have hr : nxt a t = a + cmpI t a ∧ -1 ≤ cmpI t a ∧ cmpI t a ≤ 1 := by
        rcases Int.lt_trichotomy a t with h' | h' | h'
        · rw [nxt_up a0 h' t1, cmpI_gt h']; omega
        · exact absurd h' h
        · rw [nxt_down t0 h' a1, cmpI_lt h']; omega
      obtain ⟨hr, c0, c1⟩ := hr
      have HR := Lib.hid hr
      clear hr h
      go_enter Tryz.func263, Tryz.ntmps263
      go_wp2_with fail
      refine (limited_any _ _).mono ?_
      rintro e w1 ⟨rfl, b1⟩
      go_wp2_with fail
      refine (outside_any _ _ _ _).mono ?_
      rintro e w2 ⟨rfl, b2⟩
      go_wp2_with fail
      refine (limited_any _ _).mono ?_
      rintro e w3 ⟨rfl, b3⟩
      go_wp2_with fail
      refine (outside_any _ _ _ _).mono ?_
      rintro e w4 ⟨rfl, b4⟩
      go_wp2_with fail
      refine (cmp_any _ _ _).mono ?_
      rintro e w' ⟨rfl, rfl⟩
      go_wp2
      go_ret
      exact ⟨ret_int HR.out.symm, (b1.trans (b2.mono b1.size)).trans ((b3.trans (b4.mono b3.size)).mono (Nat.le_trans b1.size b2.size))⟩
    · have k2 := inB_f (n := t) (a := 0) (b := 3) (by omega)
      have hr := Lib.hid (nxt_no (a := a) (t := t) (by omega))
      clear h h1 h2
      go_enter Tryz.func263, Tryz.ntmps263
      go_wp2_with fail
      refine (limited_any _ _).mono ?_
      rintro e w1 ⟨rfl, b1⟩
      go_wp2_with fail
      refine (outside_any _ _ _ _).mono ?_
      rintro e w2 ⟨rfl, b2⟩
      go_wp2_with fail
      refine (limited_any _ _).mono ?_
      rintro e w3 ⟨rfl, b3⟩
      go_wp2_with fail
      refine (outside_any _ _ _ _).mono ?_
      rintro e w4 ⟨rfl, b4⟩
      go_wp2
      go_ret
      exact ⟨ret_int hr.out.symm, (b1.trans (b2.mono b1.size)).trans ((b3.trans (b4.mono b3.size)).mono (Nat.le_trans b1.size b2.size))⟩
  · have k1 := inB_f (n := a) (a := 0) (b := 3) (by omega)
    have hr := Lib.hid (nxt_no (a := a) (t := t) (by omega))
    clear h h1
    go_enter Tryz.func263, Tryz.ntmps263
    go_wp2_with fail
    refine (limited_any _ _).mono ?_
    rintro e w1 ⟨rfl, b1⟩
    go_wp2_with fail
    refine (outside_any _ _ _ _).mono ?_
    rintro e w2 ⟨rfl, b2⟩
    go_wp2
    go_ret
    exact ⟨ret_int hr.out.symm, b1.trans (b2.mono b1.size)⟩
end Go.Proofs.YtjmmojjjopjdpaaGreatDoor.nx

/-
  Contracts of (impl.Note).mark, (impl.Mark).mark, cmp.Or at two numbers, impl.compareMarks.
-/
namespace Go.Proofs.YtjmmojjjopjdpaaGreatDoor.kp
open Go.ChangeShapes Go.WideShapes Go.ChangeAt Go.RowKit
open Go.Proofs.YtjmmojjjopjdpaaGreatDoor.wd Go.Proofs.YtjmmojjjopjdpaaGreatDoor.ow Go.Proofs.YtjmmojjjopjdpaaGreatDoor.rl Go.Proofs.YtjmmojjjopjdpaaGreatDoor.ok Go.Proofs.YtjmmojjjopjdpaaGreatDoor.nb Go.Proofs.YtjmmojjjopjdpaaGreatDoor.nx

def AggPost (w : World) (v : Value) (e : Ending) (w' : World) : Prop := e = .returned v ∧ Below w.heap.size w w'

theorem nmark_any (f n t u : Int) (s : ByteArray) (w : World) : Calls Tryz.prog 181 #[note f n t u s] w (AggPost w (mark f n u)) := by
  unfold note
  go_enter Tryz.func181, Tryz.ntmps181
  go_wp2
  refine bodyPost_ret (v := mark f n u) (by simp [results, Tryz.results181, go_sem, mark]) rfl ⟨rfl, ?_⟩
  exact ((Below.refl _ _).alloc (Nat.le_refl _) _).alloc (by simp) _
theorem mmark_any (f n u : Int) (w : World) : Calls Tryz.prog 387 #[mark f n u] w (AggPost w (mark f n u)) := by
  unfold mark
  go_enter Tryz.func387, Tryz.ntmps387
  go_wp2
  refine bodyPost_ret (v := mark f n u) (by simp [results, Tryz.results387, go_sem, mark]) rfl ⟨rfl, ?_⟩
  exact ((Below.refl _ _).alloc (Nat.le_refl _) _).alloc (by simp) _

/-- the methods behind the interface -/
theorem mMark (a b c : Value) (w : World) : (Go.method 569 164 (.agg #[a, b, c]) "loop.example/bargeman/impl.mark").run Tryz.prog w = .ok (387, .agg #[a, b, c]) w := by kernel_rfl
theorem mNote (a b c d e : Value) (w : World) : (Go.method 569 131 (.agg #[a, b, c, d, e]) "loop.example/bargeman/impl.mark").run Tryz.prog w = .ok (181, .agg #[a, b, c, d, e]) w := by kernel_rfl
/-- the first that is not 0 -/
def orI (a b : Int) : Int := if a = 0 then b else a
theorem or_any (a b : Int) (g : Nat) (w : World) (h0 : w.cell? ⟨g, 0, none⟩ = some (.int .i64 a)) (h1 : w.cell? ⟨g, 1, none⟩ = some (.int .i64 b)) :
    Calls Tryz.prog 229 #[.slice (some ⟨g, 0, none⟩) 2 2] w fun e w' => e = .returned (.int .i64 (orI a b)) ∧ w = w' := by
  by_cases ha : a = 0
  · subst ha
    have HE := Lib.hid (show orI 0 b = b from if_pos rfl)
    by_cases hb : b = 0
    · subst hb
      go_enter Tryz.func229, Tryz.ntmps229
      go_wp2
      go_loop [8] (fun i => i = .int .i64 0 ∨ i = .int .i64 1 ∨ i = .int .i64 2) (fun i => 3 - (intOf i).toNat)
      case atStart => exact .inl rfl
      case round =>
        rcases hrel with rfl | rfl | rfl
        · go_wp2
          go_round
          case rel => exact .inr (.inl rfl)
          case measure => simp [intOf]
        · go_wp2
          go_round
          case rel => exact .inr (.inr rfl)
          case measure => simp [intOf]
        · go_wp2
          go_ret
          exact ⟨nb.ret_int HE.out.symm, rfl⟩
    · have hb' : (b == 0) = false := by simpa using hb
      go_enter Tryz.func229, Tryz.ntmps229
      go_wp2
      go_loop [8] (fun i => i = .int .i64 0 ∨ i = .int .i64 1) (fun i => 3 - (intOf i).toNat)
      case atStart => exact .inl rfl
      case round =>
        rcases hrel with rfl | rfl
        · go_wp2
          go_round
          case rel => exact .inr rfl
          case measure => simp [intOf]
        · go_wp2
          go_ret
          exact ⟨nb.ret_int HE.out.symm, rfl⟩
  · have HE := Lib.hid (show orI a b = a from if_neg ha)
    have ha' : (a == 0) = false := by simpa using ha
    go_enter Tryz.func229, Tryz.ntmps229
    go_wp2
    go_loop [8] (fun i => i = .int .i64 0) (fun i => 3 - (intOf i).toNat)
    case atStart => exact rfl
    case round =>
      subst hrel
      go_wp2
      go_ret
      exact ⟨nb.ret_int HE.out.symm, rfl⟩

theorem or_new (a b : Int) (t : TypeId) (W : World) :
    Calls Tryz.prog 229 #[.slice (some ⟨W.heap.size, 0, none⟩) 2 2] (W.alloc (.cells #[.int .i64 a, .int .i64 b] t)).drew fun e w' => e = .returned (.int .i64 (orI a b)) ∧ (W.alloc (.cells #[.int .i64 a, .int .i64 b] t)).drew = w' :=
  or_any a b _ _ ((Blk.new W t _).cell 0) ((Blk.new W t _).cell 1)
/-- which of two messages is ahead: by the source, then by the number -/
def cmpM (f n f' n' : Int) : Int := orI (cmpI f f') (cmpI n n')
def CmpPost (w : World) (f n f' n' : Int) (e : Ending) (w' : World) : Prop := e = .returned (.int .i64 (cmpM f n f' n')) ∧ Below w.heap.size w w'
theorem cmpM_eq {f n f' n' : Int} : cmpM f n f' n' = 0 ↔ (f = f' ∧ n = n') := by
  rcases Int.lt_trichotomy f f' with h | h | h
  · unfold cmpM; rw [cmpI_lt h]; simp [orI]; omega
  · unfold cmpM
    rw [cmpI_eq h, show orI 0 (cmpI n n') = cmpI n n' from if_pos rfl]
    rcases Int.lt_trichotomy n n' with h' | h' | h'
    · rw [cmpI_lt h']; omega
    · rw [cmpI_eq h']; omega
    · rw [cmpI_gt h']; omega
  · unfold cmpM; rw [cmpI_gt h]; simp [orI]; omega
theorem cmpM_lt {f n f' n' : Int} : cmpM f n f' n' < 0 ↔ (f < f' ∨ f = f' ∧ n < n') := by
  rcases Int.lt_trichotomy f f' with h | h | h
  · unfold cmpM; rw [cmpI_lt h]; simp [orI]; omega
  · unfold cmpM
    rw [cmpI_eq h, show orI 0 (cmpI n n') = cmpI n n' from if_pos rfl]
    rcases Int.lt_trichotomy n n' with h' | h' | h'
    · rw [cmpI_lt h']; omega
    · rw [cmpI_eq h']; omega
    · rw [cmpI_gt h']; omega
  · unfold cmpM; rw [cmpI_gt h]; simp [orI]; omega

set_option maxRecDepth 100000 in
set_option maxHeartbeats 800000 in
theorem compare_any (f n u f' n' u' : Int) (w : World) : Calls Tryz.prog 179 #[mark f n u, mark f' n' u'] w (CmpPost w f n f' n') := by
  unfold mark
  have k1 := (Blk.new w 164 #[.int .i64 f, .int .i64 n, .int .i64 u]).alloc (.cells #[.int .i64 f', .int .i64 n', .int .i64 u'] 164)
  have k2 := Blk.new (w.alloc (.cells #[.int .i64 f, .int .i64 n, .int .i64 u] 164)) 164 #[.int .i64 f', .int .i64 n', .int .i64 u']
  have hB0 := ((Below.refl w.heap.size w).alloc (Nat.le_refl _) (.cells #[.int .i64 f, .int .i64 n, .int .i64 u] 164)).alloc (by simp) (.cells #[.int .i64 f', .int .i64 n', .int .i64 u'] 164)
  simp only [World.size_alloc] at k2
  go_enter Tryz.func179, Tryz.ntmps179
  go_wp2_with fail
  generalize (w.alloc (.cells #[.int .i64 f, .int .i64 n, .int .i64 u] 164)).alloc (.cells #[.int .i64 f', .int .i64 n', .int .i64 u'] 164) = V at k1 k2 hB0 ⊢
  have c0 := k1.cell 0
  have c1 := k1.cell 1
  have d0 := k2.cell 0
  have d1 := k2.cell 1
  simp only [List.getElem?_toArray, List.getElem?_cons_zero, List.getElem?_cons_succ] at c0 c1 d0 d1
  have HB := Lib.hid hB0
  clear k1 k2 hB0
  have HR := Lib.hid (show orI (cmpI f f') (cmpI n n') = cmpM f n f' n' from rfl)
  go_region_held3 (fun w' => w'.cell? ⟨w.heap.size, 0, none⟩ = some (.int .i64 f) ∧ w'.cell? ⟨w.heap.size, 1, none⟩ = some (.int .i64 n) ∧ w'.cell? ⟨w.heap.size + 1, 0, none⟩ = some (.int .i64 f') ∧ w'.cell? ⟨w.heap.size + 1, 1, none⟩ = some (.int .i64 n')) (first | exact ⟨c0, c1, d0, d1⟩ | go_keep) ((first | (go_at_call 230; refine (cmp_any _ _ _).mono ?_; rintro e w2 ⟨rfl, rfl⟩) | (go_at_call 229; refine (or_new _ _ _ _).mono ?_; rintro e w3 ⟨rfl, rfl⟩)))
  have HB2 := Lib.hid (show Below w.heap.size w (V.alloc (.cells #[.int .i64 (cmpI f f'), .int .i64 (cmpI n n')] 3)).drew from (HB.out.alloc HB.out.size _).drew)
  clear c0 c1 d0 d1
  go_wp2
  go_ret
  exact ⟨nb.ret_int HR.out, HB2.out⟩
end Go.Proofs.YtjmmojjjopjdpaaGreatDoor.kp

/-
  Contracts of impl.search at messages and at marks, with the closure of impl.find.
-/
namespace Go.Proofs.YtjmmojjjopjdpaaGreatDoor.kp
open Go.ChangeShapes Go.WideShapes Go.ChangeAt Go.RowKit
open Go.Proofs.YtjmmojjjopjdpaaGreatDoor.wd Go.Proofs.YtjmmojjjopjdpaaGreatDoor.ow Go.Proofs.YtjmmojjjopjdpaaGreatDoor.rl Go.Proofs.YtjmmojjjopjdpaaGreatDoor.ok Go.Proofs.YtjmmojjjopjdpaaGreatDoor.nb Go.Proofs.YtjmmojjjopjdpaaGreatDoor.nx

def IdxPost (w : World) (i : Nat) (b : Bool) (e : Ending) (w' : World) : Prop := e = .returned (.tuple #[.int .i64 i, .bool b]) ∧ Below w.heap.size w w'
theorem mk_any_at {α : Type} {p : α → Bool} {l : List α} {k : Nat} {x : α} (hx : l[k]? = some x) (hp : p x = true) : l.any p = true := List.any_eq_true.2 ⟨x, List.mem_of_getElem? hx, hp⟩
theorem findIdx_end {α : Type} {p : α → Bool} {l : List α} {k : Nat} (h : (l.take k).any p = false) (hk : l.length ≤ k) : l.findIdx p = l.length ∧ l.any p = false := by
  rw [List.take_of_length_le hk] at h
  refine ⟨?_, h⟩
  rw [List.findIdx_eq_length]
  intro y hy
  rw [List.any_eq_false] at h
  simpa using h y hy

/-- what a closure over a captured mark says of a record -/
def PredM (g b : Nat) (w : World) (l : List Mk) (p : Mk → Bool) : Prop := ∀ V x, Below w.heap.size w V → x ∈ l → Calls Tryz.prog g #[mark x.f x.n x.u, .pointer (some ⟨b, 0, none⟩)] V (BoolK V (p x))
def PredN (g b : Nat) (w : World) (l : List Nt) (p : Nt → Bool) : Prop := ∀ V x, Below w.heap.size w V → x ∈ l → Calls Tryz.prog g #[note x.f x.n x.t x.u x.s, .pointer (some ⟨b, 0, none⟩)] V (BoolK V (p x))

set_option maxRecDepth 100000 in
set_option maxHeartbeats 800000 in
theorem srch_hasM (w : World) (v : Value) (l : List Mk) (h : SeesMk w v l) (hl : l.length ≤ 1048576) (b : Nat) (p : Mk → Bool) (hp : PredM 269 b w l p) :
    Calls Tryz.prog 238 #[v, .func (.func 269) #[] #[.pointer (some ⟨b, 0, none⟩)]] w (IdxPost w (l.findIdx p) (l.any p)) := by
  have HP := Lib.hid hp
  have HS := Lib.hid h
  obtain ⟨A, c, rfl, _⟩ := h
  clear hp
  go_enter Tryz.func238, Tryz.ntmps238
  go_wp2
  go_loopw [10] (fun i wr => ∃ k : Nat, k ≤ l.length ∧ i = .int .i64 k ∧ Hid ((l.take k).any p = false) ∧ Below w.heap.size w wr) (fun i _ => (l.length + 1 : Nat) - (intOf i).toNat)
  case atStart => exact ⟨0, by omega, rfl, rfl, Below.refl _ _⟩
  case round =>
    obtain ⟨k, hk, rfl, HA, hB⟩ := hrel
    by_cases hlt : k < l.length
    · have hx : l[k]? = some l[k] := List.getElem?_eq_getElem hlt
      have hm := List.getElem_mem hlt
      have hc := mark_at (HS.out.later hB) hx
      generalize l[k] = y at hx hm hc
      obtain ⟨g, c', e, hg, _, t0, t1, t2⟩ := hc
      injection e with e1 e2 e3
      subst e1; subst e3
      have hk1 : (k : Int) < (l.length : Int) := by omega
      have HX := Lib.hid hx
      have HM := Lib.hid hm
      have HB := Lib.hid hB
      clear hx hm hB
      go_wp2_with fail
      have hB0 := HB.out.alloc HB.out.size (.cells #[.int .i64 y.f, .int .i64 y.n, .int .i64 y.u] 164)
      refine (HP.out _ y hB0 HM.out).mono ?_
      rintro e w2 ⟨rfl, hB2⟩
      have HB2 := Lib.hid (hB0.trans (hB2.mono hB0.size))
      clear hB2 hB0 t0 t1 t2
      cases hq : p y with
      | true =>
        have HI := Lib.hid (findIdx_first HA.out HX.out hq)
        have HT := Lib.hid (mk_any_at HX.out hq)
        clear hq
        go_wp2
        go_ret2
        exact ⟨by rw [HI.out, HT.out]; rfl, HB2.out⟩
      | false =>
        have HN := Lib.hid (none_on HA.out HX.out hq)
        clear hq
        go_wp2
        go_roundw
        case rel => exact ⟨k + 1, by omega, by go_num, HN, HB2.out⟩
        case measure => simp [intOf]; omega
    · obtain ⟨e1, e2⟩ := findIdx_end HA.out (by omega)
      have HE := Lib.hid e1
      have HF := Lib.hid e2
      clear e1 e2
      have hk1 : ¬ (k : Int) < (l.length : Int) := by omega
      go_wp2
      go_ret2
      exact ⟨by rw [HE.out, HF.out]; rfl, hB⟩
end Go.Proofs.YtjmmojjjopjdpaaGreatDoor.kp

/-
  Contracts of impl.find and impl.has at marks, and of the closure.
-/
namespace Go.Proofs.YtjmmojjjopjdpaaGreatDoor.kp
open Go.ChangeShapes Go.WideShapes Go.ChangeAt Go.RowKit
open Go.Proofs.YtjmmojjjopjdpaaGreatDoor.wd Go.Proofs.YtjmmojjjopjdpaaGreatDoor.ow Go.Proofs.YtjmmojjjopjdpaaGreatDoor.rl Go.Proofs.YtjmmojjjopjdpaaGreatDoor.ok Go.Proofs.YtjmmojjjopjdpaaGreatDoor.nb Go.Proofs.YtjmmojjjopjdpaaGreatDoor.nx

theorem three {w : World} {g : Nat} {T : TypeId} {a b c : Value} (h : Blk w g T #[a, b, c]) :
    w.cell? ⟨g, 0, none⟩ = some a ∧ w.cell? ⟨g, 1, none⟩ = some b ∧ w.cell? ⟨g, 2, none⟩ = some c ∧ g < w.heap.size :=
  ⟨h.cell 0, h.cell 1, h.cell 2, h.lt⟩
theorem cmp_is (f n f' n' : Int) : (cmpM f n f' n' == 0) = (f == f' && n == n') := by
  rw [Bool.eq_iff_iff, beq_iff_eq, cmpM_eq, Bool.and_eq_true, beq_iff_eq, beq_iff_eq]

set_option maxRecDepth 100000 in
set_option maxHeartbeats 800000 in
theorem hasM_pred (b : Nat) (f n u : Int) (w : World) (l : List Mk) (hb : Blk w b 164 #[.int .i64 f, .int .i64 n, .int .i64 u]) : PredM 269 b w l (fun x => x.f == f && x.n == n) := by
  intro V x hB _
  have k1 := hb.below hB hb.lt
  have k2 := Blk.new V 164 #[.int .i64 x.f, .int .i64 x.n, .int .i64 x.u]
  have k3 := k1.alloc (.cells #[.int .i64 x.f, .int .i64 x.n, .int .i64 x.u] 164)
  have hB0 := (Below.refl V.heap.size V).alloc (Nat.le_refl _) (.cells #[.int .i64 x.f, .int .i64 x.n, .int .i64 x.u] 164)
  have HE := Lib.hid (cmp_is x.f x.n f n)
  clear hb hB k1
  unfold mark
  go_enter Tryz.func269, Tryz.ntmps269
  go_wp2_with fail
  generalize V.alloc (.cells #[.int .i64 x.f, .int .i64 x.n, .int .i64 x.u] 164) = W at *
  obtain ⟨c0, c1, c2⟩ := qa.three k2
  obtain ⟨d0, d1, d2⟩ := qa.three k3
  have HB := Lib.hid hB0
  clear k2 k3 hB0
  have hm := mMark
  refine qa.region (by kernel_rfl) (by kernel_rfl) ?_
  repeat (go_big_quiet_step (first | (go_at_call 387; exact qa.of_below (mmark_any _ _ _ _)) | (go_at_call 179; exact qa.of_below (compare_any _ _ _ _ _ _ _))))
  refine wpQuiet_nil ?_
  rintro _ ⟨p, rfl⟩
  have HB2 := Lib.hid (HB.out.trans (p.h.mono HB.out.size))
  clear c0 c1 c2 d0 d1 d2 hm
  go_wp2
  go_ret
  exact ⟨nb.ret_bool HE.out, HB2.out⟩

theorem mkfn (fn : Fn) (first cap : Array Value) (w : World) : (Instr.makeFunc fn first cap).run Tryz.prog w = .ok (.func fn first cap) w := rfl

theorem find_any {α : Type} {p : α → Bool} {l : List α} (h : l.any p = true) : ∃ y, l[l.findIdx p]? = some y ∧ l.find? p = some y ∧ l.findIdx p < l.length := by
  obtain ⟨x, hx, hp⟩ := List.any_eq_true.1 h
  have hlt : l.findIdx p < l.length := List.findIdx_lt_length_of_exists ⟨x, hx, hp⟩
  refine ⟨l[l.findIdx p], List.getElem?_eq_getElem hlt, ?_, hlt⟩
  rw [List.find?_eq_some_iff_getElem]
  refine ⟨List.findIdx_getElem (w := hlt), _, hlt, rfl, fun j hj => ?_⟩
  have := List.not_of_lt_findIdx hj
  simpa using this
theorem find_none {α : Type} {p : α → Bool} {l : List α} (h : l.any p = false) : l.find? p = none := by
  rw [List.find?_eq_none]
  intro x hx
  rw [List.any_eq_false] at h
  exact h x hx
/-- the first mark of a message, or none -/
def fstM (l : List Mk) (f n : Int) : Mk := (l.find? (fun x => x.f == f && x.n == n)).getD ⟨0, 0, 0⟩
def FindMP (w : World) (l : List Mk) (f n : Int) (e : Ending) (w' : World) : Prop := e = .returned (.tuple #[mkV (fstM l f n), .bool (hasM l f n)]) ∧ Below w.heap.size w w'

set_option maxRecDepth 100000 in
set_option maxHeartbeats 800000 in
theorem findM_any (w : World) (v : Value) (l : List Mk) (h : SeesMk w v l) (hl : l.length ≤ 1048576) (f n u : Int) :
    Calls Tryz.prog 231 #[v, mark f n u] w (FindMP w l f n) := by
  have k1 := (Blk.new w 164 #[.int .i64 f, .int .i64 n, .int .i64 u]).alloc (.cells #[.int .i64 0, .int .i64 0, .int .i64 0] 164)
  have kz := Blk.new (w.alloc (.cells #[.int .i64 f, .int .i64 n, .int .i64 u] 164)) 164 #[.int .i64 0, .int .i64 0, .int .i64 0]
  rw [World.size_alloc] at kz
  have hB0 : Below w.heap.size w ((w.alloc (.cells #[.int .i64 f, .int .i64 n, .int .i64 u] 164)).alloc (.cells #[.int .i64 0, .int .i64 0, .int .i64 0] 164)) := ((Below.refl _ _).alloc (Nat.le_refl _) _).alloc (by simp) _
  have hS := srch_hasM _ v l (h.later hB0) hl _ _ (hasM_pred _ f n u _ l k1)
  have HL := Lib.hid h
  have HB := Lib.hid hB0
  have HKz := Lib.hid kz
  have hmf := mkfn
  have HF := Lib.hid (show fstM l f n = (l.find? (fun x => x.f == f && x.n == n)).getD ⟨0, 0, 0⟩ from rfl)
  have HA := Lib.hid (show hasM l f n = l.any (fun x => x.f == f && x.n == n) from rfl)
  obtain ⟨A, c, rfl, _⟩ := h
  clear k1 kz hB0
  unfold mark
  cases ha : l.any (fun x => x.f == f && x.n == n) with
  | true =>
    obtain ⟨y, hy, hf, hlt⟩ := find_any ha
    rw [ha] at hS HA
    have HF2 := Lib.hid (show fstM l f n = y by rw [HF.out, hf]; rfl)
    generalize l.findIdx (fun x => x.f == f && x.n == n) = i at hS hy hlt
    have HS := Lib.hid hS
    have hi1 : (i : Int) < (l.length : Int) := by omega
    clear hS ha hf HF
    go_enter Tryz.func231, Tryz.ntmps231
    go_wp2_with fail
    refine HS.out.mono ?_
    rintro e w2 ⟨rfl, hB2⟩
    have hB3 := HB.out.trans (hB2.mono HB.out.size)
    have hz2 := HKz.out.below hB2 HKz.out.lt
    obtain ⟨g, c', e, hg, _, t0, t1, t2⟩ := mark_at (HL.out.later hB3) hy
    injection e with e1 e2 e3
    subst e1; subst e3
    have HB2 := Lib.hid hB3
    have z0 := hz2.cell 0
    have z1 := hz2.cell 1
    have z2 := hz2.cell 2
    have y0 := hz2.frozen 0
    have y1 := hz2.frozen 1
    have y2 := hz2.frozen 2
    simp only [List.getElem?_toArray, List.getElem?_cons_zero, List.getElem?_cons_succ] at z0 z1 z2
    clear hB2 hB3 hy HKz hz2
    go_wp2
    refine bodyPost_ret (v := .tuple #[mark y.f y.n y.u, .bool true]) (by simp [results, Tryz.results231, go_sem, mark, *]) rfl ⟨by rw [HF2.out, HA.out]; rfl, ?_⟩
    exact (((HB2.out).setCell (p := ⟨w.heap.size + 1, 0, none⟩) (by show w.heap.size ≤ w.heap.size + 1; omega) _).setCell (p := ⟨w.heap.size + 1, 1, none⟩) (by show w.heap.size ≤ w.heap.size + 1; omega) _).setCell (p := ⟨w.heap.size + 1, 2, none⟩) (by show w.heap.size ≤ w.heap.size + 1; omega) _
  | false =>
    rw [ha] at hS HA
    have HF2 := Lib.hid (show fstM l f n = ⟨0, 0, 0⟩ by rw [HF.out, find_none ha]; rfl)
    generalize l.findIdx (fun x => x.f == f && x.n == n) = i at hS
    have HS := Lib.hid hS
    clear hS ha HF
    go_enter Tryz.func231, Tryz.ntmps231
    go_wp2_with fail
    refine HS.out.mono ?_
    rintro e w2 ⟨rfl, hB2⟩
    have hB3 := HB.out.trans (hB2.mono HB.out.size)
    have hz2 := (HKz.out.below hB2 HKz.out.lt).alloc (.cells #[.int .i64 0, .int .i64 0, .int .i64 0] 164)
    have HB2 := Lib.hid (hB3.alloc hB3.size (.cells #[.int .i64 0, .int .i64 0, .int .i64 0] 164))
    have hx2 := Blk.new w2 164 #[.int .i64 0, .int .i64 0, .int .i64 0]
    clear hB2 hB3 HKz
    go_upto_region 4 with (fail)
    generalize w2.alloc (.cells #[.int .i64 0, .int .i64 0, .int .i64 0] 164) = V at HB2 hz2 hx2 ⊢
    generalize w2.heap.size = xb at hx2 ⊢
    have z0 := hz2.cell 0
    have z1 := hz2.cell 1
    have z2 := hz2.cell 2
    have y0 := hz2.frozen 0
    have y1 := hz2.frozen 1
    have y2 := hz2.frozen 2
    simp only [List.getElem?_toArray, List.getElem?_cons_zero, List.getElem?_cons_succ] at z0 z1 z2
    have x0 := hx2.cell 0
    have x1 := hx2.cell 1
    have xx2 := hx2.cell 2
    simp only [List.getElem?_toArray, List.getElem?_cons_zero, List.getElem?_cons_succ] at x0 x1 xx2
    clear hz2 hx2
    go_wp2
    refine bodyPost_ret (v := .tuple #[mark 0 0 0, .bool false]) (by simp [results, Tryz.results231, go_sem, mark, *]) rfl ⟨by rw [HF2.out, HA.out]; rfl, ?_⟩
    exact (((HB2.out).setCell (p := ⟨w.heap.size + 1, 0, none⟩) (by show w.heap.size ≤ w.heap.size + 1; omega) _).setCell (p := ⟨w.heap.size + 1, 1, none⟩) (by show w.heap.size ≤ w.heap.size + 1; omega) _).setCell (p := ⟨w.heap.size + 1, 2, none⟩) (by show w.heap.size ≤ w.heap.size + 1; omega) _

set_option maxRecDepth 100000 in
theorem hasM_any (w : World) (v : Value) (l : List Mk) (h : SeesMk w v l) (hl : l.length ≤ 1048576) (f n u : Int) :
    Calls Tryz.prog 183 #[v, mark f n u] w (BoolK w (hasM l f n)) := by
  have hB0 := (Below.refl w.heap.size w).alloc (Nat.le_refl _) (.cells #[.int .i64 f, .int .i64 n, .int .i64 u] 164)
  have HS := Lib.hid (findM_any _ v l (h.later hB0) hl f n u)
  have HB := Lib.hid hB0
  clear hB0 h
  unfold mark at HS ⊢
  go_enter Tryz.func183, Tryz.ntmps183
  go_wp2_with fail
  refine HS.out.mono ?_
  rintro e w2 ⟨rfl, hB2⟩
  have HB2 := Lib.hid (HB.out.trans (hB2.mono HB.out.size))
  clear hB2
  unfold mkV mark
  go_wp2
  go_ret
  exact ⟨rfl, HB2.out.alloc HB2.out.size _⟩
end Go.Proofs.YtjmmojjjopjdpaaGreatDoor.kp

/-
  Laws: copy and clear on slices of records (k cells an element); rows of the call's own, cell by cell.
-/
namespace Go.Proofs.YtjmmojjjopjdpaaGreatDoor.kp
open Go.ChangeShapes Go.WideShapes Go.ChangeAt Go.RowKit
open Go.Proofs.YtjmmojjjopjdpaaGreatDoor.wd Go.Proofs.YtjmmojjjopjdpaaGreatDoor.ow Go.Proofs.YtjmmojjjopjdpaaGreatDoor.rl Go.Proofs.YtjmmojjjopjdpaaGreatDoor.ok Go.Proofs.YtjmmojjjopjdpaaGreatDoor.nb

theorem setCells_putAll (g : Nat) : ∀ (vs : List Value) (o : Nat) (w : World), w.setCells g o vs = putAll w g o vs
  | [], _, _ => rfl
  | v :: r, o, w => by rw [World.setCells, putAll, setCells_putAll g r]

theorem run_copy_k {P : Program} (w : World) (dT sT ty elem : TypeId) (i : TypeInfo) (b o dLen dCap : Nat) (a : Addr) (sLen sCap m : Nat) (cs : List Value)
    (hu : P.underlying dT = some (.slice elem)) (hi : P.info? elem = some i) (hm : m = Nat.min sLen dLen) (hn : cs.length = m * i.size)
    (hsrc : ∀ j v, cs[j]? = some v → w.cell? (a.add j) = some v) (hc : ∀ j, j < cs.length → (w.cell? ⟨b, o + j, none⟩).isSome = true) (hf : ∀ j, j < cs.length → w.frozen? ⟨b, o + j, none⟩ = false) (h1 : ∀ v ∈ cs, v.oneCell' = true) :
    (Builtin.copy_ #[dT, sT] ty #[.slice (some ⟨b, o, none⟩) dLen dCap, .slice (some a) sLen sCap]).run P w = .ok (goInt m) (putAll w b o cs) := by
  have hl := run_loadCells_list (P := P) w a cs hsrc
  have hst := run_storeCells_cells (P := P) b o cs 0 w (by simpa using hc) (by simpa using hf) h1
  rw [setCells_putAll] at hst
  subst hm
  rw [hn] at hl
  simp [Builtin.copy_, run_underlying hu, Builtin.lenOf, Builtin.firstCells, sizeOf, typeInfo, hi, hl, hst]
theorem run_clear_k {P : Program} (w : World) (dT ty elem : TypeId) (i : TypeInfo) (z : Value) (b o n c : Nat)
    (hu : P.underlying dT = some (.slice elem)) (hi : P.info? elem = some i) (hz : i.zero = some z) (hn : 0 < n)
    (hc : ∀ j, j < (Builtin.zeroCells z.cells n).toList.length → (w.cell? ⟨b, o + j, none⟩).isSome = true) (hf : ∀ j, j < (Builtin.zeroCells z.cells n).toList.length → w.frozen? ⟨b, o + j, none⟩ = false) (h1 : ∀ v ∈ (Builtin.zeroCells z.cells n).toList, v.oneCell' = true) :
    (Builtin.clear_ #[dT] ty #[.slice (some ⟨b, o, none⟩) n c]).run P w = .ok (.tuple #[]) (putAll w b o (Builtin.zeroCells z.cells n).toList) := by
  have hst := run_storeCells_cells (P := P) b o _ 0 w (by simpa using hc) (by simpa using hf) h1
  rw [setCells_putAll] at hst
  match n, hn with
  | n + 1, _ => simp [Builtin.clear_, run_underlying hu, zeroValue, typeInfo, hi, hz, hst]
theorem run_clear_none {P : Program} (w : World) (dT ty elem : TypeId) (a : Option Addr) (c : Nat) (hu : P.underlying dT = some (.slice elem)) :
    (Builtin.clear_ #[dT] ty #[.slice a 0 c]).run P w = .ok (.tuple #[]) w := by
  cases a <;> simp [Builtin.clear_, run_underlying hu]

/-- copy as an operation whose run is known -/
theorem wp_copy_run {P : Program} {w : World} {o : Oper} {a : Act} {K : Act → World → Prop} {Q : Exit → Act → World → Prop} (d s : Operand) (t t' : TypeId)
    (ho : o.op = .call { callee := .builtin .copy, args := #[d, s], argTypes := #[t, t'] }) (v u : Value) (hd : a.eval d = v) (hs : a.eval s = u) {v' : Value} {w' : World}
    (hr : (Builtin.copy_ #[t, t'] o.type #[v, u]).run P w = .ok v' w') (h : K (a.put o.dst v') w') : o.wp P a w K Q := by
  unfold Oper.wp execOp
  simp only [ho, resolve, invoke, builtin, Sem.run_bind, Sem.run_pure, Result.andThen_ok, List.map_toArray, List.map_cons, List.map_nil, hd, hs, hr]
  exact h
theorem wpList_copy_run {P : Program} {w : World} {ops : Array Oper} {rest : List Oper} {o : Oper} {a : Act} {Q : Exit → Act → World → Prop} (hgd : o.guard = none) (d s : Operand) (t t' : TypeId)
    (ho : o.op = .call { callee := .builtin .copy, args := #[d, s], argTypes := #[t, t'] }) (v u : Value) (hd : a.eval d = v) (hs : a.eval s = u) {v' : Value} {w' : World}
    (hr : (Builtin.copy_ #[t, t'] o.type #[v, u]).run P w = .ok v' w') (h : wpList P ops Q rest (a.put o.dst v') w') : wpList P ops Q (o :: rest) a w :=
  wpList_plain hgd fun _ hK => wp_copy_run d s t t' ho v u hd hs hr (hK _ _ h)
theorem step_copy_run {P : Program} {ops : Array Oper} {o : Oper} {a : Act} {w : World} {K : Act → World → Prop} {Q : Exit → Act → World → Prop} {E : Prop}
    (hg : o.guard = none) (d s : Operand) (t t' : TypeId) (ho : o.op = .call { callee := .builtin .copy, args := #[d, s], argTypes := #[t, t'] })
    (v u : Value) (hd : a.eval d = v) (hs : a.eval s = u) {v' : Value} {w' : World} (hr : (Builtin.copy_ #[t, t'] o.type #[v, u]).run P w = .ok v' w') (hK : K (a.put o.dst v') w') :
    if Region.wanted o (yielded ops a.tmps) = true then Oper.wp P o a w K Q else E := by
  have hw : Region.wanted o (yielded ops a.tmps) = true := by simp [Region.wanted, hg]
  rw [if_pos hw]
  exact wp_copy_run d s t t' ho v u hd hs hr hK

/-- a row that is known: its block, its cells -/
structure Row {α : Type} (S : Shape α) (t : TypeId) (W : World) (g cap : Nat) (cur : Array Value) : Prop where
  blk : Blk W g t cur
  size : cur.size = cap * S.n
section
variable {α : Type} {S : Shape α} {t : TypeId} {B g cap n : Nat} {W W' : World} {cur : Array Value} {l : List α}
theorem ownAt_mk (h : Row S t W g cap cur) (hB : B ≤ g) (hn : l.length ≤ cap) (hm : cap ≤ maxLen) (hl : cur.toList.take (l.length * S.n) = l.flatMap S.f) : OwnAt S t B W (.slice (some ⟨g, 0, none⟩) l.length cap) l :=
  ⟨by rw [flat_len S.len], .inr ⟨g, cap, cur, rfl, hB, h.blk, hn, hm, h.size, hl⟩⟩
theorem ownAt_row (h : OwnAt S t B W (.slice (some ⟨g, 0, none⟩) n cap) l) : n = l.length ∧ B ≤ g ∧ l.length ≤ cap ∧ cap ≤ maxLen ∧ ∃ cur, Row S t W g cap cur ∧ cur.toList.take (l.length * S.n) = l.flatMap S.f := by
  rcases h.2 with ⟨e, _⟩ | ⟨g', cap', cur, e, h1, h2, h3, h4, h5, h6⟩
  · cases e
  · injection e with e1 e2 e3
    injection e1 with e1
    injection e1 with e1
    subst e1; subst e3
    exact ⟨e2, h1, h3, h4, cur, ⟨h2, h5⟩, h6⟩
theorem Row.cell (h : Row S t W g cap cur) {j : Nat} (hj : j < cap * S.n) : (W.cell? ⟨g, j, none⟩).isSome = true ∧ W.frozen? ⟨g, j, none⟩ = false := by
  refine ⟨?_, h.blk.frozen j⟩
  rw [h.blk.cell j, Array.getElem?_eq_getElem (by rw [h.size]; exact hj)]
  rfl
/-- what copy leaves: the row with some cells written over -/
theorem Row.put (h : Row S t W g cap cur) (o : Nat) (cs : List Value) : ∃ cur', Row S t (putAll W g o cs) g cap cur' ∧ (∀ j, j < o ∨ o + cs.length ≤ j → cur'[j]? = cur[j]?) ∧ (o + cs.length ≤ cap * S.n → ∀ j u, cs[j]? = some u → cur'[o + j]? = some u) := by
  obtain ⟨cur', a1, a2, a3, a4⟩ := putAll_blk cs o h.blk
  exact ⟨cur', ⟨a1, by rw [a2, h.size]⟩, a3, fun hs => a4 (by rw [h.size]; exact hs)⟩
end
/-- a list with one more -/
def putAt {α : Type} (l : List α) (p : Nat) (x : α) : List α := l.take p ++ x :: l.drop p
theorem putAt_len {α : Type} {l : List α} {p : Nat} {x : α} (h : p ≤ l.length) : (putAt l p x).length = l.length + 1 := by
  unfold putAt; simp [List.length_take, List.length_drop]; omega
theorem putAt_cells {α : Type} {S : Shape α} {cur : Array Value} {l : List α} {p cap : Nat} {x : α} (hp : p ≤ l.length) (hcap : l.length + 1 ≤ cap) (hs : cur.size = cap * S.n)
    (hA : ∀ i y, i < p → l[i]? = some y → ∀ j u, (S.f y)[j]? = some u → cur[i * S.n + j]? = some u)
    (hB : ∀ j u, (S.f x)[j]? = some u → cur[p * S.n + j]? = some u)
    (hC : ∀ i y, p ≤ i → l[i]? = some y → ∀ j u, (S.f y)[j]? = some u → cur[(i + 1) * S.n + j]? = some u) :
    cur.toList.take ((putAt l p x).length * S.n) = (putAt l p x).flatMap S.f := by
  have hle : (l.length + 1) * S.n ≤ cap * S.n := Nat.mul_le_mul_right _ hcap
  have hz : cur.toList.length = cap * S.n := by simp [hs]
  refine flat_of S (by rw [List.length_take, putAt_len hp, hz]; omega) fun i y hy j u hu => ?_
  have hj : j < S.n := by have := (List.getElem?_eq_some_iff.1 hu).1; rwa [S.len] at this
  have hil : i < l.length + 1 := by have := (List.getElem?_eq_some_iff.1 hy).1; rwa [putAt_len hp] at this
  have hm : (i + 1) * S.n ≤ (l.length + 1) * S.n := Nat.mul_le_mul_right _ hil
  rw [List.getElem?_take, if_pos (by rw [putAt_len hp]; rw [Nat.succ_mul] at hm; omega), Array.getElem?_toList]
  unfold putAt at hy
  have hpl : (l.take p).length = p := by rw [List.length_take]; omega
  by_cases h1 : i < p
  · rw [List.getElem?_append_left (by omega), List.getElem?_take, if_pos h1] at hy
    exact hA i y h1 hy j u hu
  · rw [List.getElem?_append_right (by omega), hpl] at hy
    by_cases h2 : i = p
    · subst h2
      rw [Nat.sub_self] at hy
      simp at hy
      subst hy
      exact hB j u hu
    · obtain ⟨i', rfl⟩ : ∃ i', i = i' + 1 := ⟨i - 1, by omega⟩
      rw [show i' + 1 - p = (i' - p) + 1 by omega, List.getElem?_cons_succ, List.getElem?_drop, show p + (i' - p) = i' by omega] at hy
      exact hC i' y (by omega) hy j u hu
/-- the cells of a row that holds a list -/
theorem row_at {α : Type} {S : Shape α} {cur : Array Value} {l : List α} (h : cur.toList.take (l.length * S.n) = l.flatMap S.f) {i : Nat} {y : α} (hy : l[i]? = some y) {j : Nat} {u : Value} (hu : (S.f y)[j]? = some u) : cur[i * S.n + j]? = some u := by
  have hj : j < S.n := by have := (List.getElem?_eq_some_iff.1 hu).1; rwa [S.len] at this
  have hf := flat_at S.len l i y hy j hj
  rw [hu, ← h, List.getElem?_take] at hf
  split at hf
  · rw [Array.getElem?_toList] at hf; exact hf
  · cases hf
/-- only one block has been written -/
theorem putAll_grown {W0 W : World} {g : Nat} {row : Option Nat} (h : W0.grownBy W row) (hr : row = some g ∨ W0.heap.size ≤ g) (o : Nat) (cs : List Value) : W0.grownBy (putAll W g o cs) row := by
  have key : ∀ (us : List Value) (o : Nat) (V : World), W0.grownBy V row → W0.grownBy (putAll V g o us) row := by
    intro us
    induction us with
    | nil => intro o V h; exact h
    | cons u us ih =>
      intro o V h
      refine ih (o + 1) _ ⟨h.os, h.tape, h.output, by simpa using h.size, fun k hk hne => ?_⟩
      have hkg : k ≠ g := by
        rintro rfl
        rcases hr with e | e
        · exact hne e.symm
        · omega
      have := h.block k hk hne
      rw [← this]
      exact Below.heap_setCell V ⟨g, o, none⟩ u k hkg
  exact key cs o W h
end Go.Proofs.YtjmmojjjopjdpaaGreatDoor.kp

