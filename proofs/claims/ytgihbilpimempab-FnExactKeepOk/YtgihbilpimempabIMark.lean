/-
  Contracts of (impl.Note).mark, (impl.Mark).mark, cmp.Or at two numbers, impl.compareMarks.
-/
import Derived.Test.YtgihbilpimempabKeepRec
import Derived.Test.YtgihbilpimempabKeepPlain2
import Derived.Test.YtgihbilpimempabNext
import Derived.Test.YtgihbilpimempabAfter
import Derived.Deep.RegionHeld3
namespace Go.Proofs.Ytgihbilpimempab.kp
open Go.ChangeShapes Go.WideShapes Go.ChangeAt Go.RowKit
open Go.Proofs.Ytgihbilpimempab.wd Go.Proofs.Ytgihbilpimempab.ow Go.Proofs.Ytgihbilpimempab.rl Go.Proofs.Ytgihbilpimempab.ok Go.Proofs.Ytgihbilpimempab.nb Go.Proofs.Ytgihbilpimempab.nx

def AggPost (w : World) (v : Value) (e : Ending) (w' : World) : Prop := e = .returned v ∧ Below w.heap.size w w'

theorem nmark_any (f n t u : Int) (s : ByteArray) (w : World) : Calls Try.prog 58 #[note f n t u s] w (AggPost w (mark f n u)) := by
  unfold note
  go_enter Try.func58, Try.ntmps58
  go_wp2
  refine bodyPost_ret (v := mark f n u) (by simp [results, Try.results58, go_sem, mark]) rfl ⟨rfl, ?_⟩
  exact ((Below.refl _ _).alloc (Nat.le_refl _) _).alloc (by simp) _
theorem mmark_any (f n u : Int) (w : World) : Calls Try.prog 86 #[mark f n u] w (AggPost w (mark f n u)) := by
  unfold mark
  go_enter Try.func86, Try.ntmps86
  go_wp2
  refine bodyPost_ret (v := mark f n u) (by simp [results, Try.results86, go_sem, mark]) rfl ⟨rfl, ?_⟩
  exact ((Below.refl _ _).alloc (Nat.le_refl _) _).alloc (by simp) _

/-- the methods behind the interface -/
theorem mMark (a b c : Value) (w : World) : (Go.method 246 60 (.agg #[a, b, c]) "loop.example/bargeman/impl.mark").run Try.prog w = .ok (86, .agg #[a, b, c]) w := by kernel_rfl
theorem mNote (a b c d e : Value) (w : World) : (Go.method 246 56 (.agg #[a, b, c, d, e]) "loop.example/bargeman/impl.mark").run Try.prog w = .ok (58, .agg #[a, b, c, d, e]) w := by kernel_rfl
/-- the first that is not 0 -/
def orI (a b : Int) : Int := if a = 0 then b else a
theorem or_any (a b : Int) (g : Nat) (w : World) (h0 : w.cell? ⟨g, 0, none⟩ = some (.int .i64 a)) (h1 : w.cell? ⟨g, 1, none⟩ = some (.int .i64 b)) :
    Calls Try.prog 63 #[.slice (some ⟨g, 0, none⟩) 2 2] w fun e w' => e = .returned (.int .i64 (orI a b)) ∧ w = w' := by
  by_cases ha : a = 0
  · subst ha
    have HE := Lib.hid (show orI 0 b = b from if_pos rfl)
    by_cases hb : b = 0
    · subst hb
      go_enter Try.func63, Try.ntmps63
      go_wp2
      go_loop [8] (fun i => i = .int .i64 0 ∨ i = .int .i64 1 ∨ i = .int .i64 2) (fun i => 3 - (intOf i).toNat)
      case atStart => exact .inl rfl
      case round =>
        rcases hrel with rfl | rfl | rfl
        · go_wp2
          go_round
          case rel => exact .inr (.inl rfl)
          case measure => simp [intOf]
        · go_wp2
          go_round
          case rel => exact .inr (.inr rfl)
          case measure => simp [intOf]
        · go_wp2
          go_ret
          exact ⟨nb.ret_int HE.out.symm, rfl⟩
    · have hb' : (b == 0) = false := by simpa using hb
      go_enter Try.func63, Try.ntmps63
      go_wp2
      go_loop [8] (fun i => i = .int .i64 0 ∨ i = .int .i64 1) (fun i => 3 - (intOf i).toNat)
      case atStart => exact .inl rfl
      case round =>
        rcases hrel with rfl | rfl
        · go_wp2
          go_round
          case rel => exact .inr rfl
          case measure => simp [intOf]
        · go_wp2
          go_ret
          exact ⟨nb.ret_int HE.out.symm, rfl⟩
  · have HE := Lib.hid (show orI a b = a from if_neg ha)
    have ha' : (a == 0) = false := by simpa using ha
    go_enter Try.func63, Try.ntmps63
    go_wp2
    go_loop [8] (fun i => i = .int .i64 0) (fun i => 3 - (intOf i).toNat)
    case atStart => exact rfl
    case round =>
      subst hrel
      go_wp2
      go_ret
      exact ⟨nb.ret_int HE.out.symm, rfl⟩

theorem or_new (a b : Int) (t : TypeId) (W : World) :
    Calls Try.prog 63 #[.slice (some ⟨W.heap.size, 0, none⟩) 2 2] (W.alloc (.cells #[.int .i64 a, .int .i64 b] t)).drew fun e w' => e = .returned (.int .i64 (orI a b)) ∧ (W.alloc (.cells #[.int .i64 a, .int .i64 b] t)).drew = w' :=
  or_any a b _ _ ((Blk.new W t _).cell 0) ((Blk.new W t _).cell 1)
/-- which of two messages is ahead: by the source, then by the number -/
def cmpM (f n f' n' : Int) : Int := orI (cmpI f f') (cmpI n n')
def CmpPost (w : World) (f n f' n' : Int) (e : Ending) (w' : World) : Prop := e = .returned (.int .i64 (cmpM f n f' n')) ∧ Below w.heap.size w w'
theorem cmpM_eq {f n f' n' : Int} : cmpM f n f' n' = 0 ↔ (f = f' ∧ n = n') := by
  rcases Int.lt_trichotomy f f' with h | h | h
  · unfold cmpM; rw [cmpI_lt h]; simp [orI]; omega
  · unfold cmpM
    rw [cmpI_eq h, show orI 0 (cmpI n n') = cmpI n n' from if_pos rfl]
    rcases Int.lt_trichotomy n n' with h' | h' | h'
    · rw [cmpI_lt h']; omega
    · rw [cmpI_eq h']; omega
    · rw [cmpI_gt h']; omega
  · unfold cmpM; rw [cmpI_gt h]; simp [orI]; omega
theorem cmpM_lt {f n f' n' : Int} : cmpM f n f' n' < 0 ↔ (f < f' ∨ f = f' ∧ n < n') := by
  rcases Int.lt_trichotomy f f' with h | h | h
  · unfold cmpM; rw [cmpI_lt h]; simp [orI]; omega
  · unfold cmpM
    rw [cmpI_eq h, show orI 0 (cmpI n n') = cmpI n n' from if_pos rfl]
    rcases Int.lt_trichotomy n n' with h' | h' | h'
    · rw [cmpI_lt h']; omega
    · rw [cmpI_eq h']; omega
    · rw [cmpI_gt h']; omega
  · unfold cmpM; rw [cmpI_gt h]; simp [orI]; omega

set_option maxRecDepth 100000 in
set_option maxHeartbeats 800000 in
theorem compare_any (f n u f' n' u' : Int) (w : World) : Calls Try.prog 55 #[mark f n u, mark f' n' u'] w (CmpPost w f n f' n') := by
  unfold mark
  have k1 := (Blk.new w 60 #[.int .i64 f, .int .i64 n, .int .i64 u]).alloc (.cells #[.int .i64 f', .int .i64 n', .int .i64 u'] 60)
  have k2 := Blk.new (w.alloc (.cells #[.int .i64 f, .int .i64 n, .int .i64 u] 60)) 60 #[.int .i64 f', .int .i64 n', .int .i64 u']
  have hB0 := ((Below.refl w.heap.size w).alloc (Nat.le_refl _) (.cells #[.int .i64 f, .int .i64 n, .int .i64 u] 60)).alloc (by simp) (.cells #[.int .i64 f', .int .i64 n', .int .i64 u'] 60)
  simp only [World.size_alloc] at k2
  go_enter Try.func55, Try.ntmps55
  go_wp2_with fail
  generalize (w.alloc (.cells #[.int .i64 f, .int .i64 n, .int .i64 u] 60)).alloc (.cells #[.int .i64 f', .int .i64 n', .int .i64 u'] 60) = V at k1 k2 hB0 ⊢
  have c0 := k1.cell 0
  have c1 := k1.cell 1
  have d0 := k2.cell 0
  have d1 := k2.cell 1
  simp only [List.getElem?_toArray, List.getElem?_cons_zero, List.getElem?_cons_succ] at c0 c1 d0 d1
  have HB := Lib.hid hB0
  clear k1 k2 hB0
  have HR := Lib.hid (show orI (cmpI f f') (cmpI n n') = cmpM f n f' n' from rfl)
  go_region_held3 (fun w' => w'.cell? ⟨w.heap.size, 0, none⟩ = some (.int .i64 f) ∧ w'.cell? ⟨w.heap.size, 1, none⟩ = some (.int .i64 n) ∧ w'.cell? ⟨w.heap.size + 1, 0, none⟩ = some (.int .i64 f') ∧ w'.cell? ⟨w.heap.size + 1, 1, none⟩ = some (.int .i64 n')) (first | exact ⟨c0, c1, d0, d1⟩ | go_keep) ((first | (go_at_call 64; refine (cmp_any _ _ _).mono ?_; rintro e w2 ⟨rfl, rfl⟩) | (go_at_call 63; refine (or_new _ _ _ _).mono ?_; rintro e w3 ⟨rfl, rfl⟩)))
  have HB2 := Lib.hid (show Below w.heap.size w (V.alloc (.cells #[.int .i64 (cmpI f f'), .int .i64 (cmpI n n')] 3)).drew from (HB.out.alloc HB.out.size _).drew)
  clear c0 c1 d0 d1
  go_wp2
  go_ret
  exact ⟨nb.ret_int HR.out, HB2.out⟩
end Go.Proofs.Ytgihbilpimempab.kp
