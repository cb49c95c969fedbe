/-
  Contracts of impl.has and of its closure.
-/
import Derived.Test.YtekoghcgkmldgaaIHas
namespace Go.Proofs.Ytekoghcgkmldgaa.kp
open Go.ChangeShapes Go.WideShapes Go.ChangeAt Go.RowKit
open Go.Proofs.Ytekoghcgkmldgaa.wd Go.Proofs.Ytekoghcgkmldgaa.ow Go.Proofs.Ytekoghcgkmldgaa.rl Go.Proofs.Ytekoghcgkmldgaa.ok Go.Proofs.Ytekoghcgkmldgaa.nb Go.Proofs.Ytekoghcgkmldgaa.nx

theorem three {w : World} {g : Nat} {T : TypeId} {a b c : Value} (h : Blk w g T #[a, b, c]) :
    w.cell? ⟨g, 0, none⟩ = some a ∧ w.cell? ⟨g, 1, none⟩ = some b ∧ w.cell? ⟨g, 2, none⟩ = some c ∧ g < w.heap.size :=
  ⟨h.cell 0, h.cell 1, h.cell 2, h.lt⟩
theorem cmp_is (f n f' n' : Int) : (cmpM f n f' n' == 0) = (f == f' && n == n') := by
  rw [Bool.eq_iff_iff, beq_iff_eq, cmpM_eq, Bool.and_eq_true, beq_iff_eq, beq_iff_eq]

set_option maxRecDepth 100000 in
set_option maxHeartbeats 800000 in
theorem hasM_pred (b : Nat) (f n u : Int) (w : World) (l : List Mk) (hb : Blk w b 67 #[.int .i64 f, .int .i64 n, .int .i64 u]) : PredM 69 b w l (fun x => x.f == f && x.n == n) := by
  intro V x hB _
  have k1 := hb.below hB hb.lt
  have k2 := Blk.new V 67 #[.int .i64 x.f, .int .i64 x.n, .int .i64 x.u]
  have k3 := k1.alloc (.cells #[.int .i64 x.f, .int .i64 x.n, .int .i64 x.u] 67)
  have hB0 := (Below.refl V.heap.size V).alloc (Nat.le_refl _) (.cells #[.int .i64 x.f, .int .i64 x.n, .int .i64 x.u] 67)
  have HE := Lib.hid (cmp_is x.f x.n f n)
  clear hb hB k1
  unfold mark
  go_enter Try.func69, Try.ntmps69
  go_wp2_with fail
  generalize V.alloc (.cells #[.int .i64 x.f, .int .i64 x.n, .int .i64 x.u] 67) = W at *
  obtain ⟨c0, c1, c2⟩ := qa.three k2
  obtain ⟨d0, d1, d2⟩ := qa.three k3
  have HB := Lib.hid hB0
  clear k2 k3 hB0
  have hm := mMark
  refine qa.region (by kernel_rfl) (by kernel_rfl) ?_
  repeat (go_big_quiet_step (first | (go_at_call 85; exact qa.of_below (mmark_any _ _ _ _)) | (go_at_call 61; exact qa.of_below (compare_any _ _ _ _ _ _ _))))
  refine wpQuiet_nil ?_
  rintro _ ⟨p, rfl⟩
  have HB2 := Lib.hid (HB.out.trans (p.h.mono HB.out.size))
  clear c0 c1 c2 d0 d1 d2 hm
  go_wp2
  go_ret
  exact ⟨nb.ret_bool HE.out, HB2.out⟩

theorem mkfn (fn : Fn) (first cap : Array Value) (w : World) : (Instr.makeFunc fn first cap).run Try.prog w = .ok (.func fn first cap) w := rfl

set_option maxRecDepth 100000 in
theorem hasM_any (w : World) (v : Value) (l : List Mk) (h : SeesMk w v l) (hl : l.length ≤ 1048576) (f n u : Int) :
    Calls Try.prog 65 #[v, mark f n u] w (BoolK w (hasM l f n)) := by
  have k1 := Blk.new w 67 #[.int .i64 f, .int .i64 n, .int .i64 u]
  have hB0 := (Below.refl w.heap.size w).alloc (Nat.le_refl _) (.cells #[.int .i64 f, .int .i64 n, .int .i64 u] 67)
  have HS := Lib.hid (srch_hasM _ v l (h.later hB0) hl _ _ (hasM_pred _ f n u _ l k1))
  have HB := Lib.hid hB0
  have hmf := mkfn
  clear k1 hB0 h
  unfold mark
  go_enter Try.func65, Try.ntmps65
  go_wp2_with fail
  refine HS.out.mono ?_
  rintro e w2 ⟨rfl, hB2⟩
  have HB2 := Lib.hid (HB.out.trans (hB2.mono HB.out.size))
  clear hB2
  go_wp2
  go_ret
  exact ⟨rfl, HB2.out⟩
end Go.Proofs.Ytekoghcgkmldgaa.kp
