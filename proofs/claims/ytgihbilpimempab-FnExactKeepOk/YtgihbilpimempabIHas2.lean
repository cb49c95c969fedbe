/-
  Contracts of impl.find and impl.has at marks, and of the closure.
-/
import Derived.Test.YtgihbilpimempabIHas
import Derived.Deep.Cut
namespace Go.Proofs.Ytgihbilpimempab.kp
open Go.ChangeShapes Go.WideShapes Go.ChangeAt Go.RowKit
open Go.Proofs.Ytgihbilpimempab.wd Go.Proofs.Ytgihbilpimempab.ow Go.Proofs.Ytgihbilpimempab.rl Go.Proofs.Ytgihbilpimempab.ok Go.Proofs.Ytgihbilpimempab.nb Go.Proofs.Ytgihbilpimempab.nx

theorem three {w : World} {g : Nat} {T : TypeId} {a b c : Value} (h : Blk w g T #[a, b, c]) :
    w.cell? ⟨g, 0, none⟩ = some a ∧ w.cell? ⟨g, 1, none⟩ = some b ∧ w.cell? ⟨g, 2, none⟩ = some c ∧ g < w.heap.size :=
  ⟨h.cell 0, h.cell 1, h.cell 2, h.lt⟩
theorem cmp_is (f n f' n' : Int) : (cmpM f n f' n' == 0) = (f == f' && n == n') := by
  rw [Bool.eq_iff_iff, beq_iff_eq, cmpM_eq, Bool.and_eq_true, beq_iff_eq, beq_iff_eq]

set_option maxRecDepth 100000 in
set_option maxHeartbeats 800000 in
theorem hasM_pred (b : Nat) (f n u : Int) (w : World) (l : List Mk) (hb : Blk w b 60 #[.int .i64 f, .int .i64 n, .int .i64 u]) : PredM 70 b w l (fun x => x.f == f && x.n == n) := by
  intro V x hB _
  have k1 := hb.below hB hb.lt
  have k2 := Blk.new V 60 #[.int .i64 x.f, .int .i64 x.n, .int .i64 x.u]
  have k3 := k1.alloc (.cells #[.int .i64 x.f, .int .i64 x.n, .int .i64 x.u] 60)
  have hB0 := (Below.refl V.heap.size V).alloc (Nat.le_refl _) (.cells #[.int .i64 x.f, .int .i64 x.n, .int .i64 x.u] 60)
  have HE := Lib.hid (cmp_is x.f x.n f n)
  clear hb hB k1
  unfold mark
  go_enter Try.func70, Try.ntmps70
  go_wp2_with fail
  generalize V.alloc (.cells #[.int .i64 x.f, .int .i64 x.n, .int .i64 x.u] 60) = W at *
  obtain ⟨c0, c1, c2⟩ := qa.three k2
  obtain ⟨d0, d1, d2⟩ := qa.three k3
  have HB := Lib.hid hB0
  clear k2 k3 hB0
  have hm := mMark
  refine qa.region (by kernel_rfl) (by kernel_rfl) ?_
  repeat (go_big_quiet_step (first | (go_at_call 86; exact qa.of_below (mmark_any _ _ _ _)) | (go_at_call 55; exact qa.of_below (compare_any _ _ _ _ _ _ _))))
  refine wpQuiet_nil ?_
  rintro _ ⟨p, rfl⟩
  have HB2 := Lib.hid (HB.out.trans (p.h.mono HB.out.size))
  clear c0 c1 c2 d0 d1 d2 hm
  go_wp2
  go_ret
  exact ⟨nb.ret_bool HE.out, HB2.out⟩

theorem mkfn (fn : Fn) (first cap : Array Value) (w : World) : (Instr.makeFunc fn first cap).run Try.prog w = .ok (.func fn first cap) w := rfl

theorem find_any {α : Type} {p : α → Bool} {l : List α} (h : l.any p = true) : ∃ y, l[l.findIdx p]? = some y ∧ l.find? p = some y ∧ l.findIdx p < l.length := by
  obtain ⟨x, hx, hp⟩ := List.any_eq_true.1 h
  have hlt : l.findIdx p < l.length := List.findIdx_lt_length_of_exists ⟨x, hx, hp⟩
  refine ⟨l[l.findIdx p], List.getElem?_eq_getElem hlt, ?_, hlt⟩
  rw [List.find?_eq_some_iff_getElem]
  refine ⟨List.findIdx_getElem (w := hlt), _, hlt, rfl, fun j hj => ?_⟩
  have := List.not_of_lt_findIdx hj
  simpa using this
theorem find_none {α : Type} {p : α → Bool} {l : List α} (h : l.any p = false) : l.find? p = none := by
  rw [List.find?_eq_none]
  intro x hx
  rw [List.any_eq_false] at h
  exact h x hx
/-- the first mark of a message, or none -/
def fstM (l : List Mk) (f n : Int) : Mk := (l.find? (fun x => x.f == f && x.n == n)).getD ⟨0, 0, 0⟩
def FindMP (w : World) (l : List Mk) (f n : Int) (e : Ending) (w' : World) : Prop := e = .returned (.tuple #[mkV (fstM l f n), .bool (hasM l f n)]) ∧ Below w.heap.size w w'

set_option maxRecDepth 100000 in
set_option maxHeartbeats 800000 in
theorem findM_any (w : World) (v : Value) (l : List Mk) (h : SeesMk w v l) (hl : l.length ≤ 1048576) (f n u : Int) :
    Calls Try.prog 67 #[v, mark f n u] w (FindMP w l f n) := by
  have k1 := (Blk.new w 60 #[.int .i64 f, .int .i64 n, .int .i64 u]).alloc (.cells #[.int .i64 0, .int .i64 0, .int .i64 0] 60)
  have kz := Blk.new (w.alloc (.cells #[.int .i64 f, .int .i64 n, .int .i64 u] 60)) 60 #[.int .i64 0, .int .i64 0, .int .i64 0]
  rw [World.size_alloc] at kz
  have hB0 : Below w.heap.size w ((w.alloc (.cells #[.int .i64 f, .int .i64 n, .int .i64 u] 60)).alloc (.cells #[.int .i64 0, .int .i64 0, .int .i64 0] 60)) := ((Below.refl _ _).alloc (Nat.le_refl _) _).alloc (by simp) _
  have hS := srch_hasM _ v l (h.later hB0) hl _ _ (hasM_pred _ f n u _ l k1)
  have HL := Lib.hid h
  have HB := Lib.hid hB0
  have HKz := Lib.hid kz
  have hmf := mkfn
  have HF := Lib.hid (show fstM l f n = (l.find? (fun x => x.f == f && x.n == n)).getD ⟨0, 0, 0⟩ from rfl)
  have HA := Lib.hid (show hasM l f n = l.any (fun x => x.f == f && x.n == n) from rfl)
  obtain ⟨A, c, rfl, _⟩ := h
  clear k1 kz hB0
  unfold mark
  cases ha : l.any (fun x => x.f == f && x.n == n) with
  | true =>
    obtain ⟨y, hy, hf, hlt⟩ := find_any ha
    rw [ha] at hS HA
    have HF2 := Lib.hid (show fstM l f n = y by rw [HF.out, hf]; rfl)
    generalize l.findIdx (fun x => x.f == f && x.n == n) = i at hS hy hlt
    have HS := Lib.hid hS
    have hi1 : (i : Int) < (l.length : Int) := by omega
    clear hS ha hf HF
    go_enter Try.func67, Try.ntmps67
    go_wp2_with fail
    refine HS.out.mono ?_
    rintro e w2 ⟨rfl, hB2⟩
    have hB3 := HB.out.trans (hB2.mono HB.out.size)
    have hz2 := HKz.out.below hB2 HKz.out.lt
    obtain ⟨g, c', e, hg, _, t0, t1, t2⟩ := mark_at (HL.out.later hB3) hy
    injection e with e1 e2 e3
    subst e1; subst e3
    have HB2 := Lib.hid hB3
    have z0 := hz2.cell 0
    have z1 := hz2.cell 1
    have z2 := hz2.cell 2
    have y0 := hz2.frozen 0
    have y1 := hz2.frozen 1
    have y2 := hz2.frozen 2
    simp only [List.getElem?_toArray, List.getElem?_cons_zero, List.getElem?_cons_succ] at z0 z1 z2
    clear hB2 hB3 hy HKz hz2
    go_wp2
    refine bodyPost_ret (v := .tuple #[mark y.f y.n y.u, .bool true]) (by simp [results, Try.results67, go_sem, mark, *]) rfl ⟨by rw [HF2.out, HA.out]; rfl, ?_⟩
    exact (((HB2.out).setCell (p := ⟨w.heap.size + 1, 0, none⟩) (by show w.heap.size ≤ w.heap.size + 1; omega) _).setCell (p := ⟨w.heap.size + 1, 1, none⟩) (by show w.heap.size ≤ w.heap.size + 1; omega) _).setCell (p := ⟨w.heap.size + 1, 2, none⟩) (by show w.heap.size ≤ w.heap.size + 1; omega) _
  | false =>
    rw [ha] at hS HA
    have HF2 := Lib.hid (show fstM l f n = ⟨0, 0, 0⟩ by rw [HF.out, find_none ha]; rfl)
    generalize l.findIdx (fun x => x.f == f && x.n == n) = i at hS
    have HS := Lib.hid hS
    clear hS ha HF
    go_enter Try.func67, Try.ntmps67
    go_wp2_with fail
    refine HS.out.mono ?_
    rintro e w2 ⟨rfl, hB2⟩
    have hB3 := HB.out.trans (hB2.mono HB.out.size)
    have hz2 := (HKz.out.below hB2 HKz.out.lt).alloc (.cells #[.int .i64 0, .int .i64 0, .int .i64 0] 60)
    have HB2 := Lib.hid (hB3.alloc hB3.size (.cells #[.int .i64 0, .int .i64 0, .int .i64 0] 60))
    have hx2 := Blk.new w2 60 #[.int .i64 0, .int .i64 0, .int .i64 0]
    clear hB2 hB3 HKz
    go_upto_region 4 with (fail)
    generalize w2.alloc (.cells #[.int .i64 0, .int .i64 0, .int .i64 0] 60) = V at HB2 hz2 hx2 ⊢
    generalize w2.heap.size = xb at hx2 ⊢
    have z0 := hz2.cell 0
    have z1 := hz2.cell 1
    have z2 := hz2.cell 2
    have y0 := hz2.frozen 0
    have y1 := hz2.frozen 1
    have y2 := hz2.frozen 2
    simp only [List.getElem?_toArray, List.getElem?_cons_zero, List.getElem?_cons_succ] at z0 z1 z2
    have x0 := hx2.cell 0
    have x1 := hx2.cell 1
    have xx2 := hx2.cell 2
    simp only [List.getElem?_toArray, List.getElem?_cons_zero, List.getElem?_cons_succ] at x0 x1 xx2
    clear hz2 hx2
    go_wp2
    refine bodyPost_ret (v := .tuple #[mark 0 0 0, .bool false]) (by simp [results, Try.results67, go_sem, mark, *]) rfl ⟨by rw [HF2.out, HA.out]; rfl, ?_⟩
    exact (((HB2.out).setCell (p := ⟨w.heap.size + 1, 0, none⟩) (by show w.heap.size ≤ w.heap.size + 1; omega) _).setCell (p := ⟨w.heap.size + 1, 1, none⟩) (by show w.heap.size ≤ w.heap.size + 1; omega) _).setCell (p := ⟨w.heap.size + 1, 2, none⟩) (by show w.heap.size ≤ w.heap.size + 1; omega) _

set_option maxRecDepth 100000 in
theorem hasM_any (w : World) (v : Value) (l : List Mk) (h : SeesMk w v l) (hl : l.length ≤ 1048576) (f n u : Int) :
    Calls Try.prog 60 #[v, mark f n u] w (BoolK w (hasM l f n)) := by
  have hB0 := (Below.refl w.heap.size w).alloc (Nat.le_refl _) (.cells #[.int .i64 f, .int .i64 n, .int .i64 u] 60)
  have HS := Lib.hid (findM_any _ v l (h.later hB0) hl f n u)
  have HB := Lib.hid hB0
  clear hB0 h
  unfold mark at HS ⊢
  go_enter Try.func60, Try.ntmps60
  go_wp2_with fail
  refine HS.out.mono ?_
  rintro e w2 ⟨rfl, hB2⟩
  have HB2 := Lib.hid (HB.out.trans (hB2.mono HB.out.size))
  clear hB2
  unfold mkV mark
  go_wp2
  go_ret
  exact ⟨rfl, HB2.out.alloc HB2.out.size _⟩
end Go.Proofs.Ytgihbilpimempab.kp
