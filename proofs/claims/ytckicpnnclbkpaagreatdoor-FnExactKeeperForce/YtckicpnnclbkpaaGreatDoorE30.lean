/-
  Merged texts: IKeepOk.
-/
import Derived.Test.YtckicpnnclbkpaaGreatDoorE28
import Derived.Test.YtckicpnnclbkpaaGreatDoorE29
namespace Go.Proofs.YtckicpnnclbkpaaGreatDoor.kp
open Go.ChangeShapes Go.WideShapes Go.ChangeAt Go.RowKit
open wd ow rl ok nb nx li
theorem ordQ_and (p q : Nt → Bool) (l : List Nt) : allI l.length (ordQ (fun x => p x && q x) l) = (allI l.length (ordQ p l) && l.all q) := by
 rw [Bool.eq_iff_iff, Bool.and_eq_true, allI_iff, allI_iff, List.all_eq_true]
 constructor
 ·intro h
  refine ⟨fun i hi => ?_, fun x hx => ?_⟩
  ·have := h i hi
   unfold ordQ at this ⊢
   rw [List.getElem?_eq_getElem hi] at this ⊢
   simp only [Bool.and_eq_true] at this ⊢
   exact ⟨this.1.1, this.2⟩
  ·obtain ⟨i, hi, rfl⟩ := List.mem_iff_getElem.1 hx
   have := h i hi
   unfold ordQ at this
   rw [List.getElem?_eq_getElem hi] at this
   simp only [Bool.and_eq_true] at this
   exact this.1.2
 ·rintro ⟨h1, h2⟩ i hi
  have := h1 i hi
  unfold ordQ at this ⊢
  rw [List.getElem?_eq_getElem hi] at this ⊢
  simp only [Bool.and_eq_true] at this ⊢
  exact ⟨⟨this.1, h2 _ (List.getElem_mem hi)⟩, this.2⟩
theorem ordR_and (p q : Mk → Bool) (l : List Mk) : allI l.length (ordR (fun x => p x && q x) l) = (allI l.length (ordR p l) && l.all q) := by
 rw [Bool.eq_iff_iff, Bool.and_eq_true, allI_iff, allI_iff, List.all_eq_true]
 constructor
 ·intro h
  refine ⟨fun i hi => ?_, fun x hx => ?_⟩
  ·have := h i hi
   unfold ordR at this ⊢
   rw [List.getElem?_eq_getElem hi] at this ⊢
   simp only [Bool.and_eq_true] at this ⊢
   exact ⟨this.1.1, this.2⟩
  ·obtain ⟨i, hi, rfl⟩ := List.mem_iff_getElem.1 hx
   have := h i hi
   unfold ordR at this
   rw [List.getElem?_eq_getElem hi] at this
   simp only [Bool.and_eq_true] at this
   exact this.1.2
 ·rintro ⟨h1, h2⟩ i hi
  have := h1 i hi
  unfold ordR at this ⊢
  rw [List.getElem?_eq_getElem hi] at this ⊢
  simp only [Bool.and_eq_true] at this ⊢
  exact ⟨⟨this.1, h2 _ (List.getElem_mem hi)⟩, this.2⟩
def lims6 (k : Kp) : List L3 := [(k.id, 0, 3), (k.time, 0, 999), (k.next, 1, 100), (k.held.length, 0, 6), (k.marks.length, 0, 12), (k.inbox.length, 0, 6)]
def oH (k : Kp) : Bool := allI k.held.length (ordQ (fun x => okNt x && heldOk k x) k.held)
def oM (k : Kp) : Bool := allI k.marks.length (ordR (fun x => okMk x && markOk k x) k.marks)
def oI (k : Kp) : Bool := allI k.inbox.length (ordQ (fun x => okNt x && inOk k x) k.inbox)
theorem okK_impl (k : Kp) : okK k = ((lims6 k).all fits && oH k && oM k && oI k) := by
 unfold okK oH oM oI
 rw [ordQ_and, ordR_and, ordQ_and]
 have e1 : inB (k.held.length : Int) 0 6 = decide (k.held.length ≤ 6) := decide_eq_decide.2 (by omega)
 have e2 : inB (k.marks.length : Int) 0 12 = decide (k.marks.length ≤ 12) := decide_eq_decide.2 (by omega)
 have e3 : inB (k.inbox.length : Int) 0 6 = decide (k.inbox.length ≤ 6) := decide_eq_decide.2 (by omega)
 have f1 : okNts k.held 6 = (decide (k.held.length ≤ 6) && allI k.held.length (ordQ okNt k.held)) := rfl
 have f2 : okMks k.marks = (decide (k.marks.length ≤ 12) && allI k.marks.length (ordR okMk k.marks)) := rfl
 have f3 : okNts k.inbox 6 = (decide (k.inbox.length ≤ 6) && allI k.inbox.length (ordQ okNt k.inbox)) := rfl
 rw [f1, f2, f3]
 simp only [lims6, List.all_cons, List.all_nil, fits, e1, e2, e3]
 cases inB k.id 0 3 <;> cases inB k.time 0 999 <;> cases inB k.next 1 100 <;> cases decide (k.held.length ≤ 6) <;> cases decide (k.marks.length ≤ 12) <;> cases decide (k.inbox.length ≤ 6) <;>
  cases allI k.held.length (ordQ okNt k.held) <;> cases allI k.marks.length (ordR okMk k.marks) <;> cases allI k.inbox.length (ordQ okNt k.inbox) <;> simp
theorem searchL6 (w : World) (g : Nat) (k : Kp) (h : Blk w g 167 #[.int .i64 k.id, .int .i64 0, .int .i64 3, .int .i64 k.time, .int .i64 0, .int .i64 999, .int .i64 k.next, .int .i64 1, .int .i64 100, .int .i64 k.held.length, .int .i64 0, .int .i64 6, .int .i64 k.marks.length, .int .i64 0, .int .i64 12, .int .i64 k.inbox.length, .int .i64 0, .int .i64 6]) :
  Calls Tryz.prog 124 #[.slice (some ⟨g, 0, none⟩) 6 6, .func (.func 125) #[] #[]] w (SearchPost w (!((lims6 k).all fits))) := by
 refine searchL w g 6 (lims6 k) ⟨h.lt, fun i x hx => ?_⟩ (by simp [lims6])
 have hi : i < 6 := (List.getElem?_eq_some_iff.1 hx).1
 rw [h.cell, h.cell, h.cell]
 match i, hi with
 | 0, _ => simp [lims6] at hx; subst hx; exact ⟨rfl, rfl, rfl⟩
 | 1, _ => simp [lims6] at hx; subst hx; exact ⟨rfl, rfl, rfl⟩
 | 2, _ => simp [lims6] at hx; subst hx; exact ⟨rfl, rfl, rfl⟩
 | 3, _ => simp [lims6] at hx; subst hx; exact ⟨rfl, rfl, rfl⟩
 | 4, _ => simp [lims6] at hx; subst hx; exact ⟨rfl, rfl, rfl⟩
 | 5, _ => simp [lims6] at hx; subst hx; exact ⟨rfl, rfl, rfl⟩
theorem ok_parts (k : Kp) : ((lims6 k).all fits = false ∧ false = okK k) ∨ ((lims6 k).all fits = true ∧ oH k = false ∧ false = okK k) ∨ ((lims6 k).all fits = true ∧ oH k = true ∧ oM k = false ∧ false = okK k) ∨ ((lims6 k).all fits = true ∧ oH k = true ∧ oM k = true ∧ oI k = okK k) := by
 rw [okK_impl]
 cases (lims6 k).all fits <;> cases oH k <;> cases oM k <;> simp
set_option maxRecDepth 100000 in
set_option maxHeartbeats 4000000 in
theorem ikeepOk_any (w : World) (k : Kp) (a b c : Value) (h : SeesK w k a b c) (hl : k.held.length ≤ 1048576 ∧ k.marks.length ≤ 1048576 ∧ k.inbox.length ≤ 1048576) (hz : (∀ x ∈ k.held, x.s.size ≤ maxLen) ∧ ∀ x ∈ k.inbox, x.s.size ≤ maxLen) :
  Calls Tryz.prog 92 #[kpV k.id k.time k.next a b c] w (BoolK w (okK k)) := by
 obtain ⟨hl1, hl2, hl3⟩ := hl
 have HS := Lib.hid h
 obtain ⟨Aa, ca, rfl, _⟩ := h.held
 obtain ⟨Ab, cb, rfl, _⟩ := h.marks
 obtain ⟨Ac, cc, rfl, _⟩ := h.inbox
 have hT := KB.new w k (.slice Aa k.held.length ca) (.slice Ab k.marks.length cb) (.slice Ac k.inbox.length cc)
 have H1 := Lib.hid (fun V (hK : KB w V k (.slice Aa k.held.length ca) (.slice Ab k.marks.length cb) (.slice Ac k.inbox.length cc)) => show Calls Tryz.prog 134 #[.slice Aa k.held.length ca, .func (.func 135) #[.pointer (some ⟨w.heap.size, 0, none⟩)] #[]] V (BoolK V (oH k)) from
  ord_hold V _ k.held (h.later hK.bel).held hl1 w.heap.size _ (fun V' x hB hx => may_hold w.heap.size k _ _ _ V' (hK.box.below hB hK.box.lt) ((h.later hK.bel).marks.later hB) hl2 x (hz.1 x hx)))
 have H2 := Lib.hid (fun V (hK : KB w V k (.slice Aa k.held.length ca) (.slice Ab k.marks.length cb) (.slice Ac k.inbox.length cc)) => show Calls Tryz.prog 136 #[.slice Ab k.marks.length cb, .func (.func 137) #[.pointer (some ⟨w.heap.size, 0, none⟩)] #[]] V (BoolK V (oM k)) from
  ord_mark V _ k.marks (h.later hK.bel).marks hl2 w.heap.size _ (fun V' x hB hx => may_mark w.heap.size k _ _ _ V' (hK.box.below hB hK.box.lt) x))
 have H3 := Lib.hid (fun V (hK : KB w V k (.slice Aa k.held.length ca) (.slice Ab k.marks.length cb) (.slice Ac k.inbox.length cc)) => show Calls Tryz.prog 134 #[.slice Ac k.inbox.length cc, .func (.func 138) #[.pointer (some ⟨w.heap.size, 0, none⟩)] #[]] V (BoolK V (oI k)) from
  ord_inbox V _ k.inbox (h.later hK.bel).inbox hl3 w.heap.size _ (fun V' x hB hx => may_inbox w.heap.size k _ _ _ V' (hK.box.below hB hK.box.lt) ((h.later hK.bel).marks.later hB) hl2 x (hz.2 x hx)))
 clear h hz
 go_enter Tryz.func92, Tryz.ntmps92
 go_wp2_with fail
 generalize w.alloc (.cells #[.int .i64 k.id, .int .i64 k.time, .int .i64 k.next, .slice Aa k.held.length ca, .slice Ab k.marks.length cb, .slice Ac k.inbox.length cc] 39) = W at *
 obtain ⟨c0, c1, c2, c3, c4, c5⟩ := hT.cells
 have hz0 := hT.box.lt
 have HT := Lib.hid hT
 clear hT
 go_region_held3 (fun w' => w'.cell? ⟨w.heap.size, 0, none⟩ = some (.int .i64 k.id) ∧ w'.cell? ⟨w.heap.size, 1, none⟩ = some (.int .i64 k.time) ∧ w'.cell? ⟨w.heap.size, 2, none⟩ = some (.int .i64 k.next) ∧ w'.cell? ⟨w.heap.size, 3, none⟩ = some (.slice Aa k.held.length ca) ∧ w'.cell? ⟨w.heap.size, 4, none⟩ = some (.slice Ab k.marks.length cb) ∧ w'.cell? ⟨w.heap.size, 5, none⟩ = some (.slice Ac k.inbox.length cc)) (first | exact ⟨c0, c1, c2, c3, c4, c5⟩ | exact ⟨s0, s1, s2, s3, s4, s5⟩ | go_keep) ((go_at_call 120; refine (limited_any _ _).mono ?_; rintro e w2 ⟨rfl, hB2⟩; have s0 := (hB2.cell (p := ⟨w.heap.size, 0, none⟩) hz0).trans c0; have s1 := (hB2.cell (p := ⟨w.heap.size, 1, none⟩) hz0).trans c1; have s2 := (hB2.cell (p := ⟨w.heap.size, 2, none⟩) hz0).trans c2; have s3 := (hB2.cell (p := ⟨w.heap.size, 3, none⟩) hz0).trans c3; have s4 := (hB2.cell (p := ⟨w.heap.size, 4, none⟩) hz0).trans c4; have s5 := (hB2.cell (p := ⟨w.heap.size, 5, none⟩) hz0).trans c5; have hz2 := Nat.lt_of_lt_of_le hz0 hB2.size))
 have hBw : Below W.heap.size W w2 := ⟨hB2.os, hB2.tape, hB2.output, hB2.size, hB2.block⟩
 have hT2 := HT.out.later hBw
 have HT2 := Lib.hid hT2
 have hmf := mkfn
 clear hB2 hBw hT2 HT c0 c1 c2 c3 c4 c5 s0 s1 s2 s3 s4 s5 hz0 hz2
 go_wp2_with fail
 refine (searchL6 _ _ k (Blk.new _ _ _)).mono ?_
 rintro e w4 ⟨i, rfl, hB4⟩
 have hT4 := (HT2.out.later ((Below.refl w2.heap.size w2).alloc (Nat.le_refl _) _)).later hB4
 obtain ⟨_, _, _, c3, _, _⟩ := hT4.cells
 have HT4 := Lib.hid hT4
 clear hB4 hT4 HT2
 rcases ok_parts k with ⟨h1, hE⟩ | ⟨h1, h2, hE⟩ | ⟨h1, h2, h3, hE⟩ | ⟨h1, h2, h3, hE⟩
 ·have HE := Lib.hid hE
  have HB := Lib.hid HT4.out.bel
  rw [h1]
  clear h1 hE c3
  go_wp2
  go_ret
  exact ⟨nb.ret_bool HE.out, HB.out⟩
 all_goals
  have HE := Lib.hid hE
  rw [h1]
  rw [h2] at H1
  clear h1 h2 hE
  go_wp2_with fail
  refine (H1.out _ HT4.out).mono ?_
  rintro e w5 ⟨rfl, hB5⟩
  have hT5 := HT4.out.later hB5
  clear c3
  obtain ⟨_, _, _, _, c4, _⟩ := hT5.cells
  have HT5 := Lib.hid hT5
  clear hB5 hT5 HT4
 ·have HB := Lib.hid HT5.out.bel
  clear c4
  go_wp2
  go_ret
  exact ⟨nb.ret_bool HE.out, HB.out⟩
 all_goals
  rw [h3] at H2
  clear h3
  go_wp2_with fail
  refine (H2.out _ HT5.out).mono ?_
  rintro e w6 ⟨rfl, hB6⟩
  have hT6 := HT5.out.later hB6
  clear c4
  obtain ⟨_, _, _, _, _, c5⟩ := hT6.cells
  have HT6 := Lib.hid hT6
  clear hB6 hT6 HT5
 ·have HB := Lib.hid HT6.out.bel
  clear c5
  go_wp2
  go_ret
  exact ⟨nb.ret_bool HE.out, HB.out⟩
 ·go_wp2_with fail
  refine (H3.out _ HT6.out).mono ?_
  rintro e w7 ⟨rfl, hB7⟩
  have HB := Lib.hid (HT6.out.later hB7).bel
  clear c5 hB7 HT6
  go_wp2
  go_ret
  exact ⟨nb.ret_bool HE.out, HB.out⟩
end Go.Proofs.YtckicpnnclbkpaaGreatDoor.kp

