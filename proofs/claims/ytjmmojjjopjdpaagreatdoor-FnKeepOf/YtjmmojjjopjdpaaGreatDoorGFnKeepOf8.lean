/-
  Merged texts: SKeep4, KeepIn, NoteIn, KeepSz, KeepTo, EqNote.
-/
import Derived.Test.YtjmmojjjopjdpaaGreatDoorGFnKeepOf7
import Derived.Test.YtjmmojjjopjdpaaGreatDoorGFnKeepOf5
import Derived.Test.YtjmmojjjopjdpaaGreatDoorGFnKeepOf1
import Derived.Test.YtjmmojjjopjdpaaGreatDoorGFnKeepOf4
import Derived.Deep.Slices
import Derived.Deep.Fields
import Derived.ChangeSame
import Derived.OpenShut
import Derived.Below
import Derived.OwnWalk
/-
  Contract of spec.KeepOk.
-/
namespace Go.Proofs.YtjmmojjjopjdpaaGreatDoor.kp
open Go.ChangeShapes Go.WideShapes Go.ChangeAt Go.RowKit
open Go.Proofs.YtjmmojjjopjdpaaGreatDoor.wd Go.Proofs.YtjmmojjjopjdpaaGreatDoor.ow Go.Proofs.YtjmmojjjopjdpaaGreatDoor.rl Go.Proofs.YtjmmojjjopjdpaaGreatDoor.ok Go.Proofs.YtjmmojjjopjdpaaGreatDoor.nb

/-- the box of a keep that came in -/
structure KB (w V : World) (k : Kp) (a b c : Value) : Prop where
  box : Blk V w.heap.size 29 #[.int .i64 k.id, .int .i64 k.time, .int .i64 k.next, a, b, c]
  bel : Below w.heap.size w V
section
variable {w V V' : World} {k : Kp} {a b c : Value}
theorem KB.new (w : World) (k : Kp) (a b c : Value) : KB w (w.alloc (.cells #[.int .i64 k.id, .int .i64 k.time, .int .i64 k.next, a, b, c] 29)) k a b c := ⟨Blk.new w _ _, (Below.refl _ w).alloc (Nat.le_refl _) _⟩
theorem KB.later (h : KB w V k a b c) (hb : Below V.heap.size V V') : KB w V' k a b c := ⟨h.box.below hb h.box.lt, h.bel.trans (hb.mono h.bel.size)⟩
theorem KB.alloc (h : KB w V k a b c) (o : Obj) : KB w (V.alloc o) k a b c := h.later ((Below.refl _ _).alloc (Nat.le_refl _) o)
theorem KB.cells (h : KB w V k a b c) : V.cell? ⟨w.heap.size, 0, none⟩ = some (.int .i64 k.id) ∧ V.cell? ⟨w.heap.size, 1, none⟩ = some (.int .i64 k.time) ∧ V.cell? ⟨w.heap.size, 2, none⟩ = some (.int .i64 k.next) ∧ V.cell? ⟨w.heap.size, 3, none⟩ = some a ∧ V.cell? ⟨w.heap.size, 4, none⟩ = some b ∧ V.cell? ⟨w.heap.size, 5, none⟩ = some c :=
  ⟨h.box.cell 0, h.box.cell 1, h.box.cell 2, h.box.cell 3, h.box.cell 4, h.box.cell 5⟩
end
/-- the box of a message, of a mark -/
theorem nt_cells {V : World} {R : Nat} {x : Nt} (h : Blk V R 131 #[.int .i64 x.f, .int .i64 x.n, .int .i64 x.t, .int .i64 x.u, .string x.s]) : V.cell? ⟨R, 0, none⟩ = some (.int .i64 x.f) ∧ V.cell? ⟨R, 1, none⟩ = some (.int .i64 x.n) ∧ V.cell? ⟨R, 2, none⟩ = some (.int .i64 x.t) ∧ V.cell? ⟨R, 3, none⟩ = some (.int .i64 x.u) ∧ V.cell? ⟨R, 4, none⟩ = some (.string x.s) :=
  ⟨h.cell 0, h.cell 1, h.cell 2, h.cell 3, h.cell 4⟩
theorem mk_cells {V : World} {R : Nat} {x : Mk} (h : Blk V R 164 #[.int .i64 x.f, .int .i64 x.n, .int .i64 x.u]) : V.cell? ⟨R, 0, none⟩ = some (.int .i64 x.f) ∧ V.cell? ⟨R, 1, none⟩ = some (.int .i64 x.n) ∧ V.cell? ⟨R, 2, none⟩ = some (.int .i64 x.u) := ⟨h.cell 0, h.cell 1, h.cell 2⟩

/-- the first six conditions -/
def pre6 (k : Kp) : Bool := inB k.id 0 3 && inB k.time 0 999 && inB k.next 1 100 && okNts k.held 6 && okMks k.marks && okNts k.inbox 6
theorem okK_pre {k : Kp} (h : pre6 k = false) : okK k = false := by
  unfold okK
  unfold pre6 at h
  rw [h]
  rfl
theorem okK_held {k : Kp} (h : k.held.all (heldOk k) = false) : okK k = false := by unfold okK; rw [h]; simp
theorem okK_marks {k : Kp} (h : k.marks.all (markOk k) = false) : okK k = false := by unfold okK; rw [h]; simp
theorem okK_inbox {k : Kp} (h : k.inbox.all (inOk k) = false) : okK k = false := by unfold okK; rw [h]; simp
theorem okK_all {k : Kp} (h0 : pre6 k = true) (h1 : k.held.all (heldOk k) = true) (h2 : k.marks.all (markOk k) = true) (h3 : k.inbox.all (inOk k) = true) : okK k = true := by
  unfold okK
  unfold pre6 at h0
  rw [h0, h1, h2, h3]
  rfl
theorem pre_f {k : Kp} (h : inB k.id 0 3 = false ∨ inB k.time 0 999 = false ∨ inB k.next 1 100 = false ∨ okNts k.held 6 = false ∨ okMks k.marks = false ∨ okNts k.inbox 6 = false) : pre6 k = false := by
  unfold pre6
  rcases h with h | h | h | h | h | h <;> simp [h]
theorem pre_t {k : Kp} (h1 : inB k.id 0 3 = true) (h2 : inB k.time 0 999 = true) (h3 : inB k.next 1 100 = true) (h4 : okNts k.held 6 = true) (h5 : okMks k.marks = true) (h6 : okNts k.inbox 6 = true) : pre6 k = true := by
  unfold pre6
  rw [h1, h2, h3, h4, h5, h6]
  rfl
theorem held_f {k : Kp} {x : Nt} (h : x.u ≤ k.time ∨ way x k.id = false ∨ (x.f = k.id ∧ k.next ≤ x.n) ∨ hasM k.marks x.f x.n = true) : heldOk k x = false := by
  unfold heldOk
  rcases h with h | h | ⟨h, h'⟩ | h
  · rw [decide_eq_false (by omega)]; rfl
  · simp [h]
  · simp [h, h']
  · simp [h]
theorem held_t {k : Kp} {x : Nt} (h1 : ¬ x.u ≤ k.time) (h2 : way x k.id = true) (h3 : ¬ (x.f = k.id ∧ k.next ≤ x.n)) (h4 : hasM k.marks x.f x.n = false) : heldOk k x = true := by
  unfold heldOk
  rw [decide_eq_true (by omega), h2, h4]
  have : (x.f == k.id && decide (k.next ≤ x.n)) = false := by
    rw [Bool.and_eq_false_iff]
    by_cases e : x.f = k.id
    · exact .inr (decide_eq_false (fun h => h3 ⟨e, h⟩))
    · exact .inl (by simpa using e)
  rw [this]
  rfl
theorem mark_f {k : Kp} {x : Mk} (h : x.u ≤ k.time ∨ (x.f = k.id ∧ k.next ≤ x.n)) : markOk k x = false := by
  unfold markOk
  rcases h with h | ⟨h, h'⟩
  · rw [decide_eq_false (by omega)]; rfl
  · simp [h, h']
theorem mark_t {k : Kp} {x : Mk} (h1 : ¬ x.u ≤ k.time) (h3 : ¬ (x.f = k.id ∧ k.next ≤ x.n)) : markOk k x = true := by
  unfold markOk
  rw [decide_eq_true (by omega)]
  have : (x.f == k.id && decide (k.next ≤ x.n)) = false := by
    rw [Bool.and_eq_false_iff]
    by_cases e : x.f = k.id
    · exact .inr (decide_eq_false (fun h => h3 ⟨e, h⟩))
    · exact .inl (by simpa using e)
  rw [this]
  rfl
theorem in_f {k : Kp} {x : Nt} (h : x.t ≠ k.id ∨ (x.f = k.id ∧ k.next ≤ x.n) ∨ (k.time < x.u ∧ hasM k.marks x.f x.n = false)) : inOk k x = false := by
  unfold inOk
  rcases h with h | ⟨h, h'⟩ | ⟨h, h'⟩
  · simp [h]
  · simp [h, h']
  · simp [h, h']
theorem in_t {k : Kp} {x : Nt} (h1 : x.t = k.id) (h3 : ¬ (x.f = k.id ∧ k.next ≤ x.n)) (h4 : ¬ (k.time < x.u ∧ hasM k.marks x.f x.n = false)) : inOk k x = true := by
  unfold inOk
  have e1 : (x.f == k.id && decide (k.next ≤ x.n)) = false := by
    rw [Bool.and_eq_false_iff]
    by_cases e : x.f = k.id
    · exact .inr (decide_eq_false (fun h => h3 ⟨e, h⟩))
    · exact .inl (by simpa using e)
  have e2 : (decide (k.time < x.u) && !hasM k.marks x.f x.n) = false := by
    rw [Bool.and_eq_false_iff]
    by_cases e : k.time < x.u
    · right
      cases hh : hasM k.marks x.f x.n with
      | true => rfl
      | false => exact absurd ⟨e, hh⟩ h4
    · exact .inl (decide_eq_false e)
  rw [e1, e2, h1]
  simp

set_option maxRecDepth 100000 in
set_option maxHeartbeats 800000 in
theorem keepOk_any (w : World) (k : Kp) (a b c : Value) (h : SeesK w k a b c) (hl : k.held.length ≤ 1048576 ∧ k.marks.length ≤ 1048576 ∧ k.inbox.length ≤ 1048576) (hz : (∀ x ∈ k.held, x.s.size ≤ maxLen) ∧ ∀ x ∈ k.inbox, x.s.size ≤ maxLen) :
    Calls Tryz.prog 109 #[kpV k.id k.time k.next a b c] w (BoolK w (okK k)) := by
  obtain ⟨hl1, hl2, hl3⟩ := hl
  obtain ⟨Aa, ca, rfl, _⟩ := h.held
  obtain ⟨Ab, cb, rfl, _⟩ := h.marks
  obtain ⟨Ac, cc, rfl, _⟩ := h.inbox
  have HS := Lib.hid h
  have hT := KB.new w k (.slice Aa k.held.length ca) (.slice Ab k.marks.length cb) (.slice Ac k.inbox.length cc)
  have H1 := Lib.hid (fun V => keeper_any k.id V)
  have H2 := Lib.hid (fun V => in_any k.time 0 999 V)
  have H3 := Lib.hid (fun V => in_any k.next 1 100 V)
  have H4 := Lib.hid (fun V (hV : Below w.heap.size w V) => notes_any V (.slice Aa k.held.length ca) k.held 6 (by omega) (h.held.later hV) hl1 hz.1)
  have H5 := Lib.hid (fun V (hV : Below w.heap.size w V) => marks_any V (.slice Ab k.marks.length cb) k.marks (h.marks.later hV) hl2)
  have H6 := Lib.hid (fun V (hV : Below w.heap.size w V) => notes_any V (.slice Ac k.inbox.length cc) k.inbox 6 (by omega) (h.inbox.later hV) hl3 hz.2)
  have H7 := Lib.hid (fun (x : Nt) V => way_any x k.id V)
  have H8 := Lib.hid (fun (f n : Int) V (hV : Below w.heap.size w V) => ixM_any V (.slice Ab k.marks.length cb) k.marks f n (h.marks.later hV) hl2)
  unfold BoolK at H4 H5 H6 H7
  unfold IsI at H8
  unfold ntV note at H7
  clear h hz
  go_enter Tryz.func109, Tryz.ntmps109
  go_wp2_with fail
  generalize w.alloc (.cells #[.int .i64 k.id, .int .i64 k.time, .int .i64 k.next, .slice Aa k.held.length ca, .slice Ab k.marks.length cb, .slice Ac k.inbox.length cc] 29) = V at hT ⊢
  refine (H1.out _).mono ?_
  rintro e w1 ⟨rfl, rfl⟩
  obtain ⟨c0, c1, c2, c3, c4, c5⟩ := hT.cells
  have HT := Lib.hid hT
  clear hT H1
  cases b1 : inB k.id 0 3 with
  | false =>
    have HR := Lib.hid (okK_pre (pre_f (.inl b1)))
    go_wp2
    go_ret
    exact ⟨nb.ret_bool HR.out.symm, HT.out.bel⟩
  | true =>
  go_wp2_with fail
  refine (H2.out _).mono ?_
  rintro e w1 ⟨rfl, rfl⟩
  clear H2
  cases b2 : inB k.time 0 999 with
  | false =>
    have HR := Lib.hid (okK_pre (pre_f (.inr (.inl b2))))
    go_wp2
    go_ret
    exact ⟨nb.ret_bool HR.out.symm, HT.out.bel⟩
  | true =>
  go_wp2_with fail
  refine (H3.out _).mono ?_
  rintro e w1 ⟨rfl, rfl⟩
  clear H3
  cases b3 : inB k.next 1 100 with
  | false =>
    have HR := Lib.hid (okK_pre (pre_f (.inr (.inr (.inl b3)))))
    go_wp2
    go_ret
    exact ⟨nb.ret_bool HR.out.symm, HT.out.bel⟩
  | true =>
  go_wp2_with fail
  refine (H4.out _ HT.out.bel).mono ?_
  rintro e w1 ⟨rfl, hB1⟩
  have hT1 := HT.out.later hB1
  clear c0 c1 c2 c3 c4 c5 HT H4 hB1
  obtain ⟨c0, c1, c2, c3, c4, c5⟩ := hT1.cells
  have HT := Lib.hid hT1
  clear hT1
  cases b4 : okNts k.held 6 with
  | false =>
    have HR := Lib.hid (okK_pre (pre_f (.inr (.inr (.inr (.inl b4))))))
    go_wp2
    go_ret
    exact ⟨nb.ret_bool HR.out.symm, HT.out.bel⟩
  | true =>
  go_wp2_with fail
  refine (H5.out _ HT.out.bel).mono ?_
  rintro e w2 ⟨rfl, hB1⟩
  have hT1 := HT.out.later hB1
  clear c0 c1 c2 c3 c4 c5 HT H5 hB1
  obtain ⟨c0, c1, c2, c3, c4, c5⟩ := hT1.cells
  have HT := Lib.hid hT1
  clear hT1
  cases b5 : okMks k.marks with
  | false =>
    have HR := Lib.hid (okK_pre (pre_f (.inr (.inr (.inr (.inr (.inl b5)))))))
    go_wp2
    go_ret
    exact ⟨nb.ret_bool HR.out.symm, HT.out.bel⟩
  | true =>
  go_wp2_with fail
  refine (H6.out _ HT.out.bel).mono ?_
  rintro e w3 ⟨rfl, hB1⟩
  have hT1 := HT.out.later hB1
  clear c0 c1 c2 c3 c4 c5 HT H6 hB1
  obtain ⟨c0, c1, c2, c3, c4, c5⟩ := hT1.cells
  have HT := Lib.hid hT1
  clear hT1
  cases b6 : okNts k.inbox 6 with
  | false =>
    have HR := Lib.hid (okK_pre (pre_f (.inr (.inr (.inr (.inr (.inr b6)))))))
    go_wp2
    go_ret
    exact ⟨nb.ret_bool HR.out.symm, HT.out.bel⟩
  | true =>
  have HP := Lib.hid (pre_t b1 b2 b3 b4 b5 b6)
  clear b1 b2 b3 b4 b5 b6 c0 c1 c2 c3 c4 c5
  go_wp2
  go_loopw [3] (fun i wr => ∃ j : Nat, j ≤ k.held.length ∧ i = .int .i64 j ∧ Hid ((k.held.take j).all (heldOk k) = true) ∧ Hid (KB w wr k (.slice Aa k.held.length ca) (.slice Ab k.marks.length cb) (.slice Ac k.inbox.length cc))) (fun i _ => (k.held.length + 1 : Nat) - (intOf i).toNat)
  case atStart => exact ⟨0, by omega, rfl, rfl, HT.out⟩
  case round =>
  obtain ⟨j, hj, rfl, HA, HT2⟩ := hrel
  clear HT
  have lb := HT2.out.box.lt
  obtain ⟨c0, c1, c2, c3, c4, c5⟩ := HT2.out.cells
  by_cases hjl : j < k.held.length
  · have hx : k.held[j]? = some k.held[j] := List.getElem?_eq_getElem hjl
    have hc := note_at (HS.out.held.later HT2.out.bel) hx
    generalize k.held[j] = x at hx hc
    obtain ⟨g, c', e, hg, _, t0, t1, t2, t3, t4⟩ := hc
    injection e with e1 e2 e3
    subst e1; subst e3
    have hj1 : (j : Int) < (k.held.length : Int) := by omega
    have hj0 : (0 : Int) ≤ (j : Int) := by omega
    have hBx := Blk.new wr 131 #[.int .i64 x.f, .int .i64 x.n, .int .i64 x.t, .int .i64 x.u, .string x.s]
    have HT3 := Lib.hid (HT2.out.alloc (.cells #[.int .i64 x.f, .int .i64 x.n, .int .i64 x.t, .int .i64 x.u, .string x.s] 131))
    by_cases h1 : x.u ≤ k.time
    · have HR := Lib.hid (okK_held (all_bad hx (held_f (.inl h1))))
      clear hx
      go_wp2
      go_ret
      exact ⟨nb.ret_bool HR.out.symm, HT3.out.bel⟩
    have HW := Lib.hid (H7.out x)
    go_wp2_with fail
    generalize wr.alloc (.cells #[.int .i64 x.f, .int .i64 x.n, .int .i64 x.t, .int .i64 x.u, .string x.s] 131) = V1 at hBx HT3 ⊢
    with_reducible refine (HW.out _).mono ?_
    rintro e w4 ⟨rfl, hB4⟩
    have hBy := hBx.below hB4 hBx.lt
    have HT4 := Lib.hid (HT3.out.later hB4)
    clear c0 c1 c2 c3 c4 c5 hB4 HT3 hBx
    obtain ⟨c0, c1, c2, c3, c4, c5⟩ := HT4.out.cells
    obtain ⟨n0, n1, n2, n3, n4⟩ := nt_cells hBy
    cases hw : way x k.id with
    | false =>
      have HR := Lib.hid (okK_held (all_bad hx (held_f (.inr (.inl hw)))))
      clear hx
      go_wp2
      go_ret
      exact ⟨nb.ret_bool HR.out.symm, HT4.out.bel⟩
    | true =>
      by_cases hf : x.f = k.id
      · have kf : (x.f == k.id) = true := by simpa using hf
        have HF := Lib.hid hf
        clear hf
        by_cases hn : k.next ≤ x.n
        · have HR := Lib.hid (okK_held (all_bad hx (held_f (.inr (.inr (.inl ⟨HF.out, hn⟩))))))
          clear hx
          go_wp2
          go_ret
          exact ⟨nb.ret_bool HR.out.symm, HT4.out.bel⟩
        · have hn' : ¬ k.next ≤ x.n := hn
          go_wp2_with fail
          with_reducible refine (H8.out x.f x.n _ HT4.out.bel).mono ?_
          rintro e w5 ⟨rfl, rfl⟩
          rcases ixM_cases k.marks x.f x.n with ⟨hm, hi⟩ | ⟨hm, i, y, hi, _, _, _⟩
          · have HR := Lib.hid (all_on HA.out hx (held_t (by omega) hw (by omega) hm))
            rw [hi]
            clear hx hi
            go_wp2
            go_roundw
            case rel => exact ⟨j + 1, by omega, by go_num, HR.out, HT4.out⟩
            case measure => simp [intOf]; omega
          · have HR := Lib.hid (okK_held (all_bad hx (held_f (.inr (.inr (.inr hm))))))
            rw [hi]
            have i9 : (0 : Int) ≤ ((i : Nat) : Int) := by omega
            clear hx hi
            go_wp2
            go_ret
            exact ⟨nb.ret_bool HR.out.symm, HT4.out.bel⟩
      · have kf : (x.f == k.id) = false := by simpa using hf
        go_wp2_with fail
        with_reducible refine (H8.out x.f x.n _ HT4.out.bel).mono ?_
        rintro e w5 ⟨rfl, rfl⟩
        rcases ixM_cases k.marks x.f x.n with ⟨hm, hi⟩ | ⟨hm, i, y, hi, _, _, _⟩
        · have HR := Lib.hid (all_on HA.out hx (held_t (by omega) hw (by omega) hm))
          rw [hi]
          clear hx hi
          go_wp2
          go_roundw
          case rel => exact ⟨j + 1, by omega, by go_num, HR.out, HT4.out⟩
          case measure => simp [intOf]; omega
        · have HR := Lib.hid (okK_held (all_bad hx (held_f (.inr (.inr (.inr hm))))))
          rw [hi]
          have i9 : (0 : Int) ≤ ((i : Nat) : Int) := by omega
          clear hx hi
          go_wp2
          go_ret
          exact ⟨nb.ret_bool HR.out.symm, HT4.out.bel⟩
  · have HH := Lib.hid (all_end HA.out (by omega))
    clear HA
    have HT := HT2
    clear HT2
    go_wp2
    clear lb c0 c1 c2 c3 c4 c5 hj hjl
    go_loopw [5] (fun i wr => ∃ j : Nat, j ≤ k.marks.length ∧ i = .int .i64 j ∧ Hid ((k.marks.take j).all (markOk k) = true) ∧ Hid (KB w wr k (.slice Aa k.held.length ca) (.slice Ab k.marks.length cb) (.slice Ac k.inbox.length cc))) (fun i _ => (k.marks.length + 1 : Nat) - (intOf i).toNat)
    case atStart => exact ⟨0, by omega, rfl, rfl, HT.out⟩
    case round =>
    obtain ⟨j, hj, rfl, HA, HT2⟩ := hrel
    clear HT
    have lb := HT2.out.box.lt
    obtain ⟨c0, c1, c2, c3, c4, c5⟩ := HT2.out.cells
    by_cases hjl : j < k.marks.length
    · have hx : k.marks[j]? = some k.marks[j] := List.getElem?_eq_getElem hjl
      have hc := mark_at (HS.out.marks.later HT2.out.bel) hx
      generalize k.marks[j] = x at hx hc
      obtain ⟨g, c', e, hg, _, t0, t1, t2⟩ := hc
      injection e with e1 e2 e3
      subst e1; subst e3
      have hj1 : (j : Int) < (k.marks.length : Int) := by omega
      have hj0 : (0 : Int) ≤ (j : Int) := by omega
      have hBx := Blk.new wr 164 #[.int .i64 x.f, .int .i64 x.n, .int .i64 x.u]
      have HT3 := Lib.hid (HT2.out.alloc (.cells #[.int .i64 x.f, .int .i64 x.n, .int .i64 x.u] 164))
      by_cases h1 : x.u ≤ k.time
      · have HR := Lib.hid (okK_marks (all_bad hx (mark_f (.inl h1))))
        clear hx
        go_wp2
        go_ret
        exact ⟨nb.ret_bool HR.out.symm, HT3.out.bel⟩
      by_cases hf : x.f = k.id
      · have kf : (x.f == k.id) = true := by simpa using hf
        have HF := Lib.hid hf
        clear hf
        by_cases hn : k.next ≤ x.n
        · have HR := Lib.hid (okK_marks (all_bad hx (mark_f (.inr ⟨HF.out, hn⟩))))
          clear hx
          go_wp2
          go_ret
          exact ⟨nb.ret_bool HR.out.symm, HT3.out.bel⟩
        · have HR := Lib.hid (all_on HA.out hx (mark_t (by omega) (by omega)))
          clear hx
          go_wp2
          go_roundw
          case rel => exact ⟨j + 1, by omega, by go_num, HR.out, HT3.out⟩
          case measure => simp [intOf]; omega
      · have kf : (x.f == k.id) = false := by simpa using hf
        have HR := Lib.hid (all_on HA.out hx (mark_t (by omega) (by omega)))
        clear hx hf
        go_wp2
        go_roundw
        case rel => exact ⟨j + 1, by omega, by go_num, HR.out, HT3.out⟩
        case measure => simp [intOf]; omega
    · have HM := Lib.hid (all_end HA.out (by omega))
      clear HA
      have HT := HT2
      clear HT2
      go_wp2
      clear lb c0 c1 c2 c3 c4 c5 hj hjl
      go_loopw [7] (fun i wr => ∃ j : Nat, j ≤ k.inbox.length ∧ i = .int .i64 j ∧ Hid ((k.inbox.take j).all (inOk k) = true) ∧ Hid (KB w wr k (.slice Aa k.held.length ca) (.slice Ab k.marks.length cb) (.slice Ac k.inbox.length cc))) (fun i _ => (k.inbox.length + 1 : Nat) - (intOf i).toNat)
      case atStart => exact ⟨0, by omega, rfl, rfl, HT.out⟩
      case round =>
      obtain ⟨j, hj, rfl, HA, HT2⟩ := hrel
      clear HT
      have lb := HT2.out.box.lt
      obtain ⟨c0, c1, c2, c3, c4, c5⟩ := HT2.out.cells
      by_cases hjl : j < k.inbox.length
      · have hx : k.inbox[j]? = some k.inbox[j] := List.getElem?_eq_getElem hjl
        have hc := note_at (HS.out.inbox.later HT2.out.bel) hx
        generalize k.inbox[j] = x at hx hc
        obtain ⟨g, c', e, hg, _, t0, t1, t2, t3, t4⟩ := hc
        injection e with e1 e2 e3
        subst e1; subst e3
        have hj1 : (j : Int) < (k.inbox.length : Int) := by omega
        have hj0 : (0 : Int) ≤ (j : Int) := by omega
        have hBx := Blk.new wr 131 #[.int .i64 x.f, .int .i64 x.n, .int .i64 x.t, .int .i64 x.u, .string x.s]
        have HT3 := Lib.hid (HT2.out.alloc (.cells #[.int .i64 x.f, .int .i64 x.n, .int .i64 x.t, .int .i64 x.u, .string x.s] 131))
        by_cases h1 : x.t = k.id
        · have kx : (x.t == k.id) = true := by simpa using h1
          have kx' : (x.t != k.id) = false := by simpa using h1
          have HX := Lib.hid h1
          clear h1
          by_cases hf : x.f = k.id
          · have kf : (x.f == k.id) = true := by simpa using hf
            have HF := Lib.hid hf
            clear hf
            by_cases hn : k.next ≤ x.n
            · have HR := Lib.hid (okK_inbox (all_bad hx (in_f (.inr (.inl ⟨HF.out, hn⟩)))))
              clear hx
              go_wp2
              go_ret
              exact ⟨nb.ret_bool HR.out.symm, HT3.out.bel⟩
            · by_cases hu : k.time < x.u
              · go_wp2_with fail
                generalize wr.alloc (.cells #[.int .i64 x.f, .int .i64 x.n, .int .i64 x.t, .int .i64 x.u, .string x.s] 131) = V1 at hBx HT3 ⊢
                with_reducible refine (H8.out x.f x.n _ HT3.out.bel).mono ?_
                rintro e w5 ⟨rfl, rfl⟩
                rcases ixM_cases k.marks x.f x.n with ⟨hm, hi⟩ | ⟨hm, i, y, hi, _, _, _⟩
                · have HR := Lib.hid (okK_inbox (all_bad hx (in_f (.inr (.inr ⟨hu, hm⟩)))))
                  rw [hi]
                  clear hx hi
                  go_wp2
                  go_ret
                  exact ⟨nb.ret_bool HR.out.symm, HT3.out.bel⟩
                · have HR := Lib.hid (all_on HA.out hx (in_t HX.out (by omega) (fun p => by rw [hm] at p; cases p.2)))
                  rw [hi]
                  have i9 : (0 : Int) ≤ ((i : Nat) : Int) := by omega
                  clear hx hi
                  go_wp2
                  go_roundw
                  case rel => exact ⟨j + 1, by omega, by go_num, HR.out, HT3.out⟩
                  case measure => simp [intOf]; omega
              · have HR := Lib.hid (all_on HA.out hx (in_t HX.out (by omega) (fun p => hu p.1)))
                clear hx
                go_wp2
                go_roundw
                case rel => exact ⟨j + 1, by omega, by go_num, HR.out, HT3.out⟩
                case measure => simp [intOf]; omega
          · have kf : (x.f == k.id) = false := by simpa using hf
            by_cases hu : k.time < x.u
            · go_wp2_with fail
              generalize wr.alloc (.cells #[.int .i64 x.f, .int .i64 x.n, .int .i64 x.t, .int .i64 x.u, .string x.s] 131) = V1 at hBx HT3 ⊢
              with_reducible refine (H8.out x.f x.n _ HT3.out.bel).mono ?_
              rintro e w5 ⟨rfl, rfl⟩
              rcases ixM_cases k.marks x.f x.n with ⟨hm, hi⟩ | ⟨hm, i, y, hi, _, _, _⟩
              · have HR := Lib.hid (okK_inbox (all_bad hx (in_f (.inr (.inr ⟨hu, hm⟩)))))
                rw [hi]
                clear hx hi
                go_wp2
                go_ret
                exact ⟨nb.ret_bool HR.out.symm, HT3.out.bel⟩
              · have HR := Lib.hid (all_on HA.out hx (in_t HX.out (by omega) (fun p => by rw [hm] at p; cases p.2)))
                rw [hi]
                have i9 : (0 : Int) ≤ ((i : Nat) : Int) := by omega
                clear hx hi
                go_wp2
                go_roundw
                case rel => exact ⟨j + 1, by omega, by go_num, HR.out, HT3.out⟩
                case measure => simp [intOf]; omega
            · have HR := Lib.hid (all_on HA.out hx (in_t HX.out (by omega) (fun p => hu p.1)))
              clear hx
              go_wp2
              go_roundw
              case rel => exact ⟨j + 1, by omega, by go_num, HR.out, HT3.out⟩
              case measure => simp [intOf]; omega
        · have kx : (x.t == k.id) = false := by simpa using h1
          have kx' : (x.t != k.id) = true := by simpa using h1
          have HR := Lib.hid (okK_inbox (all_bad hx (in_f (.inl h1))))
          clear hx
          go_wp2
          go_ret
          exact ⟨nb.ret_bool HR.out.symm, HT3.out.bel⟩
      · have HR := Lib.hid (okK_all HP.out HH.out HM.out (all_end HA.out (by omega)))
        go_wp2
        go_ret
        exact ⟨nb.ret_bool HR.out.symm, HT2.out.bel⟩
end Go.Proofs.YtjmmojjjopjdpaaGreatDoor.kp

/-
  What a keeper has, come in as an argument, in our words: its lists read as messages and marks.
-/
namespace Go.Proofs.YtjmmojjjopjdpaaGreatDoor.kp
open Go.ChangeShapes Go.WideShapes Go.ChangeAt Go.RowKit Go.Deep
open Go.Proofs.YtjmmojjjopjdpaaGreatDoor.wd Go.Proofs.YtjmmojjjopjdpaaGreatDoor.rl

/-- a slice that came in and reads as records -/
def InR {α : Type} (S : Shape α) (w : World) (v : Value) (l : List α) : Prop :=
  ∃ A c, v = .slice A l.length c ∧ l.length ≤ maxLen ∧ (0 < l.length → ∃ g o, A = some ⟨g, o, none⟩ ∧ g < w.heap.size ∧ ∀ i x, l[i]? = some x → ∀ j u, (S.f x)[j]? = some u → w.cell? ⟨g, o + i * S.n + j, none⟩ = some u)
theorem InR.later {α : Type} {S : Shape α} {w w' : World} {v : Value} {l : List α} (h : InR S w v l) (hB : Below w.heap.size w w') : InR S w' v l := by
  obtain ⟨A, c, rfl, h1, hc⟩ := h
  refine ⟨A, c, rfl, h1, fun hn => ?_⟩
  obtain ⟨g, o, rfl, hg, hcell⟩ := hc hn
  exact ⟨g, o, rfl, Nat.lt_of_lt_of_le hg hB.size, fun i x hx j u hu => (hB.cell (p := ⟨g, _, none⟩) hg).trans (hcell i x hx j u hu)⟩
theorem InR.at {α : Type} {S : Shape α} {w : World} {v : Value} {l : List α} (h : InR S w v l) {i : Nat} {x : α} (hx : l[i]? = some x) :
    ∃ g o c, v = .slice (some ⟨g, o, none⟩) l.length c ∧ g < w.heap.size ∧ i < l.length ∧ ∀ j u, (S.f x)[j]? = some u → w.cell? ⟨g, o + i * S.n + j, none⟩ = some u := by
  obtain ⟨A, c, rfl, _, hc⟩ := h
  have hi := (List.getElem?_eq_some_iff.mp hx).1
  obtain ⟨g, o, rfl, hlt, hr⟩ := hc (by omega)
  exact ⟨g, o, c, rfl, hlt, hi, hr i x hx⟩

structure InK (w : World) (k : Kp) (vh vm vi : Value) : Prop where
  held : InR ntS w vh k.held
  marks : InR mkS w vm k.marks
  inbox : InR ntS w vi k.inbox
  heldS : ∀ x ∈ k.held, x.s.size ≤ maxLen
  inboxS : ∀ x ∈ k.inbox, x.s.size ≤ maxLen
theorem InK.later {w w' : World} {k : Kp} {vh vm vi : Value} (h : InK w k vh vm vi) (hB : Below w.heap.size w w') : InK w' k vh vm vi := ⟨h.held.later hB, h.marks.later hB, h.inbox.later hB, h.heldS, h.inboxS⟩

theorem cells_n : Tryz.prog.cellsOf 197 = 5 := by kernel_rfl
theorem grow_list {α : Type} {P : Nat → α → Prop} (n : Nat) (h : ∀ i, i < n → ∃ m, P i m) : ∃ l : List α, l.length = n ∧ ∀ i m, l[i]? = some m → P i m := by
  induction n with
  | zero => exact ⟨[], rfl, fun i m hm => by simp at hm⟩
  | succ n ih =>
    obtain ⟨l, hl, hP⟩ := ih (fun i hi => h i (by omega))
    obtain ⟨m, hm⟩ := h n (by omega)
    refine ⟨l ++ [m], by simp [hl], fun i m' hm' => ?_⟩
    by_cases e : i < l.length
    · rw [List.getElem?_append_left e] at hm'; exact hP i m' hm'
    · rw [List.getElem?_append_right (by omega)] at hm'
      have hi : i - l.length = 0 := by
        rcases Nat.eq_zero_or_pos (i - l.length) with h | h
        · exact h
        · rw [List.getElem?_eq_none (by simp; omega)] at hm'; cases hm'
      rw [hi] at hm'
      simp at hm'
      subst hm'
      obtain rfl : i = n := by omega
      exact hm

section
variable {H : Type} {enc : TypeId × Value → H} {w : World} {base b0 : Nat} {r : Reach} {spare : Nat → Bool} {held : Bool}

/-- from cells that were read to a list in our words -/
theorem rows_in {α : Type} {S : Shape α} (hS : 0 < S.n) {a : Addr} {len cap : Nat} {Q : α → Prop} (hm : cap ≤ maxLen) (hl : len ≤ cap)
    (h : ∀ i, i < len → ∃ x, (∀ j u, (S.f x)[j]? = some u → w.cell? (a.add (i * S.n + j)) = some u) ∧ Q x) :
    ∃ l : List α, InR S w (.slice (some a) len cap) l ∧ ∀ x ∈ l, Q x := by
  obtain ⟨l, hll, hP⟩ := grow_list len h
  refine ⟨l, ⟨some a, cap, by rw [hll], by omega, fun hn => ?_⟩, fun x hx => ?_⟩
  · have hx0 := List.getElem?_eq_getElem hn
    have hu : (S.f l[0])[0]? = some ((S.f l[0])[0]'(by rw [S.len]; exact hS)) := List.getElem?_eq_getElem _
    have h0 := (hP 0 _ hx0).1 0 _ hu
    obtain ⟨g, o, spot⟩ := a
    have hspot : spot = none := by simpa [Addr.add] using World.cell?_spot h0
    subst hspot
    have e : ∀ j, (⟨g, o, none⟩ : Addr).add j = ⟨g, o + j, none⟩ := fun j => by unfold Addr.add; split <;> simp_all
    refine ⟨g, o, rfl, ?_, fun i x hx j u hu => ?_⟩
    · rcases Nat.lt_or_ge g w.heap.size with hlt | hge
      · exact hlt
      · rw [e] at h0
        have : w.heap[g]? = none := Array.getElem?_eq_none hge
        simp [World.cell?, this] at h0
    · have := (hP i x hx).1 j u hu
      rw [e, ← Nat.add_assoc] at this
      exact this
  · obtain ⟨i, hi, rfl⟩ := List.mem_iff_getElem.mp hx
    exact (hP i _ (List.getElem?_eq_getElem hi)).2

set_option maxRecDepth 100000 in
theorem notes_in {fuel : Nat} {c : Value} {x : DataW H × List MemPlace} (h : DataW.trod enc Tryz.prog w base spare held fuel 61 [c] = some x) : ∃ l : List Nt, InR ntS w c l ∧ ∀ x ∈ l, x.s.size ≤ maxLen := by
  rcases open_slice Tryz.underlying61 h with ⟨hcs, _⟩ | ⟨a, len, cap, m, n, D, Pl, hcs, hb, hl, hm, hmm, hx, hi⟩
  · injection hcs with hcs _
    subst hcs
    exact ⟨[], ⟨none, 0, rfl, by simp, fun h => absurd h (by simp)⟩, fun x hx => by simp at hx⟩
  · injection hcs with hcs _
    subst hcs
    have hlm : len ≤ m := by rw [hmm]; split <;> omega
    refine rows_in (S := ntS) (by decide) hm hl (fun i hilt => ?_)
    obtain ⟨cs', hc, ht⟩ := hi i (by omega)
    rw [cells_n] at hc
    obtain ⟨_, hcl, hat⟩ := World.cells?_some hc
    obtain ⟨xs, n', _, _, _, hl5, hg⟩ := DataW.trod_struct Tryz.underlying197 ht
    match cs', hcl with
    | [c0, c1, c2, c3, c4], _ =>
      have h0 := hg 0 _ rfl
      have h1 := hg 1 _ rfl
      have h2 := hg 2 _ rfl
      have h3 := hg 3 _ rfl
      have h4 := hg 4 _ rfl
      have j0 : DataW.trod enc Tryz.prog w base spare held n' 3 [c0] = xs[0]? := h0
      have j1 : DataW.trod enc Tryz.prog w base spare held n' 3 [c1] = xs[1]? := h1
      have j2 : DataW.trod enc Tryz.prog w base spare held n' 3 [c2] = xs[2]? := h2
      have j3 : DataW.trod enc Tryz.prog w base spare held n' 3 [c3] = xs[3]? := h3
      have j4 : DataW.trod enc Tryz.prog w base spare held n' 9 [c4] = xs[4]? := h4
      have hl5' : xs.length = 5 := hl5
      rw [List.getElem?_eq_getElem (by omega)] at j0 j1 j2 j3 j4
      obtain ⟨i0, e0, _, _⟩ := DataW.trod_int Tryz.underlying3 j0
      obtain ⟨i1, e1, _, _⟩ := DataW.trod_int Tryz.underlying3 j1
      obtain ⟨i2, e2, _, _⟩ := DataW.trod_int Tryz.underlying3 j2
      obtain ⟨i3, e3, _, _⟩ := DataW.trod_int Tryz.underlying3 j3
      obtain ⟨s, e4, _, hs⟩ := DataW.trod_string Tryz.underlying9 j4
      simp at e0 e1 e2 e3 e4
      subst e0; subst e1; subst e2; subst e3; subst e4
      refine ⟨⟨i0, i1, i2, i3, s⟩, fun j u hu => ?_, hs⟩
      have hj : j < 5 := (List.getElem?_eq_some_iff.1 hu).1
      have := hat j hj
      rw [Go.Deep.add_add] at this
      rw [show ntS.n = 5 from rfl, this]
      exact hu

end
end Go.Proofs.YtjmmojjjopjdpaaGreatDoor.kp

/-
  A message that came in, in our words; contracts of the laws' helpers over messages: laws.szNote, laws.toNote.
-/
namespace Go.Proofs.YtjmmojjjopjdpaaGreatDoor.ok
open Go.ChangeShapes Go.WideShapes Go.ChangeAt Go.RowKit Go.Deep
open Go.Proofs.YtjmmojjjopjdpaaGreatDoor.nb

theorem cells_note : Tryz.prog.cellsOf 197 = 5 := by kernel_rfl

section
variable {H : Type} {enc : TypeId × Value → H} {w : World} {base b0 : Nat} {r : Reach} {spare : Nat → Bool} {held : Bool}
set_option maxRecDepth 100000 in
theorem note_in {v : Value} {d : DataW H} {p : List MemPlace} (hv : Value.okWide Tryz.prog w r b0 197 v) (h : DataW.Trod enc Tryz.prog w base spare held 197 v d p) :
    ∃ (f n t u : Int) (s : ByteArray), v = note f n t u s ∧ s.size ≤ maxLen := by
  obtain ⟨cs, rfl, hsz⟩ := okWide_struct Tryz.underlying197 hv
  obtain ⟨l⟩ := cs
  match l, hsz.trans cells_note with
  | [c0, c1, c2, c3, c4], _ =>
    obtain ⟨fuel, hf⟩ := h
    obtain ⟨xs, n, _, _, _, _, hg⟩ := DataW.trod_struct Tryz.underlying197 hf
    have h0 := hg 0 _ rfl
    have h1 := hg 1 _ rfl
    have h2 := hg 2 _ rfl
    have h3 := hg 3 _ rfl
    have h4 := hg 4 _ rfl
    simp only [Value.cells] at h0 h1 h2 h3 h4
    have j0 : DataW.trod enc Tryz.prog w base spare held n 3 [c0] = xs[0]? := h0
    have j1 : DataW.trod enc Tryz.prog w base spare held n 3 [c1] = xs[1]? := h1
    have j2 : DataW.trod enc Tryz.prog w base spare held n 3 [c2] = xs[2]? := h2
    have j3 : DataW.trod enc Tryz.prog w base spare held n 3 [c3] = xs[3]? := h3
    have j4 : DataW.trod enc Tryz.prog w base spare held n 9 [c4] = xs[4]? := h4
    have hl5 : xs.length = 5 := by assumption
    rw [List.getElem?_eq_getElem (by omega)] at j0 j1 j2 j3 j4
    obtain ⟨i0, e0, _, _⟩ := DataW.trod_int Tryz.underlying3 j0
    obtain ⟨i1, e1, _, _⟩ := DataW.trod_int Tryz.underlying3 j1
    obtain ⟨i2, e2, _, _⟩ := DataW.trod_int Tryz.underlying3 j2
    obtain ⟨i3, e3, _, _⟩ := DataW.trod_int Tryz.underlying3 j3
    obtain ⟨s, e4, _, hs⟩ := DataW.trod_string Tryz.underlying9 j4
    simp at e0 e1 e2 e3 e4
    subst e0; subst e1; subst e2; subst e3; subst e4
    exact ⟨i0, i1, i2, i3, s, rfl, hs⟩
end
def SizePost (w : World) (l : Int) (s : ByteArray) (e : Ending) (w' : World) : Prop := e = .returned (.int .i64 (if l < s.size then -1 else l - s.size)) ∧ Below w.heap.size w w'

theorem sz_any (f n t u : Int) (s : ByteArray) (w : World) (hs : s.size ≤ maxLen) (l : Int) (h0 : 0 ≤ l) (h1 : l ≤ 1048576) :
    Calls Tryz.prog 144 #[note f n t u s, .int .i64 l] w (SizePost w l s) := by
  unfold note
  unfold maxLen at hs
  by_cases h : l < s.size
  · have R := Lib.hid (show (if l < (s.size : Int) then (-1 : Int) else l - s.size) = -1 from if_pos h)
    go_enter Tryz.func144, Tryz.ntmps144
    go_wp2
    go_ret
    exact ⟨ret_int R.out.symm, (Below.refl _ _).alloc (Nat.le_refl _) _⟩
  · have R := Lib.hid (show (if l < (s.size : Int) then (-1 : Int) else l - s.size) = l - s.size from if_neg h)
    have h' : ¬ l - (s.size : Int) < 0 := by omega
    go_enter Tryz.func144, Tryz.ntmps144
    go_wp2
    go_ret
    exact ⟨ret_int R.out.symm, (Below.refl _ _).alloc (Nat.le_refl _) _⟩

def NotePost (w : World) (f n t u : Int) (s : ByteArray) (e : Ending) (w' : World) : Prop := e = .returned (note f n t u s) ∧ Below w.heap.size w w'

theorem to_any (f n t u : Int) (s : ByteArray) (w : World) :
    Calls Tryz.prog 146 #[note f n t u s] w (NotePost w f n t u s) := by
  unfold note
  go_enter Tryz.func146, Tryz.ntmps146
  go_wp2
  refine bodyPost_ret (v := note f n t u s) (by simp [results, Tryz.results146, go_sem, note]) rfl ⟨rfl, ?_⟩
  exact (((Below.refl _ _).alloc (Nat.le_refl _) _).alloc (by simp) _).alloc (by simp; omega) _
end Go.Proofs.YtjmmojjjopjdpaaGreatDoor.ok

/-
  Contracts of the laws' own helpers over what a keeper has, come in: szNoteS, szMarkS, szKeep; toNoteS, toMarkS, toKeep.
-/
namespace Go.Proofs.YtjmmojjjopjdpaaGreatDoor.kp
open Go.ChangeShapes Go.WideShapes Go.ChangeAt Go.RowKit
open Go.Proofs.YtjmmojjjopjdpaaGreatDoor.wd Go.Proofs.YtjmmojjjopjdpaaGreatDoor.ow Go.Proofs.YtjmmojjjopjdpaaGreatDoor.rl Go.Proofs.YtjmmojjjopjdpaaGreatDoor.ok

def SizesPost (w : World) (room : Int) (n : Nat) (e : Ending) (w' : World) : Prop := ∃ r : Int, e = .returned (.int .i64 r) ∧ -1 ≤ r ∧ r ≤ room ∧ (0 ≤ r → n ≤ 1048576) ∧ Below w.heap.size w w'

theorem size_le {room : Int} {s : ByteArray} (h0 : 0 ≤ room) : -1 ≤ (if room < (s.size : Int) then (-1 : Int) else room - s.size) ∧ (if room < (s.size : Int) then (-1 : Int) else room - s.size) ≤ room := by split <;> omega

set_option maxRecDepth 100000 in
set_option maxHeartbeats 1600000 in
theorem szN_any (w : World) (v : Value) (l : List Nt) (h : InR ntS w v l) (hz : ∀ x ∈ l, x.s.size ≤ maxLen) (room : Int) (h0 : 0 ≤ room) (h1 : room ≤ 1048576) :
    Calls Tryz.prog 87 #[v, .int .i64 room] w (SizesPost w room l.length) := by
  have HS := Lib.hid h
  obtain ⟨A, c, rfl, hm, _⟩ := h
  have hm' : l.length ≤ 9223372036854775807 := hm
  have HZ := Lib.hid hz
  clear hm hz
  by_cases hl : room < l.length
  · go_enter Tryz.func87, Tryz.ntmps87
    go_wp2
    go_ret
    exact ⟨_, rfl, by omega, by omega, by omega, Below.refl _ _⟩
  · go_enter Tryz.func87, Tryz.ntmps87
    go_wp2
    go_loopw [1, 5] (fun r i wr => ∃ (x : Int) (k : Nat), k ≤ l.length ∧ i = .int .i64 k ∧ r = .int .i64 x ∧ 0 ≤ x ∧ x ≤ room ∧ Below w.heap.size w wr) (fun _ i _ => (l.length + 1 : Nat) - (intOf i).toNat)
    case atStart => exact ⟨_, 0, by omega, rfl, rfl, by omega, by omega, Below.refl _ _⟩
    case round =>
      obtain ⟨x, k, hk, rfl, rfl, x0, x1, hB⟩ := hrel
      by_cases hkl : k < l.length
      · have hx : l[k]? = some l[k] := List.getElem?_eq_getElem hkl
        have hzm := HZ.out l[k] (List.getElem_mem hkl)
        obtain ⟨g, o, c', e, hg, _, hcell⟩ := (HS.out.later hB).at hx
        injection e with e1 e2 e3
        subst e1; subst e3
        have t0 : wr.cell? ⟨g, o + k * 5, none⟩ = some (.int .i64 l[k].f) := hcell 0 _ rfl
        have t1 : wr.cell? ⟨g, o + k * 5 + 1, none⟩ = some (.int .i64 l[k].n) := hcell 1 _ rfl
        have t2 : wr.cell? ⟨g, o + k * 5 + 2, none⟩ = some (.int .i64 l[k].t) := hcell 2 _ rfl
        have t3 : wr.cell? ⟨g, o + k * 5 + 3, none⟩ = some (.int .i64 l[k].u) := hcell 3 _ rfl
        have t4 : wr.cell? ⟨g, o + k * 5 + 4, none⟩ = some (.string l[k].s) := hcell 4 _ rfl
        generalize l[k] = y at hx hzm t0 t1 t2 t3 t4
        have hk1 : (k : Int) < (l.length : Int) := by omega
        clear hcell hx
        go_wp2_with fail
        refine (ok.sz_any y.f y.n y.t y.u y.s _ hzm x x0 (by omega)).mono ?_
        rintro e w2 ⟨rfl, hB2⟩
        obtain ⟨r0, r1⟩ := size_le (room := x) (s := y.s) x0
        generalize (if x < (y.s.size : Int) then (-1 : Int) else x - y.s.size) = r at r0 r1 ⊢
        have HB2 := Lib.hid (hB.trans (hB2.mono hB.size))
        clear hB hB2 t0 t1 t2 t3 t4
        by_cases hr : r < 0
        · go_wp2
          go_ret
          exact ⟨_, rfl, by omega, by omega, by omega, HB2.out⟩
        · go_wp2
          go_roundw
          case rel => exact ⟨r, k + 1, by omega, by go_num, rfl, by omega, by omega, HB2.out⟩
          case measure => simp [intOf]; omega
      · go_wp2
        go_ret
        exact ⟨_, rfl, by omega, by omega, by omega, hB⟩

end Go.Proofs.YtjmmojjjopjdpaaGreatDoor.kp

/-
  Contracts of the laws' own helpers: toMark, toNoteS, toMarkS.
-/
namespace Go.Proofs.YtjmmojjjopjdpaaGreatDoor.kp
open Go.ChangeShapes Go.WideShapes Go.ChangeAt Go.RowKit
open Go.Proofs.YtjmmojjjopjdpaaGreatDoor.wd Go.Proofs.YtjmmojjjopjdpaaGreatDoor.ow Go.Proofs.YtjmmojjjopjdpaaGreatDoor.rl Go.Proofs.YtjmmojjjopjdpaaGreatDoor.ok

def ListN (w : World) (l : List Nt) (e : Ending) (w' : World) : Prop := ∃ v, e = .returned v ∧ OwnR ntS 131 w w' v l
def ListM (w : World) (l : List Mk) (e : Ending) (w' : World) : Prop := ∃ v, e = .returned v ∧ OwnR mkS 164 w w' v l
def MarkPost (w : World) (f n u : Int) (e : Ending) (w' : World) : Prop := e = .returned (mark f n u) ∧ Below w.heap.size w w'

/-- what make gives: room for all -/
theorem fill_new {α : Type} {S : Shape α} {t : TypeId} {w w1 : World} {l : List α} {xs : List Value} (hown : w1.ownsRow w.heap.size t S.n (.slice (some ⟨w.heap.size, 0, none⟩) l.length l.length) l.length xs) (hgrow : w.grownBy w1 none) :
    Fill S t w.heap.size l.length l 0 w1 ∧ Below w.heap.size w w1 := by
  refine ⟨?_, hgrow.os, hgrow.tape, hgrow.output, hgrow.size, fun k hk => hgrow.block k hk (by simp)⟩
  rcases hown.2 with ⟨e, _⟩ | ⟨g, cap, cur, e, _, hh, _, _, hs, _⟩
  · cases e
  · injection e with e1 e2 e3
    injection e1 with e1
    injection e1 with e1
    subst e1
    exact ⟨cur, hh, by rw [hs, ← e3], fun i m hi => absurd hi (by omega)⟩

set_option maxRecDepth 100000 in
set_option maxHeartbeats 1600000 in
theorem toN_any (w : World) (v : Value) (l : List Nt) (h : InR ntS w v l) (hl : l.length ≤ 1048576) : Calls Tryz.prog 93 #[v] w (ListN w l) := by
  obtain ⟨i0, hi, hz0, hz1, hz2⟩ := info_parts infoNote
  have HS := Lib.hid h
  obtain ⟨A, c, rfl, _, _⟩ := h
  go_enter Tryz.func93, Tryz.ntmps93
  go_wp2_with (at_make; refine wpList_make_full _ rfl _ _ 26 rfl w.heap.size 131 i0 _ 5 Tryz.underlying26 hi hz0 hz1 _ _ _ _ l.length rfl rfl rfl rfl (by rw [hz2]; omega) (by unfold maxLen; omega) (Nat.le_refl _) ?_)
  intro w1 hown hgrow
  have HF := Lib.hid (fill_new (S := ntS) hown hgrow)
  clear hown hgrow
  go_wp2
  go_loopw [4] (fun i wr => ∃ k : Nat, k ≤ l.length ∧ i = .int .i64 k ∧ Fill ntS 131 w.heap.size l.length l k wr ∧ Below w.heap.size w wr) (fun i _ => (l.length + 1 : Nat) - (intOf i).toNat)
  case atStart => exact ⟨0, by omega, rfl, HF.out⟩
  case round =>
    obtain ⟨k, hk, rfl, hF, hB⟩ := hrel
    clear HF
    by_cases hkl : k < l.length
    · have hx : l[k]? = some l[k] := List.getElem?_eq_getElem hkl
      obtain ⟨g, o, c', e, hg, _, hcell⟩ := (HS.out.later hB).at hx
      injection e with e1 e2 e3
      subst e1; subst e3
      have t0 : wr.cell? ⟨g, o + k * 5, none⟩ = some (.int .i64 l[k].f) := hcell 0 _ rfl
      have t1 : wr.cell? ⟨g, o + k * 5 + 1, none⟩ = some (.int .i64 l[k].n) := hcell 1 _ rfl
      have t2 : wr.cell? ⟨g, o + k * 5 + 2, none⟩ = some (.int .i64 l[k].t) := hcell 2 _ rfl
      have t3 : wr.cell? ⟨g, o + k * 5 + 3, none⟩ = some (.int .i64 l[k].u) := hcell 3 _ rfl
      have t4 : wr.cell? ⟨g, o + k * 5 + 4, none⟩ = some (.string l[k].s) := hcell 4 _ rfl
      generalize l[k] = y at hx t0 t1 t2 t3 t4
      have hk1 : (k : Int) < (l.length : Int) := by omega
      clear hcell
      go_wp2_with fail
      refine (ok.to_any y.f y.n y.t y.u y.s _).mono ?_
      rintro e w2 ⟨rfl, hB2⟩
      have hF2 := hF.later hB2
      have hB22 := hB.trans (hB2.mono hB.size)
      obtain ⟨⟨x0, c0⟩, f0⟩ := hF2.cell hkl (j := 0) (by decide)
      obtain ⟨⟨x1, c1⟩, f1⟩ := hF2.cell hkl (j := 1) (by decide)
      obtain ⟨⟨x2, c2⟩, f2⟩ := hF2.cell hkl (j := 2) (by decide)
      obtain ⟨⟨x3, c3⟩, f3⟩ := hF2.cell hkl (j := 3) (by decide)
      obtain ⟨⟨x4, c4⟩, f4⟩ := hF2.cell hkl (j := 4) (by decide)
      change w2.cell? ⟨w.heap.size, k * 5, none⟩ = _ at c0
      change w2.frozen? ⟨w.heap.size, k * 5, none⟩ = _ at f0
      change w2.cell? ⟨w.heap.size, k * 5 + 1, none⟩ = _ at c1
      change w2.frozen? ⟨w.heap.size, k * 5 + 1, none⟩ = _ at f1
      change w2.cell? ⟨w.heap.size, k * 5 + 2, none⟩ = _ at c2
      change w2.frozen? ⟨w.heap.size, k * 5 + 2, none⟩ = _ at f2
      change w2.cell? ⟨w.heap.size, k * 5 + 3, none⟩ = _ at c3
      change w2.frozen? ⟨w.heap.size, k * 5 + 3, none⟩ = _ at f3
      change w2.cell? ⟨w.heap.size, k * 5 + 4, none⟩ = _ at c4
      change w2.frozen? ⟨w.heap.size, k * 5 + 4, none⟩ = _ at f4
      have R := Lib.hid (hF2.put hkl hx)
      have HB3 := Lib.hid (putAll_below (Nat.le_refl _) (ntF y) (k * 5) hB22)
      clear hF hB hB2 hF2 hB22 hx t0 t1 t2 t3 t4
      unfold note
      go_wp2
      go_roundw
      case rel => exact ⟨k + 1, by omega, by go_num, R.out, HB3.out⟩
      case measure => simp [intOf]; omega
    · obtain rfl : k = l.length := by omega
      have R := Lib.hid (hF.own (Nat.le_refl _) hB (by unfold maxLen; omega))
      clear hF hB
      go_wp2
      go_ret
      exact ⟨_, rfl, R.out⟩

end Go.Proofs.YtjmmojjjopjdpaaGreatDoor.kp

/-
  Contract of laws.eqNote at two messages that are the same.
-/
namespace Go.Proofs.YtjmmojjjopjdpaaGreatDoor.ok
open Go.ChangeShapes Go.WideShapes Go.ChangeAt Go.RowKit
open Go.Proofs.YtjmmojjjopjdpaaGreatDoor.nb

theorem eq_same (f n t u : Int) (s : ByteArray) (w : World) :
    Calls Tryz.prog 136 #[note f n t u s, note f n t u s] w (BoolPost w true) := by
  unfold note
  go_enter Tryz.func136, Tryz.ntmps136
  go_wp2
  go_ret
  exact ⟨rfl, ((Below.refl _ _).alloc (Nat.le_refl _) _).alloc (by simp) _⟩
end Go.Proofs.YtjmmojjjopjdpaaGreatDoor.ok

