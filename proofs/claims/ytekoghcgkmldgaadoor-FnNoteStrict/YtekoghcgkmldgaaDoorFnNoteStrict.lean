/-
  At every drawn text NoteRead answers as the specification, and what it accepts is ok and is written as that text: the law returns true for every code; the condition of the row: the library's listed variables read as the program's text lays them (tied by the card).
-/
import Derived.Test.YtekoghcgkmldgaaDoorRows
import Derived.Test.YtekoghcgkmldgaaDoorCards
import Derived.Test.YtekoghcgkmldgaaDoorTie
import Derived.Test.YtekoghcgkmldgaaDoorLaid
import Derived.Test.YtekoghcgkmldgaaDoorDraw0
import Derived.WalkKit
import Derived.ProofKit
import Derived.OpenShut
import Derived.ShutString
import Derived.ChangeOld
import Derived.Below
import Derived.LaidMore
import Derived.Stop.Joined
import Derived.SevenTiedAt
import Derived.Test.YtekoghcgkmldgaaDoorIRead
import Derived.Test.YtekoghcgkmldgaaDoorSRead
import Derived.Test.YtekoghcgkmldgaaDoorDrawNR
namespace Go.Proofs.YtekoghcgkmldgaaDoor.fnNoteStrict
open Go.ChangeShapes Go.WideShapes Go.ChangeAt Go.RowKit
open Go.ChangeMaps (open_string shut_string)
open Go.Proofs.YtekoghcgkmldgaaDoor.nb Go.Proofs.YtekoghcgkmldgaaDoor.ok Go.Proofs.YtekoghcgkmldgaaDoor.dc Go.Proofs.YtekoghcgkmldgaaDoor.wd Go.Proofs.YtekoghcgkmldgaaDoor.dr
set_option linter.unusedVariables false

theorem own : ownKnob Tryd.prog.godebug = none := by kernel_rfl
theorem laidOut : laidOutB Tryd.prog = true := by kernel_rfl

set_option maxRecDepth 100000 in
set_option maxHeartbeats 4000000 in
theorem walk (a0 : Option Addr) (len0 cap0 : Nat) (w : World) (hb0 : wd.Bytes w w.heap.size a0 len0) (hl0 : len0 ≤ cap0) (hm0 : cap0 ≤ maxLen) (hTab : dc.Tab w) (hErr : dc.Errs w) :
    Calls Tryd.prog 4 #[.slice a0 len0 cap0] w fun e w' => e = .returned (.bool true) ∧ Below w.heap.size w w' := by
  have hm0' : cap0 ≤ 9223372036854775807 := hm0
  by_cases hg0 : 1048576 < len0
  · go_enter Tryd.func4, Tryd.ntmps4
    go_wp2
    go_ret
    exact ⟨rfl, Below.refl _ _⟩
  go_enter Tryd.func4, Tryd.ntmps4
  go_wp2_with fail
  refine (drawNoteRead _ _ _ _ hb0 hl0 hm0).mono ?_
  rintro e w1 ⟨x, rfl, hx, hB1⟩
  go_wp2_with fail
  refine (sread_any x (by omega) _).mono ?_
  rintro e w2 ⟨b, f, n, t, u, s, rfl, hR1, hB2⟩
  have hB3 := hB1.trans (hB2.mono hB1.size)
  have hN3 := Blk.new w2 24 #[.int .i64 f, .int .i64 n, .int .i64 t, .int .i64 u, .string s]
  have hB4 := hB3.alloc hB3.size (.cells #[.int .i64 f, .int .i64 n, .int .i64 t, .int .i64 u, .string s] 24)
  have HR1 := Lib.hid hR1
  clear hB1 hB2 hB3 hR1
  unfold note
  go_wp2_with fail
  generalize w2.alloc (.cells #[.int .i64 f, .int .i64 n, .int .i64 t, .int .i64 u, .string s] 24) = W at hN3 hB4 ⊢
  refine (iread_any x (by omega) _ (hTab.later hB4) (hErr.later hB4)).mono ?_
  rintro e w4 ⟨b', f', n', t', u', s', rfl, hR2, hB5⟩
  obtain ⟨rfl, rfl, rfl, rfl, rfl, rfl⟩ := rd_one HR1.out hR2
  have hN4 := hN3.below hB5 hN3.lt
  have hB6 := hB4.trans (hB5.mono hB4.size)
  obtain ⟨c0, c1, c2, c3, c4, hlt⟩ := five hN4
  have hM := Blk.new w4 24 #[.int .i64 f, .int .i64 n, .int .i64 t, .int .i64 u, .string s]
  have hB7 := hB6.alloc hB6.size (.cells #[.int .i64 f, .int .i64 n, .int .i64 t, .int .i64 u, .string s] 24)
  have hT := Lib.hid (hTab.later hB7)
  have HB7 := Lib.hid hB7
  clear hR2 hN3 hN4 hB4 hB5 hB6 hTab hErr
  rcases HR1.out with ⟨rfl, hok, rfl⟩ | ⟨rfl, rfl, rfl, rfl, rfl, rfl, _⟩
  · have hsm : s.size ≤ maxLen := by have := okN_parts hok; unfold maxLen; omega
    have HO := Lib.hid (fun V => (show Calls Tryd.prog 11 #[note f n t u s] V (BoolPost V true) by have := iok_any f n t u s V hsm; rwa [hok] at this))
    have HW := Lib.hid (fun V h => (show Calls Tryd.prog 10 #[note f n t u s] V (StrPost V (dc.wr f n t u s)) by have := iwrite_any f n t u s V hsm h; rwa [nw_t hok] at this))
    generalize dc.wr f n t u s = y at HW hx HR1 ⊢
    clear hok HR1
    unfold note
    go_wp2_with fail
    refine (HO.out _).mono ?_
    rintro e w5 ⟨rfl, hB8⟩
    have hM5 := hM.below hB8 hM.lt
    have HB9 := Lib.hid (HB7.out.trans (hB8.mono HB7.out.size))
    have hT5 := Lib.hid (hT.out.later hB8)
    obtain ⟨m0, m1, m2, m3, m4, _⟩ := five hM5
    clear hM hM5 hB8 HB7 hB7 hT c0 c1 c2 c3 c4
    go_wp2_with fail
    refine (HW.out _ hT5.out).mono ?_
    rintro e w6 ⟨rfl, hB10⟩
    have HB11 := Lib.hid (HB9.out.trans (hB10.mono HB9.out.size))
    clear hB10 m0 m1 m2 m3 m4 hT5 HB9
    go_wp2
    go_ret
    exact ⟨rfl, HB11.out⟩
  · clear HR1 hM hB7 hT
    unfold note
    go_wp2
    go_ret
    exact ⟨rfl, HB7.out⟩

set_option maxRecDepth 100000 in
theorem lifted (os : Os) (started : os.Started) (H : Type) (enc : TypeId × Value → H) :
    ReturnsInHanded {} Tryd.checked os 4 .any (fun w args => (Rows.fnNoteStrictSpec.pre enc Tryd.prog Tryd.f4 [] false w args ∧ laidMetH Tryd.prog dc.list5 w) ∧ sizedMet enc Tryd.prog Tryd.f4 (OpenSpec.ofChange Rows.fnNoteStrictSpec) false w args)
      (Rows.fnNoteStrictSpec.post enc Tryd.prog Tryd.f4 false true false false) := by
  refine returnsInHanded_of_change_and (C := Tryd.checked) (X := fun w _ => laidMetH Tryd.prog dc.list5 w) (fun _ _ _ hh h => h.of_heap hh) own started (by kernel_rfl) Tryd.func4
    (ChangeSpec.witness_shaped (enc := enc) (C := Tryd.checked) (os := os) (X := fun w _ => laidMetH Tryd.prog dc.list5 w) false (World.doorLaid Tryd.prog 400 os) #[.slice none 0 0] 8 rfl (World.shaped_of_RefB (by kernel_rfl) (by kernel_rfl)) (by kernel_rfl) (by kernel_rfl) (by kernel_rfl) (dc.met5 os _)) ?_
  intro W base args ds gs before hval0 hW _ _ hL _
  have hval : ∀ (j : Nat) t v, Tryd.f4.params[j]? = some t → args[j]? = some v → Value.okWide Tryd.prog W .any base t v := hval0
  have hW' := hW
  obtain ⟨p, q, hA0, hV, rfl, hfz, hnd⟩ := hW
  have hA : DataW.TrodAll enc Tryd.prog W 0 (fun _ => true) true Tryd.f4.params.toList args.toList ds p := hA0
  rw [Tryd.params4] at hA hval
  obtain ⟨v0, vs0, d0, ds0, p0, q0, hargs, rfl, rfl, h0, r0⟩ := trodAll_cons hA
  obtain ⟨rfl, rfl, rfl⟩ := trodAll_nil r0
  obtain rfl : args = #[v0] := by cases args; simp_all
  obtain ⟨rfl, rfl⟩ := trodVars_none hV
  have k0 := h0
  have lt0 : ∀ x ∈ p0, x.block < W.heap.size := by obtain ⟨m, hm⟩ := k0; exact DataW.trod_lt m _ _ _ hm
  obtain ⟨a0, len0, cap0, rfl⟩ := okWide_slice Tryd.underlying22 (hval 0 22 v0 rfl rfl)
  obtain ⟨hb0, hl0, hm0⟩ : wd.Bytes W W.heap.size a0 len0 ∧ len0 ≤ cap0 ∧ cap0 ≤ maxLen := by
    obtain ⟨fuel, hf⟩ := h0
    rcases open_ints Tryd.underlying22 Tryd.underlying5 (by kernel_rfl) hf with ⟨hcs, _⟩ | ⟨x, l, c, zs, hcs, _, hl, hm, hz, _, hcell, hwz⟩
    · simp [Value.cells] at hcs
      obtain ⟨rfl, rfl, rfl⟩ := hcs
      exact dr.bytes_of_row (zs := []) (.inl ⟨rfl, rfl, rfl, rfl⟩)
    · simp [Value.cells] at hcs
      obtain ⟨rfl, rfl, rfl⟩ := hcs
      exact dr.bytes_of_row (.inr ⟨_, rfl, hl, hm, by simpa using hz, hcell, hwz⟩)
  obtain ⟨hTab, hErr⟩ := dc.of_list5 hL
  clear hA0 hval0
  refine (walk a0 len0 cap0 W hb0 hl0 hm0 hTab hErr).mono fun e W' ⟨he, bel⟩ => ?_
  subst he
  exact ⟨_, rfl, _, _, _, [], _, [], hW', trodAll_mk1 (shut_bool Tryd.underlying4 _), (trodAll_cons_mk (Below.trod laidOut (by kernel_rfl) (of_decide_eq_true (by kernel_rfl)) k0 bel lt0) trodAll_mk0), rfl, bel.frame _, fun h => by cases h⟩

theorem over : Rows.fnNoteStrictRow.holds Tryd.pinned (OpenSpec.ofChange Rows.fnNoteStrictSpec) :=
  OpenClaim.holds_of_wide 4 Tryd.f4 rfl rfl rfl rfl rfl rfl rfl ⟨rfl, rfl, rfl, rfl, rfl⟩ rfl rfl rfl rfl rfl (by kernel_rfl) Tryd.func4 (by kernel_rfl)
    (of_decide_eq_true (by kernel_rfl)) (by unfold Func.isWrapper; first | (rw [if_pos (by decide +kernel)]; kernel_rfl) | (rw [if_neg (by decide +kernel)]; exact ⟨rfl, rfl⟩))
    (fun os started H enc _ => lifted os started H enc)

theorem proved : Rows.FnNoteStrictCardSaid :=
  Claim7.holds_tied_plain_at .later [] [.data, .data, .data, .sentinel, .sentinel] true (true, "1977cbb98dfcf1ce57a2f2fd5cc073bab8bee360acecf14334b659527fcfa9df") true
    over (fun _ h => by cases h) (by kernel_rfl) (fun _ h => by cases h) fnNoteStrict_row_tie rfl ⟨rfl, rfl⟩ (by kernel_rfl) rfl
    (fun f fn hf hfn => by
      obtain rfl : f = 4 := Option.some.inj ((show Tryd.prog.funcNamed "loop.example/bargeman/laws.FnNoteStrict" = some 4 by kernel_rfl).symm.trans hf) |>.symm
      obtain rfl : fn = Tryd.f4 := (Option.some.inj (Tryd.func4.symm.trans hfn)).symm
      exact ⟨by kernel_rfl, fun j t ht => by
        rw [Tryd.params4] at ht
        have hm : t ∈ [22] := by simpa using Array.mem_of_getElem? ht
        have hall : ([22].all fun u => !Tryd.prog.wantsStandIn u) = true := by kernel_rfl
        exact (show Tryd.prog.wantsStandIn t = false by simpa using List.all_eq_true.1 hall t hm)⟩)
    (by kernel_rfl)
#print axioms proved
end Go.Proofs.YtekoghcgkmldgaaDoor.fnNoteStrict
