/-
  At every message the program's NoteWrite answers as the specification's, so the law returns true; the condition of the row: math/bits' and strconv's tables read as the program's text lays them (tied by the card).
-/
import Derived.Test.YtekoghcgkmldgaaDoorRows
import Derived.Test.YtekoghcgkmldgaaDoorCards
import Derived.Test.YtekoghcgkmldgaaDoorTie
import Derived.Test.YtekoghcgkmldgaaDoorLaid
import Derived.Test.YtekoghcgkmldgaaDoorNoteIn
import Derived.WalkKit
import Derived.ProofKit
import Derived.OpenShut
import Derived.ShutString
import Derived.ChangeOld
import Derived.Below
import Derived.LaidMore
import Derived.Stop.Joined
import Derived.SevenTiedAt
import Derived.Test.YtekoghcgkmldgaaDoorIWrite
import Derived.Test.YtekoghcgkmldgaaDoorSWrite
namespace Go.Proofs.YtekoghcgkmldgaaDoor.fnExactNoteWrite
open Go.ChangeShapes Go.WideShapes Go.ChangeAt Go.RowKit
open Go.ChangeMaps (open_string shut_string)
open Go.Proofs.YtekoghcgkmldgaaDoor.nb Go.Proofs.YtekoghcgkmldgaaDoor.ok Go.Proofs.YtekoghcgkmldgaaDoor.dc
set_option linter.unusedVariables false

theorem own : ownKnob Tryd.prog.godebug = none := by kernel_rfl
theorem laidOut : laidOutB Tryd.prog = true := by kernel_rfl

theorem walk (f0 n0 t0 u0 : Int) (s0 : ByteArray) (hs0 : s0.size ≤ maxLen) (w : World) (hTab : dc.Tab w) :
    Calls Tryd.prog 5 #[ok.note f0 n0 t0 u0 s0] w fun e w' => e = .returned (.bool true) ∧ Below w.heap.size w w' := by
  by_cases hg : 1048576 < s0.size
  · go_enter Tryd.func5, Tryd.ntmps5
    unfold note
    go_wp2_with fail
    refine (sz_any f0 n0 t0 u0 s0 _ hs0 _ (by omega) (by omega)).mono ?_
    rintro e w1 ⟨rfl, hB1⟩
    rw [if_pos (by omega)]
    have HB1 := Lib.hid (((Below.refl w.heap.size w).alloc (Nat.le_refl _) _).trans (hB1.mono (by simp)))
    clear hB1
    go_wp2
    go_ret
    exact ⟨rfl, HB1.out⟩
  have hz := (wd.Blk.new w 32 #[.int .i64 f0, .int .i64 n0, .int .i64 t0, .int .i64 u0, .string s0])
  have hB0 : Below w.heap.size w (w.alloc (.cells #[.int .i64 f0, .int .i64 n0, .int .i64 t0, .int .i64 u0, .string s0] 32)) := (Below.refl w.heap.size w).alloc (Nat.le_refl _) _
  have hpos : ¬ (1048576 : Int) - s0.size < 0 := by omega
  unfold note
  go_enter Tryd.func5, Tryd.ntmps5
  go_wp2_with fail
  generalize w.alloc (.cells #[.int .i64 f0, .int .i64 n0, .int .i64 t0, .int .i64 u0, .string s0] 32) = W at hz hB0 ⊢
  refine (sz_any f0 n0 t0 u0 s0 _ hs0 _ (by omega) (by omega)).mono ?_
  rintro e w1 ⟨rfl, hB1⟩
  rw [if_neg (by omega)]
  obtain ⟨c0, c1, c2, c3, c4, hlt⟩ := five (hz.below hB1 hz.lt)
  have hN1 := Lib.hid (hz.below hB1 hz.lt)
  have hB2 := hB0.trans (hB1.mono hB0.size)
  clear hB1 hB0 hz
  go_wp2_with fail
  refine (to_any f0 n0 t0 u0 s0 _).mono ?_
  rintro e w2 ⟨rfl, hB3⟩
  clear c0 c1 c2 c3 c4
  go_wp2_with fail
  refine (swrite_any f0 n0 t0 u0 s0 _ hs0).mono ?_
  rintro e w3 ⟨rfl, hB4⟩
  have hB5 := hB3.trans (hB4.mono hB3.size)
  obtain ⟨c0, c1, c2, c3, c4, hlt3⟩ := five (hN1.out.below hB5 hlt)
  have hB6 := hB2.trans (hB5.mono hB2.size)
  clear hB3 hB4 hB5 hB2 hN1
  go_wp2_with fail
  refine (to_any f0 n0 t0 u0 s0 _).mono ?_
  rintro e w4 ⟨rfl, hB7⟩
  clear c0 c1 c2 c3 c4
  have hT := hTab.later (hB6.trans (hB7.mono hB6.size))
  go_wp2_with fail
  refine (iwrite_any f0 n0 t0 u0 s0 _ hs0 hT).mono ?_
  rintro e w5 ⟨rfl, hB8⟩
  have HB9 := Lib.hid (hB6.trans ((hB7.trans (hB8.mono hB7.size)).mono hB6.size))
  clear hB6 hB7 hB8 hT hTab
  generalize nw f0 n0 t0 u0 s0 = x
  go_wp2
  go_ret
  exact ⟨rfl, HB9.out⟩

set_option maxRecDepth 100000 in
theorem lifted (os : Os) (started : os.Started) (H : Type) (enc : TypeId × Value → H) :
    ReturnsInHanded {} Tryd.checked os 5 .any (fun w args => (Rows.fnExactNoteWriteSpec.pre enc Tryd.prog Tryd.f5 [] false w args ∧ laidMetH Tryd.prog dc.list3 w) ∧ sizedMet enc Tryd.prog Tryd.f5 (OpenSpec.ofChange Rows.fnExactNoteWriteSpec) false w args)
      (Rows.fnExactNoteWriteSpec.post enc Tryd.prog Tryd.f5 false true false false) := by
  refine returnsInHanded_of_change_and (C := Tryd.checked) (X := fun w _ => laidMetH Tryd.prog dc.list3 w) (fun _ _ _ hh h => h.of_heap hh) own started (by kernel_rfl) Tryd.func5
    (ChangeSpec.witness_shaped (enc := enc) (C := Tryd.checked) (os := os) (X := fun w _ => laidMetH Tryd.prog dc.list3 w) false (World.doorLaid Tryd.prog 400 os) #[ok.note 0 0 0 0 ByteArray.empty] 8 rfl (World.shaped_of_RefB (by kernel_rfl) (by kernel_rfl)) (by kernel_rfl) (by kernel_rfl) (by kernel_rfl) (dc.met3 os _)) ?_
  intro W base args ds gs before hval0 hW _ _ hL _
  have hval : ∀ (j : Nat) t v, Tryd.f5.params[j]? = some t → args[j]? = some v → Value.okWide Tryd.prog W .any base t v := hval0
  have hW' := hW
  obtain ⟨p, q, hA0, hV, rfl, hfz, hnd⟩ := hW
  have hA : DataW.TrodAll enc Tryd.prog W 0 (fun _ => true) true Tryd.f5.params.toList args.toList ds p := hA0
  rw [Tryd.params5] at hA hval
  obtain ⟨v0, vs0, d0, ds0, p0, q0, hargs, rfl, rfl, h0, r0⟩ := trodAll_cons hA
  obtain ⟨rfl, rfl, rfl⟩ := trodAll_nil r0
  obtain rfl : args = #[v0] := by cases args; simp_all
  obtain ⟨rfl, rfl⟩ := trodVars_none hV
  have k0 := h0
  have lt0 : ∀ x ∈ p0, x.block < W.heap.size := by obtain ⟨m, hm⟩ := k0; exact DataW.trod_lt m _ _ _ hm
  obtain ⟨f0, n0, t0, u0, s0, rfl, hs0⟩ := ok.note_in (hval 0 32 v0 rfl rfl) h0
  have hTab := dc.of_list3 hL
  clear hA0 hval0
  refine (walk f0 n0 t0 u0 s0 hs0 W hTab).mono fun e W' ⟨he, bel⟩ => ?_
  subst he
  exact ⟨_, rfl, _, _, _, [], _, [], hW', trodAll_mk1 (shut_bool Tryd.underlying4 _), (trodAll_cons_mk (Below.trod laidOut (by kernel_rfl) (of_decide_eq_true (by kernel_rfl)) k0 bel lt0) trodAll_mk0), rfl, bel.frame _, fun h => by cases h⟩

theorem over : Rows.fnExactNoteWriteRow.holds Tryd.pinned (OpenSpec.ofChange Rows.fnExactNoteWriteSpec) :=
  OpenClaim.holds_of_wide 5 Tryd.f5 rfl rfl rfl rfl rfl rfl rfl ⟨rfl, rfl, rfl, rfl, rfl⟩ rfl rfl rfl rfl rfl (by kernel_rfl) Tryd.func5 (by kernel_rfl)
    (of_decide_eq_true (by kernel_rfl)) (by unfold Func.isWrapper; first | (rw [if_pos (by decide +kernel)]; kernel_rfl) | (rw [if_neg (by decide +kernel)]; exact ⟨rfl, rfl⟩))
    (fun os started H enc _ => lifted os started H enc)

theorem proved : Rows.FnExactNoteWriteCardSaid :=
  Claim7.holds_tied_plain_at .later [] [.data, .data, .data] true (true, "1977cbb98dfcf1ce57a2f2fd5cc073bab8bee360acecf14334b659527fcfa9df") true
    over (fun _ h => by cases h) (by kernel_rfl) (fun _ h => by cases h) fnExactNoteWrite_row_tie rfl ⟨rfl, rfl⟩ (by kernel_rfl) rfl
    (fun f fn hf hfn => by
      obtain rfl : f = 5 := Option.some.inj ((show Tryd.prog.funcNamed "loop.example/bargeman/laws.FnExactNoteWrite" = some 5 by kernel_rfl).symm.trans hf) |>.symm
      obtain rfl : fn = Tryd.f5 := (Option.some.inj (Tryd.func5.symm.trans hfn)).symm
      exact ⟨by kernel_rfl, fun j t ht => by
        rw [Tryd.params5] at ht
        have hm : t ∈ [32] := by simpa using Array.mem_of_getElem? ht
        have hall : ([32].all fun u => !Tryd.prog.wantsStandIn u) = true := by kernel_rfl
        exact (show Tryd.prog.wantsStandIn t = false by simpa using List.all_eq_true.1 hall t hm)⟩)
    (by kernel_rfl)
#print axioms proved
end Go.Proofs.YtekoghcgkmldgaaDoor.fnExactNoteWrite
