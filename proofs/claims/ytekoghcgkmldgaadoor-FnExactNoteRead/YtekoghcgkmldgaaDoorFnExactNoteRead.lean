/-
  At every text the program's NoteRead answers as the specification's, so the law returns true; the condition of the row: the library's listed variables read as the program's text lays them (tied by the card).
-/
import Derived.Test.YtekoghcgkmldgaaDoorRows
import Derived.Test.YtekoghcgkmldgaaDoorCards
import Derived.Test.YtekoghcgkmldgaaDoorTie
import Derived.Test.YtekoghcgkmldgaaDoorLaid
import Derived.WalkKit
import Derived.ProofKit
import Derived.OpenShut
import Derived.ShutString
import Derived.ChangeOld
import Derived.Below
import Derived.LaidMore
import Derived.Stop.Joined
import Derived.SevenTiedAt
import Derived.Test.YtekoghcgkmldgaaDoorIRead
import Derived.Test.YtekoghcgkmldgaaDoorSRead
import Derived.Test.YtekoghcgkmldgaaDoorEqNote
namespace Go.Proofs.YtekoghcgkmldgaaDoor.fnExactNoteRead
open Go.ChangeShapes Go.WideShapes Go.ChangeAt Go.RowKit
open Go.ChangeMaps (open_string shut_string)
open Go.Proofs.YtekoghcgkmldgaaDoor.nb Go.Proofs.YtekoghcgkmldgaaDoor.ok Go.Proofs.YtekoghcgkmldgaaDoor.dc Go.Proofs.YtekoghcgkmldgaaDoor.wd
set_option linter.unusedVariables false

theorem own : ownKnob Tryd.prog.godebug = none := by kernel_rfl
theorem laidOut : laidOutB Tryd.prog = true := by kernel_rfl

set_option maxRecDepth 100000 in
set_option maxHeartbeats 4000000 in
theorem walk (s0 : ByteArray) (hs0 : s0.size ≤ maxLen) (w : World) (hTab : dc.Tab w) (hErr : dc.Errs w) :
    Calls Tryd.prog 6 #[.string s0] w fun e w' => e = .returned (.bool true) ∧ Below w.heap.size w w' := by
  by_cases hg : 1048576 < s0.size
  · have hg' : (1048576 : Int) < s0.size := by omega
    go_enter Tryd.func6, Tryd.ntmps6
    go_wp2_with fail
    go_ret
    exact ⟨rfl, Below.refl _ _⟩
  have hg' : ¬ (1048576 : Int) < s0.size := by omega
  unfold maxLen at hs0
  have HS := Lib.hid (fun W => sread_any s0 (by omega) W)
  have HI := Lib.hid (fun W h1 h2 => iread_any s0 (by omega) W h1 h2)
  go_enter Tryd.func6, Tryd.ntmps6
  go_wp2_with fail
  refine (HS.out _).mono ?_
  rintro e w1 ⟨b, f, n, t, u, s, rfl, hR1, hB1⟩
  have hN1 := Blk.new w1 24 #[.int .i64 f, .int .i64 n, .int .i64 t, .int .i64 u, .string s]
  have hB2 := hB1.alloc hB1.size (.cells #[.int .i64 f, .int .i64 n, .int .i64 t, .int .i64 u, .string s] 24)
  have HR1 := Lib.hid hR1
  clear hR1 hB1 HS
  unfold note
  go_wp2_with fail
  generalize w1.alloc (.cells #[.int .i64 f, .int .i64 n, .int .i64 t, .int .i64 u, .string s] 24) = W at hN1 hB2 ⊢
  refine (HI.out _ (hTab.later hB2) (hErr.later hB2)).mono ?_
  rintro e w3 ⟨b', f', n', t', u', s', rfl, hR2, hB3⟩
  obtain ⟨rfl, rfl, rfl, rfl, rfl, rfl⟩ := rd_one HR1.out hR2
  have hN3 := hN1.below hB3 hN1.lt
  have HB4 := Lib.hid (hB2.trans (hB3.mono hB2.size))
  obtain ⟨c0, c1, c2, c3, c4, hlt⟩ := five hN3
  clear hR2 HR1 hN1 hB2 hB3 hN3 HI hTab hErr
  unfold note
  go_wp2_with fail
  refine (eq_same f n t u s _).mono ?_
  rintro e w5 ⟨rfl, hB5⟩
  have HB6 := Lib.hid ((HB4.out.alloc HB4.out.size _).trans (hB5.mono (by have := HB4.out.size; simp; omega)))
  clear hB5 c0 c1 c2 c3 c4
  go_wp2
  go_ret
  exact ⟨rfl, HB6.out⟩

set_option maxRecDepth 100000 in
theorem lifted (os : Os) (started : os.Started) (H : Type) (enc : TypeId × Value → H) :
    ReturnsInHanded {} Tryd.checked os 6 .any (fun w args => (Rows.fnExactNoteReadSpec.pre enc Tryd.prog Tryd.f6 [] false w args ∧ laidMetH Tryd.prog dc.list5 w) ∧ sizedMet enc Tryd.prog Tryd.f6 (OpenSpec.ofChange Rows.fnExactNoteReadSpec) false w args)
      (Rows.fnExactNoteReadSpec.post enc Tryd.prog Tryd.f6 false true false false) := by
  refine returnsInHanded_of_change_and (C := Tryd.checked) (X := fun w _ => laidMetH Tryd.prog dc.list5 w) (fun _ _ _ hh h => h.of_heap hh) own started (by kernel_rfl) Tryd.func6
    (ChangeSpec.witness_shaped (enc := enc) (C := Tryd.checked) (os := os) (X := fun w _ => laidMetH Tryd.prog dc.list5 w) false (World.doorLaid Tryd.prog 400 os) #[.string ByteArray.empty] 8 rfl (World.shaped_of_RefB (by kernel_rfl) (by kernel_rfl)) (by kernel_rfl) (by kernel_rfl) (by kernel_rfl) (dc.met5 os _)) ?_
  intro W base args ds gs before hval0 hW _ _ hL _
  have hval : ∀ (j : Nat) t v, Tryd.f6.params[j]? = some t → args[j]? = some v → Value.okWide Tryd.prog W .any base t v := hval0
  have hW' := hW
  obtain ⟨p, q, hA0, hV, rfl, hfz, hnd⟩ := hW
  have hA : DataW.TrodAll enc Tryd.prog W 0 (fun _ => true) true Tryd.f6.params.toList args.toList ds p := hA0
  rw [Tryd.params6] at hA hval
  obtain ⟨v0, vs0, d0, ds0, p0, q0, hargs, rfl, rfl, h0, r0⟩ := trodAll_cons hA
  obtain ⟨rfl, rfl, rfl⟩ := trodAll_nil r0
  obtain rfl : args = #[v0] := by cases args; simp_all
  obtain ⟨rfl, rfl⟩ := trodVars_none hV
  have k0 := h0
  have lt0 : ∀ x ∈ p0, x.block < W.heap.size := by obtain ⟨m, hm⟩ := k0; exact DataW.trod_lt m _ _ _ hm
  obtain ⟨s0, rfl, rfl, rfl, hs0⟩ := open_string Tryd.underlying9 (hval 0 9 v0 rfl rfl) h0
  obtain ⟨hTab, hErr⟩ := dc.of_list5 hL
  clear hA0 hval0
  refine (walk s0 hs0 W hTab hErr).mono fun e W' ⟨he, bel⟩ => ?_
  subst he
  exact ⟨_, rfl, _, _, _, [], _, [], hW', trodAll_mk1 (shut_bool Tryd.underlying4 _), (trodAll_cons_mk (Below.trod laidOut (by kernel_rfl) (of_decide_eq_true (by kernel_rfl)) k0 bel lt0) trodAll_mk0), rfl, bel.frame _, fun h => by cases h⟩

theorem over : Rows.fnExactNoteReadRow.holds Tryd.pinned (OpenSpec.ofChange Rows.fnExactNoteReadSpec) :=
  OpenClaim.holds_of_wide 6 Tryd.f6 rfl rfl rfl rfl rfl rfl rfl ⟨rfl, rfl, rfl, rfl, rfl⟩ rfl rfl rfl rfl rfl (by kernel_rfl) Tryd.func6 (by kernel_rfl)
    (of_decide_eq_true (by kernel_rfl)) (by unfold Func.isWrapper; first | (rw [if_pos (by decide +kernel)]; kernel_rfl) | (rw [if_neg (by decide +kernel)]; exact ⟨rfl, rfl⟩))
    (fun os started H enc _ => lifted os started H enc)

theorem proved : Rows.FnExactNoteReadCardSaid :=
  Claim7.holds_tied_plain_at .later [] [.data, .data, .data, .sentinel, .sentinel] true (true, "1977cbb98dfcf1ce57a2f2fd5cc073bab8bee360acecf14334b659527fcfa9df") true
    over (fun _ h => by cases h) (by kernel_rfl) (fun _ h => by cases h) fnExactNoteRead_row_tie rfl ⟨rfl, rfl⟩ (by kernel_rfl) rfl
    (fun f fn hf hfn => by
      obtain rfl : f = 6 := Option.some.inj ((show Tryd.prog.funcNamed "loop.example/bargeman/laws.FnExactNoteRead" = some 6 by kernel_rfl).symm.trans hf) |>.symm
      obtain rfl : fn = Tryd.f6 := (Option.some.inj (Tryd.func6.symm.trans hfn)).symm
      exact ⟨by kernel_rfl, fun j t ht => by
        rw [Tryd.params6] at ht
        have hm : t ∈ [9] := by simpa using Array.mem_of_getElem? ht
        have hall : ([9].all fun u => !Tryd.prog.wantsStandIn u) = true := by kernel_rfl
        exact (show Tryd.prog.wantsStandIn t = false by simpa using List.all_eq_true.1 hall t hm)⟩)
    (by kernel_rfl)
#print axioms proved
end Go.Proofs.YtekoghcgkmldgaaDoor.fnExactNoteRead
