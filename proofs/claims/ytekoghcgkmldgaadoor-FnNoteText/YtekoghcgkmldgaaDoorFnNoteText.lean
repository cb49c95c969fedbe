/-
  At every drawn message NoteWrite and NoteOk answer as the specification, and what is written is read back as that message: the law returns true for every code; the condition of the row: the library's listed variables read as the program's text lays them (tied by the card).
-/
import Derived.Test.YtekoghcgkmldgaaDoorRows
import Derived.Test.YtekoghcgkmldgaaDoorCards
import Derived.Test.YtekoghcgkmldgaaDoorTie
import Derived.Test.YtekoghcgkmldgaaDoorLaid
import Derived.Test.YtekoghcgkmldgaaDoorDraw0
import Derived.WalkKit
import Derived.ProofKit
import Derived.OpenShut
import Derived.ShutString
import Derived.ChangeOld
import Derived.Below
import Derived.LaidMore
import Derived.Stop.Joined
import Derived.SevenTiedAt
import Derived.Test.YtekoghcgkmldgaaDoorIRead
import Derived.Test.YtekoghcgkmldgaaDoorSRead
import Derived.Test.YtekoghcgkmldgaaDoorDrawNW
namespace Go.Proofs.YtekoghcgkmldgaaDoor.fnNoteText
open Go.ChangeShapes Go.WideShapes Go.ChangeAt Go.RowKit
open Go.ChangeMaps (open_string shut_string)
open Go.Proofs.YtekoghcgkmldgaaDoor.nb Go.Proofs.YtekoghcgkmldgaaDoor.ok Go.Proofs.YtekoghcgkmldgaaDoor.dc Go.Proofs.YtekoghcgkmldgaaDoor.wd Go.Proofs.YtekoghcgkmldgaaDoor.dr
set_option linter.unusedVariables false

theorem own : ownKnob Tryd.prog.godebug = none := by kernel_rfl
theorem laidOut : laidOutB Tryd.prog = true := by kernel_rfl

set_option maxRecDepth 100000 in
set_option maxHeartbeats 4000000 in
theorem walk (a0 : Option Addr) (len0 cap0 : Nat) (w : World) (hb0 : wd.Bytes w w.heap.size a0 len0) (hl0 : len0 ≤ cap0) (hm0 : cap0 ≤ maxLen) (hTab : dc.Tab w) (hErr : dc.Errs w) :
    Calls Tryd.prog 3 #[.slice a0 len0 cap0] w fun e w' => e = .returned (.bool true) ∧ Below w.heap.size w w' := by
  have hm0' : cap0 ≤ 9223372036854775807 := hm0
  by_cases hg0 : 1048576 < len0
  · go_enter Tryd.func3, Tryd.ntmps3
    go_wp2
    go_ret
    exact ⟨rfl, Below.refl _ _⟩
  go_enter Tryd.func3, Tryd.ntmps3
  go_wp2_with fail
  refine (drawNoteWrite _ _ _ _ hb0 hl0 hm0).mono ?_
  rintro e w1 ⟨f, n, t, u, s, rfl, hs, hB1⟩
  have hN1 := Blk.new w1 24 #[.int .i64 f, .int .i64 n, .int .i64 t, .int .i64 u, .string s]
  have hB2 := hB1.alloc hB1.size (.cells #[.int .i64 f, .int .i64 n, .int .i64 t, .int .i64 u, .string s] 24)
  have hsm : s.size ≤ maxLen := by unfold maxLen; omega
  clear hB1
  unfold note
  go_wp2_with fail
  generalize w1.alloc (.cells #[.int .i64 f, .int .i64 n, .int .i64 t, .int .i64 u, .string s] 24) = W at hN1 hB2 ⊢
  refine (swrite_any f n t u s _ hsm).mono ?_
  rintro e w2 ⟨rfl, hB3⟩
  have hN2 := hN1.below hB3 hN1.lt
  have hB4 := hB2.trans (hB3.mono hB2.size)
  obtain ⟨c0, c1, c2, c3, c4, _⟩ := five hN2
  clear hN1 hB2 hB3
  go_wp2_with fail
  refine (sok_any f n t u s _ hsm).mono ?_
  rintro e w3 ⟨rfl, hB5⟩
  clear c0 c1 c2 c3 c4
  have hN3 := hN2.below hB5 hN2.lt
  have hB6 := hB4.trans (hB5.mono hB4.size)
  obtain ⟨c0, c1, c2, c3, c4, _⟩ := five hN3
  clear hN2 hB4 hB5
  go_wp2_with fail
  refine (iwrite_any f n t u s _ hsm (hTab.later hB6)).mono ?_
  rintro e w4 ⟨rfl, hB7⟩
  clear c0 c1 c2 c3 c4
  have hN4 := hN3.below hB7 hN3.lt
  have hB8 := hB6.trans (hB7.mono hB6.size)
  obtain ⟨c0, c1, c2, c3, c4, _⟩ := five hN4
  clear hN3 hB6 hB7
  go_wp2_with fail
  refine (iok_any f n t u s _ hsm).mono ?_
  rintro e w5 ⟨rfl, hB9⟩
  clear c0 c1 c2 c3 c4
  have hN5 := hN4.below hB9 hN4.lt
  have hB10 := hB8.trans (hB9.mono hB8.size)
  have HB10 := Lib.hid hB10
  have hT := Lib.hid (hTab.later hB10)
  have hE := Lib.hid (hErr.later hB10)
  clear hN4 hB8 hB9 hB10 hTab hErr
  cases hok : okN f n t u s with
  | false =>
    rw [nw_f hok]
    clear hN5
    unfold str
    go_wp2
    go_ret
    exact ⟨rfl, HB10.out⟩
  | true =>
    rw [nw_t hok]
    have hwz : (dc.wr f n t u s).size ≤ 1048576 := by
      obtain ⟨⟨_, _⟩, ⟨_, _⟩, ⟨_, _⟩, ⟨_, _⟩, _, _⟩ := okN_parts hok
      have a1 := dl_len (n := f) (by omega)
      have a2 := dl_len (n := n) (by omega)
      have a3 := dl_len (n := t) (by omega)
      have a4 := dl_len (n := u) (by omega)
      have a5 := Lib.size_eq s
      unfold dc.wr
      rw [str_size]
      unfold wl
      simp only [List.length_append, List.length_cons]
      omega
    have HRd := Lib.hid (fun V h1 h2 => iread_any (dc.wr f n t u s) hwz V h1 h2)
    have HRD := Lib.hid (show RD (dc.wr f n t u s) true f n t u s from .inl ⟨rfl, hok, rfl⟩)
    generalize dc.wr f n t u s = x at HRd HRD ⊢
    clear hok hwz
    go_wp2_with fail
    refine (HRd.out _ hT.out hE.out).mono ?_
    rintro e w6 ⟨b', f', n', t', u', s', rfl, hR2, hB11⟩
    obtain ⟨rfl, rfl, rfl, rfl, rfl, rfl⟩ := rd_one HRD.out hR2
    have hN6 := hN5.below hB11 hN5.lt
    have HB12 := Lib.hid (HB10.out.trans (hB11.mono HB10.out.size))
    obtain ⟨c0, c1, c2, c3, c4, _⟩ := five hN6
    clear hN5 hN6 hB11 hR2 HRD HRd HB10 hT hE
    unfold note
    go_wp2
    go_ret
    exact ⟨rfl, HB12.out.alloc HB12.out.size _⟩

set_option maxRecDepth 100000 in
theorem lifted (os : Os) (started : os.Started) (H : Type) (enc : TypeId × Value → H) :
    ReturnsInHanded {} Tryd.checked os 3 .any (fun w args => (Rows.fnNoteTextSpec.pre enc Tryd.prog Tryd.f3 [] false w args ∧ laidMetH Tryd.prog dc.list5 w) ∧ sizedMet enc Tryd.prog Tryd.f3 (OpenSpec.ofChange Rows.fnNoteTextSpec) false w args)
      (Rows.fnNoteTextSpec.post enc Tryd.prog Tryd.f3 false true false false) := by
  refine returnsInHanded_of_change_and (C := Tryd.checked) (X := fun w _ => laidMetH Tryd.prog dc.list5 w) (fun _ _ _ hh h => h.of_heap hh) own started (by kernel_rfl) Tryd.func3
    (ChangeSpec.witness_shaped (enc := enc) (C := Tryd.checked) (os := os) (X := fun w _ => laidMetH Tryd.prog dc.list5 w) false (World.doorLaid Tryd.prog 400 os) #[.slice none 0 0] 8 rfl (World.shaped_of_RefB (by kernel_rfl) (by kernel_rfl)) (by kernel_rfl) (by kernel_rfl) (by kernel_rfl) (dc.met5 os _)) ?_
  intro W base args ds gs before hval0 hW _ _ hL _
  have hval : ∀ (j : Nat) t v, Tryd.f3.params[j]? = some t → args[j]? = some v → Value.okWide Tryd.prog W .any base t v := hval0
  have hW' := hW
  obtain ⟨p, q, hA0, hV, rfl, hfz, hnd⟩ := hW
  have hA : DataW.TrodAll enc Tryd.prog W 0 (fun _ => true) true Tryd.f3.params.toList args.toList ds p := hA0
  rw [Tryd.params3] at hA hval
  obtain ⟨v0, vs0, d0, ds0, p0, q0, hargs, rfl, rfl, h0, r0⟩ := trodAll_cons hA
  obtain ⟨rfl, rfl, rfl⟩ := trodAll_nil r0
  obtain rfl : args = #[v0] := by cases args; simp_all
  obtain ⟨rfl, rfl⟩ := trodVars_none hV
  have k0 := h0
  have lt0 : ∀ x ∈ p0, x.block < W.heap.size := by obtain ⟨m, hm⟩ := k0; exact DataW.trod_lt m _ _ _ hm
  obtain ⟨a0, len0, cap0, rfl⟩ := okWide_slice Tryd.underlying22 (hval 0 22 v0 rfl rfl)
  obtain ⟨hb0, hl0, hm0⟩ : wd.Bytes W W.heap.size a0 len0 ∧ len0 ≤ cap0 ∧ cap0 ≤ maxLen := by
    obtain ⟨fuel, hf⟩ := h0
    rcases open_ints Tryd.underlying22 Tryd.underlying5 (by kernel_rfl) hf with ⟨hcs, _⟩ | ⟨x, l, c, zs, hcs, _, hl, hm, hz, _, hcell, hwz⟩
    · simp [Value.cells] at hcs
      obtain ⟨rfl, rfl, rfl⟩ := hcs
      exact dr.bytes_of_row (zs := []) (.inl ⟨rfl, rfl, rfl, rfl⟩)
    · simp [Value.cells] at hcs
      obtain ⟨rfl, rfl, rfl⟩ := hcs
      exact dr.bytes_of_row (.inr ⟨_, rfl, hl, hm, by simpa using hz, hcell, hwz⟩)
  obtain ⟨hTab, hErr⟩ := dc.of_list5 hL
  clear hA0 hval0
  refine (walk a0 len0 cap0 W hb0 hl0 hm0 hTab hErr).mono fun e W' ⟨he, bel⟩ => ?_
  subst he
  exact ⟨_, rfl, _, _, _, [], _, [], hW', trodAll_mk1 (shut_bool Tryd.underlying4 _), (trodAll_cons_mk (Below.trod laidOut (by kernel_rfl) (of_decide_eq_true (by kernel_rfl)) k0 bel lt0) trodAll_mk0), rfl, bel.frame _, fun h => by cases h⟩

theorem over : Rows.fnNoteTextRow.holds Tryd.pinned (OpenSpec.ofChange Rows.fnNoteTextSpec) :=
  OpenClaim.holds_of_wide 3 Tryd.f3 rfl rfl rfl rfl rfl rfl rfl ⟨rfl, rfl, rfl, rfl, rfl⟩ rfl rfl rfl rfl rfl (by kernel_rfl) Tryd.func3 (by kernel_rfl)
    (of_decide_eq_true (by kernel_rfl)) (by unfold Func.isWrapper; first | (rw [if_pos (by decide +kernel)]; kernel_rfl) | (rw [if_neg (by decide +kernel)]; exact ⟨rfl, rfl⟩))
    (fun os started H enc _ => lifted os started H enc)

theorem proved : Rows.FnNoteTextCardSaid :=
  Claim7.holds_tied_plain_at .later [] [.data, .data, .data, .sentinel, .sentinel] true (true, "1977cbb98dfcf1ce57a2f2fd5cc073bab8bee360acecf14334b659527fcfa9df") true
    over (fun _ h => by cases h) (by kernel_rfl) (fun _ h => by cases h) fnNoteText_row_tie rfl ⟨rfl, rfl⟩ (by kernel_rfl) rfl
    (fun f fn hf hfn => by
      obtain rfl : f = 3 := Option.some.inj ((show Tryd.prog.funcNamed "loop.example/bargeman/laws.FnNoteText" = some 3 by kernel_rfl).symm.trans hf) |>.symm
      obtain rfl : fn = Tryd.f3 := (Option.some.inj (Tryd.func3.symm.trans hfn)).symm
      exact ⟨by kernel_rfl, fun j t ht => by
        rw [Tryd.params3] at ht
        have hm : t ∈ [22] := by simpa using Array.mem_of_getElem? ht
        have hall : ([22].all fun u => !Tryd.prog.wantsStandIn u) = true := by kernel_rfl
        exact (show Tryd.prog.wantsStandIn t = false by simpa using List.all_eq_true.1 hall t hm)⟩)
    (by kernel_rfl)
#print axioms proved
end Go.Proofs.YtekoghcgkmldgaaDoor.fnNoteText
