/-
  At every list of bytes the program's FrameUnpack answers as the specification's and leaves its argument as it was: the law returns true; the condition of the row: the program's three errors of frames read as the program's text lays them (tied by the card).
-/
import Derived.Test.YtgihbilpimempaaDoorRows
import Derived.Test.YtgihbilpimempaaDoorCards
import Derived.Test.YtgihbilpimempaaDoorTie
import Derived.Test.YtgihbilpimempaaDoorLaidF
import Derived.Test.YtgihbilpimempaaDoorDraw0
import Derived.WalkKit
import Derived.ProofKit
import Derived.OpenShut
import Derived.ShutString
import Derived.ChangeOld
import Derived.Below
import Derived.LaidMore
import Derived.Stop.Joined
import Derived.SevenTiedAt
import Derived.OpenVars
import Derived.Test.YtgihbilpimempaaDoorFrUn4
import Derived.Test.YtgihbilpimempaaDoorSUn
import Derived.Test.YtgihbilpimempaaDoorEqF
namespace Go.Proofs.YtgihbilpimempaaDoor.fnExactFrameUnpack
open Go.ChangeShapes Go.WideShapes Go.ChangeAt Go.RowKit
open Go.ChangeMaps (open_string shut_string)
open Go.Proofs.YtgihbilpimempaaDoor.nb Go.Proofs.YtgihbilpimempaaDoor.fr Go.Proofs.YtgihbilpimempaaDoor.wd Go.Proofs.YtgihbilpimempaaDoor.dr Go.Proofs.YtgihbilpimempaaDoor.ow Go.Proofs.YtgihbilpimempaaDoor.cp
set_option linter.unusedVariables false

theorem own : ownKnob Tryd.prog.godebug = none := by kernel_rfl
theorem laidOut : laidOutB Tryd.prog = true := by kernel_rfl

set_option maxRecDepth 100000 in
set_option maxHeartbeats 4000000 in
theorem walk (a0 : Option Addr) (len0 cap0 : Nat) (w : World) (hb0 : wd.Bytes w w.heap.size a0 len0) (hl0 : len0 ≤ cap0) (hm0 : cap0 ≤ maxLen) (hE : fr.FErr w.heap.size w) :
    Calls Tryd.prog 7 #[.slice a0 len0 cap0] w fun e w' => e = .returned (.bool true) ∧ Below w.heap.size w w' := by
  have hm0' : cap0 ≤ 9223372036854775807 := hm0
  by_cases hg0 : 1048576 < len0
  · have hg0' : (1048576 : Int) < len0 := by omega
    go_enter Tryd.func7, Tryd.ntmps7
    go_wp2
    go_ret
    exact ⟨rfl, Below.refl _ _⟩
  have hg0' : ¬ (1048576 : Int) < len0 := by omega
  obtain ⟨l, rfl, hR⟩ := bytes_row hb0
  have hl : l.length ≤ 1048576 := by omega
  have HE := Lib.hid hE
  have HR := Lib.hid hR
  have HTo := Lib.hid (toB_any w a0 cap0 l hR hl)
  clear hb0 hE hR
  go_enter Tryd.func7, Tryd.ntmps7
  go_wp2_with fail
  refine HTo.out.mono ?_
  rintro e w1 ⟨A1, p1, rfl, hR1, hO1⟩
  have HB1 := Lib.hid hO1.2
  have HS1 := Lib.hid (sunp_any w1 A1 p1 l hR1 hl (own_fits hO1).1 (own_fits hO1).2)
  clear hR1 hO1 HTo
  go_wp2_with fail
  refine HS1.out.mono ?_
  rintro e w2 ⟨rfl, hB2⟩
  have hB12 := HB1.out.trans (hB2.mono HB1.out.size)
  have HN2 := Lib.hid (Blk.new w2 24 (fcs (unp l)))
  have HB2 := Lib.hid (hB12.alloc hB12.size (.cells (fcs (unp l)) 24))
  have HQ := Lib.hid (fun V => eqF_same (unp l) V)
  have HU := Lib.hid (fun V A c (hr : RowB V A l) (hE : FErr V.heap.size V) hlc hc => iunp_any V A c l hr hE hl hlc hc)
  clear hB2 hB12 HS1 HB1
  unfold UnPost at HU
  generalize unp l = F at HN2 HB2 HQ HU ⊢
  generalize isF l = ok at HU ⊢
  obtain ⟨k, s, d, f, n, t, u, z, m, x⟩ := F
  unfold frv at HQ HU
  unfold frv
  simp only at HQ HU ⊢
  have hoo : (ok != ok) = false := by simp
  go_upto_region 4 with (fail)
  generalize w2.alloc (.cells (fcs ⟨k, s, d, f, n, t, u, z, m, x⟩) 24) = W at HN2 HB2 ⊢
  go_wp2_with fail
  refine (toB_any W a0 cap0 l (HR.out.later HB2.out) hl).mono ?_
  rintro e w3 ⟨A3, p3, rfl, hR3, hO3⟩
  have HN3 := Lib.hid (HN2.out.below hO3.2 HN2.out.lt)
  have hB3 := HB2.out.trans (hO3.2.mono HB2.out.size)
  have HB3 := Lib.hid hB3
  have HR3 := Lib.hid hR3
  have HU3 := Lib.hid (HU.out w3 A3 p3 hR3 ((HE.out.below hB3).less hB3.size) (own_fits hO3).1 (own_fits hO3).2)
  clear hR3 hO3 hB3 HN2 HB2 HU HE
  go_wp2_with fail
  refine HU3.out.mono ?_
  rintro e w4 ⟨rfl, hB4⟩
  have HN4 := Lib.hid ((HN3.out.below hB4 HN3.out.lt).alloc (.cells (fcs ⟨k, s, d, f, n, t, u, z, m, x⟩) 24))
  have HM4 := Lib.hid (Blk.new w4 24 (fcs ⟨k, s, d, f, n, t, u, z, m, x⟩))
  have hB5 : Below w3.heap.size w3 (w4.alloc (.cells (fcs ⟨k, s, d, f, n, t, u, z, m, x⟩) 24)) := hB4.alloc hB4.size _
  have HR5 := Lib.hid (HR3.out.later hB5)
  have HB5 := Lib.hid (HB3.out.trans (hB5.mono HB3.out.size))
  clear hB4 hB5 HU3 HN3 HB3 HR3
  go_upto_region 6 with (fail)
  generalize w4.alloc (.cells (fcs ⟨k, s, d, f, n, t, u, z, m, x⟩) 24) = W5 at HN4 HM4 HR5 HB5 ⊢
  obtain ⟨c0, c1, c2, c3, c4, c5, c6, c7, c8, c9, _⟩ := ten HN4.out
  obtain ⟨m0, m1, m2, m3, m4, m5, m6, m7, m8, m9, _⟩ := ten HM4.out
  go_wp2_with fail
  refine (HQ.out _).mono ?_
  rintro e w6 ⟨rfl, hB6⟩
  have HR6 := Lib.hid (HR5.out.later hB6)
  have HB6 := Lib.hid (HB5.out.trans (hB6.mono HB5.out.size))
  clear hB6 HR5 HB5 HN4 HM4 c0 c1 c2 c3 c4 c5 c6 c7 c8 c9 m0 m1 m2 m3 m4 m5 m6 m7 m8 m9 HQ
  go_wp2_with fail
  refine (toB_any w6 a0 cap0 l (HR.out.later HB6.out) hl).mono ?_
  rintro e w7 ⟨A7, p7, rfl, hR7, hO7⟩
  have HR67 := Lib.hid (HR6.out.later hO7.2)
  have HB7 := Lib.hid (HB6.out.trans (hO7.2.mono HB6.out.size))
  have HR7 := Lib.hid hR7
  clear hR7 hO7 HR6 HB6
  go_wp2_with fail
  refine (eqB_same _ _ _ _ _ l HR67.out HR7.out hl).mono ?_
  rintro e w8 ⟨rfl, qq, rfl⟩
  have HB8 := Lib.hid (below_drewN' HB7.out qq)
  clear HB7 HR67 HR7
  go_wp2
  go_ret
  exact ⟨rfl, HB8.out⟩

set_option maxRecDepth 100000 in
theorem lifted (os : Os) (started : os.Started) (H : Type) (enc : TypeId × Value → H) :
    ReturnsInHanded {} Tryd.checked os 7 .any (fun w args => (Rows.fnExactFrameUnpackSpec.pre enc Tryd.prog Tryd.f7 [] false w args ∧ laidMetH Tryd.prog fr.listF w) ∧ sizedMet enc Tryd.prog Tryd.f7 (OpenSpec.ofChange Rows.fnExactFrameUnpackSpec) false w args)
      (Rows.fnExactFrameUnpackSpec.post enc Tryd.prog Tryd.f7 false true false false) := by
  refine returnsInHanded_of_change_and (C := Tryd.checked) (X := fun w _ => laidMetH Tryd.prog fr.listF w) (fun _ _ _ hh h => h.of_heap hh) own started (by kernel_rfl) Tryd.func7
    (ChangeSpec.witness_shaped (enc := enc) (C := Tryd.checked) (os := os) (X := fun w _ => laidMetH Tryd.prog fr.listF w) false (World.doorLaid Tryd.prog 400 os) #[.slice none 0 0] 8 rfl (World.shaped_of_RefB (by kernel_rfl) (by kernel_rfl)) (by kernel_rfl) (by kernel_rfl) (by kernel_rfl) (fr.metF os _)) ?_
  intro W base args ds gs before hval0 hW _ _ hL _
  have hval : ∀ (j : Nat) t v, Tryd.f7.params[j]? = some t → args[j]? = some v → Value.okWide Tryd.prog W .any base t v := hval0
  have hW' := hW
  obtain ⟨p, q, hA0, hV, rfl, hfz, hnd⟩ := hW
  have hA : DataW.TrodAll enc Tryd.prog W 0 (fun _ => true) true Tryd.f7.params.toList args.toList ds p := hA0
  rw [Tryd.params7] at hA hval
  obtain ⟨v0, vs0, d0, ds0, p0, q0, hargs, rfl, rfl, h0, r0⟩ := trodAll_cons hA
  obtain ⟨rfl, rfl, rfl⟩ := trodAll_nil r0
  obtain rfl : args = #[v0] := by cases args; simp_all
  have hV2 := hV
  obtain ⟨x1, x2, x3, rfl⟩ := fr.vars3 (show DataW.TrodVars enc Tryd.prog W (fun _ => true) ["loop.example/bargeman/impl.errFrameTooShort", "loop.example/bargeman/impl.errFrameSum", "loop.example/bargeman/impl.errFrameTooLong"] gs q from hV)
  have k0 := h0
  have lt0 : ∀ x ∈ p0, x.block < W.heap.size := by obtain ⟨m, hm⟩ := k0; exact DataW.trod_lt m _ _ _ hm
  obtain ⟨a0, len0, cap0, rfl⟩ := okWide_slice Tryd.underlying22 (hval 0 22 v0 rfl rfl)
  obtain ⟨hb0, hl0, hm0⟩ : wd.Bytes W W.heap.size a0 len0 ∧ len0 ≤ cap0 ∧ cap0 ≤ maxLen := by
    obtain ⟨fuel, hf⟩ := h0
    rcases open_ints Tryd.underlying22 Tryd.underlying5 (by kernel_rfl) hf with ⟨hcs, _⟩ | ⟨x, l, c, zs, hcs, _, hl, hm, hz, _, hcell, hwz⟩
    · simp [Value.cells] at hcs
      obtain ⟨rfl, rfl, rfl⟩ := hcs
      exact dr.bytes_of_row (zs := []) (.inl ⟨rfl, rfl, rfl, rfl⟩)
    · simp [Value.cells] at hcs
      obtain ⟨rfl, rfl, rfl⟩ := hcs
      exact dr.bytes_of_row (.inr ⟨_, rfl, hl, hm, by simpa using hz, hcell, hwz⟩)
  have hE := fr.of_listF hL
  clear hA0 hval0
  refine (walk a0 len0 cap0 W hb0 hl0 hm0 hE).mono fun e W' ⟨he, bel⟩ => ?_
  subst he
  exact ⟨_, rfl, _, _, _, [], _, q, hW', trodAll_mk1 (shut_bool Tryd.underlying4 _), (trodAll_cons_mk (Below.trod laidOut (by kernel_rfl) (of_decide_eq_true (by kernel_rfl)) k0 bel lt0) trodAll_mk0), Below.trodVars laidOut bel (by kernel_rfl) hV2, bel.frame _, fun h => by cases h⟩

theorem over : Rows.fnExactFrameUnpackRow.holds Tryd.pinned (OpenSpec.ofChange Rows.fnExactFrameUnpackSpec) :=
  OpenClaim.holds_of_wide 7 Tryd.f7 rfl rfl rfl rfl rfl rfl rfl ⟨rfl, rfl, rfl, rfl, rfl⟩ rfl rfl rfl rfl rfl (by kernel_rfl) Tryd.func7 (by kernel_rfl)
    (of_decide_eq_true (by kernel_rfl)) (by unfold Func.isWrapper; first | (rw [if_pos (by decide +kernel)]; kernel_rfl) | (rw [if_neg (by decide +kernel)]; exact ⟨rfl, rfl⟩))
    (fun os started H enc _ => lifted os started H enc)

theorem proved : Rows.FnExactFrameUnpackCardSaid :=
  Claim7.holds_tied_plain_at .later [] [.sentinel, .sentinel, .sentinel] true (true, "8124b395191f46d9daa81c645c99eae09524d1cac78349357a50e128310eb475") false
    over (fun _ h => by cases h) (by kernel_rfl) (fun _ h => by cases h) fnExactFrameUnpack_row_tie rfl ⟨rfl, rfl⟩ (by kernel_rfl) rfl
    (fun f fn hf hfn => by
      obtain rfl : f = 7 := Option.some.inj ((show Tryd.prog.funcNamed "loop.example/bargeman/laws.FnExactFrameUnpack" = some 7 by kernel_rfl).symm.trans hf) |>.symm
      obtain rfl : fn = Tryd.f7 := (Option.some.inj (Tryd.func7.symm.trans hfn)).symm
      exact ⟨by kernel_rfl, fun j t ht => by
        rw [Tryd.params7] at ht
        have hm : t ∈ [22] := by simpa using Array.mem_of_getElem? ht
        have hall : ([22].all fun u => !Tryd.prog.wantsStandIn u) = true := by kernel_rfl
        exact (show Tryd.prog.wantsStandIn t = false by simpa using List.all_eq_true.1 hall t hm)⟩)
    (by kernel_rfl)
#print axioms proved
end Go.Proofs.YtgihbilpimempaaDoor.fnExactFrameUnpack
