/-
  At every drawn frame FramePack and FrameOk answer as the specification, and the bytes of a valid frame are read back as that frame: the law returns true for every code; the condition of the row: the program's three errors of frames read as the program's text lays them (tied by the card).
-/
import Derived.Test.YtgihbilpimempaaDoorRows
import Derived.Test.YtgihbilpimempaaDoorCards
import Derived.Test.YtgihbilpimempaaDoorTie
import Derived.Test.YtgihbilpimempaaDoorLaidF
import Derived.Test.YtgihbilpimempaaDoorDraw0
import Derived.WalkKit
import Derived.ProofKit
import Derived.OpenShut
import Derived.ShutString
import Derived.ChangeOld
import Derived.Below
import Derived.LaidMore
import Derived.Stop.Joined
import Derived.SevenTiedAt
import Derived.OpenVars
import Derived.Test.YtgihbilpimempaaDoorFrUn4
import Derived.Test.YtgihbilpimempaaDoorIPack2
import Derived.Test.YtgihbilpimempaaDoorSPack
import Derived.Test.YtgihbilpimempaaDoorFrStr
import Derived.Test.YtgihbilpimempaaDoorDrawFr
namespace Go.Proofs.YtgihbilpimempaaDoor.fnFrameBack
open Go.ChangeShapes Go.WideShapes Go.ChangeAt Go.RowKit
open Go.ChangeMaps (open_string shut_string)
open Go.Proofs.YtgihbilpimempaaDoor.nb Go.Proofs.YtgihbilpimempaaDoor.fr Go.Proofs.YtgihbilpimempaaDoor.wd Go.Proofs.YtgihbilpimempaaDoor.dr
set_option linter.unusedVariables false

theorem own : ownKnob Tryd.prog.godebug = none := by kernel_rfl
theorem laidOut : laidOutB Tryd.prog = true := by kernel_rfl

set_option maxRecDepth 100000 in
set_option maxHeartbeats 4000000 in
theorem walk (a0 : Option Addr) (len0 cap0 : Nat) (w : World) (hb0 : wd.Bytes w w.heap.size a0 len0) (hl0 : len0 ≤ cap0) (hm0 : cap0 ≤ maxLen) (hE : fr.FErr w.heap.size w) :
    Calls Tryd.prog 3 #[.slice a0 len0 cap0] w fun e w' => e = .returned (.bool true) ∧ Below w.heap.size w w' := by
  have hm0' : cap0 ≤ 9223372036854775807 := hm0
  by_cases hg0 : 1048576 < len0
  · go_enter Tryd.func3, Tryd.ntmps3
    go_wp2
    go_ret
    exact ⟨rfl, Below.refl _ _⟩
  go_enter Tryd.func3, Tryd.ntmps3
  go_wp2_with fail
  refine (drawFramePack _ _ _ _ hb0 hl0 hm0).mono ?_
  rintro e w1 ⟨F, rfl, hs, hB1⟩
  have hsm : F.x.size ≤ maxLen := by unfold maxLen; omega
  have HI := Lib.hid (fun V => ipack_any F V hsm)
  have HP := Lib.hid (fun V => spack_any F V hsm)
  have HK := Lib.hid (fun V => sfok_any F V hsm)
  have HJ := Lib.hid (fun V => ifok_any F V hsm)
  have hB2 := hB1.alloc hB1.size (.cells (fcs F) 24)
  have hN2 := Blk.new w1 24 (fcs F)
  have hlen := pk_len F
  have HA : Hid ((okF F = false ∧ pk F = []) ∨ (okF F = true ∧ unp (pk F) = F ∧ isF (pk F) = true)) := by
    cases h : okF F with
    | false => exact .inl ⟨rfl, pk_no h⟩
    | true => exact .inr ⟨rfl, unp_pk h, pk_isF h⟩
  generalize pk F = l at HI HP HA hlen
  generalize okF F = ok at HK HJ HA
  have HE := Lib.hid hE
  clear hb0 hl0 hm0 hB1 hs hsm hE
  obtain ⟨k, s, d, f, n, t, u, z, m, x⟩ := F
  unfold frv at HI HP HK HJ
  unfold frv
  simp only at HI HP HK HJ ⊢
  go_wp2_with fail
  generalize w1.alloc (.cells (fcs ⟨k, s, d, f, n, t, u, z, m, x⟩) 24) = W at hN2 hB2 ⊢
  refine (HP.out _).mono ?_
  rintro e w3 ⟨A3, n3, p3, rfl, hO3⟩
  obtain ⟨hn3, hR3⟩ := own_rowN hO3
  subst hn3
  have HN3 := Lib.hid (hN2.below hO3.2 hN2.lt)
  have HB3 := Lib.hid (hB2.trans (hO3.2.mono hB2.size))
  have HR3 := Lib.hid hR3
  clear hO3 hN2 hB2 hR3
  obtain ⟨c0, c1, c2, c3, c4, c5, c6, c7, c8, c9, _⟩ := ten HN3.out
  go_wp2_with fail
  refine (HK.out _).mono ?_
  rintro e w4 ⟨rfl, hB4⟩
  have HN4 := Lib.hid (HN3.out.below hB4 HN3.out.lt)
  have HR4 := Lib.hid (HR3.out.later hB4)
  have HB4 := Lib.hid (HB3.out.trans (hB4.mono HB3.out.size))
  clear hB4 HN3 HB3 HR3 c0 c1 c2 c3 c4 c5 c6 c7 c8 c9
  obtain ⟨c0, c1, c2, c3, c4, c5, c6, c7, c8, c9, _⟩ := ten HN4.out
  go_wp2_with fail
  refine (HI.out _).mono ?_
  rintro e w5 ⟨A5, n5, p5, rfl, hO5⟩
  obtain ⟨hn5, hR5⟩ := own_rowN hO5
  subst hn5
  have HN5 := Lib.hid (HN4.out.below hO5.2 HN4.out.lt)
  have HR45 := Lib.hid (HR4.out.later hO5.2)
  have HB5 := Lib.hid (HB4.out.trans (hO5.2.mono HB4.out.size))
  have hlc : l.length ≤ p5 ∧ p5 ≤ maxLen := by
    rcases hO5.1.2 with ⟨e, h0⟩ | ⟨g, cap, cur, e, _, _, h1, h2, _⟩
    · injection e with e1 e2 e3
      rw [List.length_map] at h0
      omega
    · injection e with e1 e2 e3
      rw [List.length_map] at h1
      exact ⟨by omega, by omega⟩
  have hcv5 := conv_any hR5 p5
  have hcv4 := conv_any HR45.out p3
  have HR5 := Lib.hid hR5
  clear hO5 HN4 HB4 HR4 hR5 c0 c1 c2 c3 c4 c5 c6 c7 c8 c9
  obtain ⟨c0, c1, c2, c3, c4, c5, c6, c7, c8, c9, _⟩ := ten HN5.out
  generalize txt l = tx at hcv4 hcv5
  have hne : (tx.toList != tx.toList) = false := by simp
  go_wp2_with fail
  clear hcv4 hcv5
  refine (HJ.out _).mono ?_
  rintro e w6 ⟨rfl, hB6⟩
  have hB56 := HB5.out.trans (hB6.mono HB5.out.size)
  have HN6 := Lib.hid (HN5.out.below hB6 HN5.out.lt)
  have HR6 := Lib.hid (HR5.out.later hB6)
  have hE6 := HE.out.below hB56
  have HE6 := Lib.hid (hE6.less hB56.size)
  have HB6 := Lib.hid hB56
  clear hB6 hB56 HN5 HB5 HR5 HR45 hE6 HE c0 c1 c2 c3 c4 c5 c6 c7 c8 c9
  have hoo : (ok != ok) = false := by simp
  rcases HA.out with ⟨rfl, rfl⟩ | ⟨rfl, hu, hi⟩
  · clear HA HI HP HK HJ
    go_wp2
    go_ret
    exact ⟨rfl, HB6.out⟩
  · have HUn := Lib.hid (iunp_any w6 A5 p5 l HR6.out HE6.out (by omega) hlc.1 hlc.2)
    unfold UnPost at HUn
    rw [hu, hi] at HUn
    unfold frv at HUn
    simp only at HUn
    clear HA HI HP HK HJ hu hi
    go_wp2_with fail
    refine HUn.out.mono ?_
    rintro e w7 ⟨rfl, hB7⟩
    have HN7 := Lib.hid (HN6.out.below hB7 HN6.out.lt)
    have HB7 := Lib.hid (HB6.out.trans (hB7.mono HB6.out.size))
    clear hB7 HUn HR6 HN6 HB6
    obtain ⟨c0, c1, c2, c3, c4, c5, c6, c7, c8, c9, _⟩ := ten HN7.out
    go_wp2
    go_ret
    exact ⟨rfl, HB7.out.alloc HB7.out.size _⟩

set_option maxRecDepth 100000 in
theorem lifted (os : Os) (started : os.Started) (H : Type) (enc : TypeId × Value → H) :
    ReturnsInHanded {} Tryd.checked os 3 .any (fun w args => (Rows.fnFrameBackSpec.pre enc Tryd.prog Tryd.f3 [] false w args ∧ laidMetH Tryd.prog fr.listF w) ∧ sizedMet enc Tryd.prog Tryd.f3 (OpenSpec.ofChange Rows.fnFrameBackSpec) false w args)
      (Rows.fnFrameBackSpec.post enc Tryd.prog Tryd.f3 false true false false) := by
  refine returnsInHanded_of_change_and (C := Tryd.checked) (X := fun w _ => laidMetH Tryd.prog fr.listF w) (fun _ _ _ hh h => h.of_heap hh) own started (by kernel_rfl) Tryd.func3
    (ChangeSpec.witness_shaped (enc := enc) (C := Tryd.checked) (os := os) (X := fun w _ => laidMetH Tryd.prog fr.listF w) false (World.doorLaid Tryd.prog 400 os) #[.slice none 0 0] 8 rfl (World.shaped_of_RefB (by kernel_rfl) (by kernel_rfl)) (by kernel_rfl) (by kernel_rfl) (by kernel_rfl) (fr.metF os _)) ?_
  intro W base args ds gs before hval0 hW _ _ hL _
  have hval : ∀ (j : Nat) t v, Tryd.f3.params[j]? = some t → args[j]? = some v → Value.okWide Tryd.prog W .any base t v := hval0
  have hW' := hW
  obtain ⟨p, q, hA0, hV, rfl, hfz, hnd⟩ := hW
  have hA : DataW.TrodAll enc Tryd.prog W 0 (fun _ => true) true Tryd.f3.params.toList args.toList ds p := hA0
  rw [Tryd.params3] at hA hval
  obtain ⟨v0, vs0, d0, ds0, p0, q0, hargs, rfl, rfl, h0, r0⟩ := trodAll_cons hA
  obtain ⟨rfl, rfl, rfl⟩ := trodAll_nil r0
  obtain rfl : args = #[v0] := by cases args; simp_all
  have hV2 := hV
  obtain ⟨x1, x2, x3, rfl⟩ := fr.vars3 (show DataW.TrodVars enc Tryd.prog W (fun _ => true) ["loop.example/bargeman/impl.errFrameTooShort", "loop.example/bargeman/impl.errFrameSum", "loop.example/bargeman/impl.errFrameTooLong"] gs q from hV)
  have k0 := h0
  have lt0 : ∀ x ∈ p0, x.block < W.heap.size := by obtain ⟨m, hm⟩ := k0; exact DataW.trod_lt m _ _ _ hm
  obtain ⟨a0, len0, cap0, rfl⟩ := okWide_slice Tryd.underlying22 (hval 0 22 v0 rfl rfl)
  obtain ⟨hb0, hl0, hm0⟩ : wd.Bytes W W.heap.size a0 len0 ∧ len0 ≤ cap0 ∧ cap0 ≤ maxLen := by
    obtain ⟨fuel, hf⟩ := h0
    rcases open_ints Tryd.underlying22 Tryd.underlying5 (by kernel_rfl) hf with ⟨hcs, _⟩ | ⟨x, l, c, zs, hcs, _, hl, hm, hz, _, hcell, hwz⟩
    · simp [Value.cells] at hcs
      obtain ⟨rfl, rfl, rfl⟩ := hcs
      exact dr.bytes_of_row (zs := []) (.inl ⟨rfl, rfl, rfl, rfl⟩)
    · simp [Value.cells] at hcs
      obtain ⟨rfl, rfl, rfl⟩ := hcs
      exact dr.bytes_of_row (.inr ⟨_, rfl, hl, hm, by simpa using hz, hcell, hwz⟩)
  have hE := fr.of_listF hL
  clear hA0 hval0
  refine (walk a0 len0 cap0 W hb0 hl0 hm0 hE).mono fun e W' ⟨he, bel⟩ => ?_
  subst he
  exact ⟨_, rfl, _, _, _, [], _, q, hW', trodAll_mk1 (shut_bool Tryd.underlying4 _), (trodAll_cons_mk (Below.trod laidOut (by kernel_rfl) (of_decide_eq_true (by kernel_rfl)) k0 bel lt0) trodAll_mk0), Below.trodVars laidOut bel (by kernel_rfl) hV2, bel.frame _, fun h => by cases h⟩

theorem over : Rows.fnFrameBackRow.holds Tryd.pinned (OpenSpec.ofChange Rows.fnFrameBackSpec) :=
  OpenClaim.holds_of_wide 3 Tryd.f3 rfl rfl rfl rfl rfl rfl rfl ⟨rfl, rfl, rfl, rfl, rfl⟩ rfl rfl rfl rfl rfl (by kernel_rfl) Tryd.func3 (by kernel_rfl)
    (of_decide_eq_true (by kernel_rfl)) (by unfold Func.isWrapper; first | (rw [if_pos (by decide +kernel)]; kernel_rfl) | (rw [if_neg (by decide +kernel)]; exact ⟨rfl, rfl⟩))
    (fun os started H enc _ => lifted os started H enc)

theorem proved : Rows.FnFrameBackCardSaid :=
  Claim7.holds_tied_plain_at .later [] [.sentinel, .sentinel, .sentinel] true (true, "8124b395191f46d9daa81c645c99eae09524d1cac78349357a50e128310eb475") false
    over (fun _ h => by cases h) (by kernel_rfl) (fun _ h => by cases h) fnFrameBack_row_tie rfl ⟨rfl, rfl⟩ (by kernel_rfl) rfl
    (fun f fn hf hfn => by
      obtain rfl : f = 3 := Option.some.inj ((show Tryd.prog.funcNamed "loop.example/bargeman/laws.FnFrameBack" = some 3 by kernel_rfl).symm.trans hf) |>.symm
      obtain rfl : fn = Tryd.f3 := (Option.some.inj (Tryd.func3.symm.trans hfn)).symm
      exact ⟨by kernel_rfl, fun j t ht => by
        rw [Tryd.params3] at ht
        have hm : t ∈ [22] := by simpa using Array.mem_of_getElem? ht
        have hall : ([22].all fun u => !Tryd.prog.wantsStandIn u) = true := by kernel_rfl
        exact (show Tryd.prog.wantsStandIn t = false by simpa using List.all_eq_true.1 hall t hm)⟩)
    (by kernel_rfl)
#print axioms proved
end Go.Proofs.YtgihbilpimempaaDoor.fnFrameBack
