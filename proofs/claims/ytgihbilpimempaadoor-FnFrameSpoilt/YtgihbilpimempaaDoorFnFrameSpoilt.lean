/-
  At every drawn frame its bytes with any one of them changed are not read as a frame: the law returns true for every code; the condition of the row: the program's three errors of frames read as the program's text lays them (tied by the card).
-/
import Derived.Test.YtgihbilpimempaaDoorRows
import Derived.Test.YtgihbilpimempaaDoorCards
import Derived.Test.YtgihbilpimempaaDoorTie
import Derived.Test.YtgihbilpimempaaDoorLaidF
import Derived.Test.YtgihbilpimempaaDoorDraw0
import Derived.WalkKit
import Derived.ProofKit
import Derived.OpenShut
import Derived.ShutString
import Derived.ChangeOld
import Derived.Below
import Derived.LaidMore
import Derived.Stop.Joined
import Derived.SevenTiedAt
import Derived.OpenVars
import Derived.Test.YtgihbilpimempaaDoorFrUn4
import Derived.Test.YtgihbilpimempaaDoorIPack2
import Derived.Test.YtgihbilpimempaaDoorSPack
import Derived.Test.YtgihbilpimempaaDoorFrSet
import Derived.Test.YtgihbilpimempaaDoorDrawFr
namespace Go.Proofs.YtgihbilpimempaaDoor.fnFrameSpoilt
open Go.ChangeShapes Go.WideShapes Go.ChangeAt Go.RowKit
open Go.ChangeMaps (open_string shut_string)
open Go.Proofs.YtgihbilpimempaaDoor.nb Go.Proofs.YtgihbilpimempaaDoor.fr Go.Proofs.YtgihbilpimempaaDoor.wd Go.Proofs.YtgihbilpimempaaDoor.dr Go.Proofs.YtgihbilpimempaaDoor.ow Go.Proofs.YtgihbilpimempaaDoor.cp
set_option linter.unusedVariables false

theorem own : ownKnob Tryd.prog.godebug = none := by kernel_rfl
theorem laidOut : laidOutB Tryd.prog = true := by kernel_rfl

set_option maxRecDepth 100000 in
set_option maxHeartbeats 4000000 in
theorem walk (a0 : Option Addr) (len0 cap0 : Nat) (a1 : Option Addr) (len1 cap1 : Nat) (w : World) (hb0 : wd.Bytes w w.heap.size a0 len0) (hl0 : len0 ≤ cap0) (hm0 : cap0 ≤ maxLen) (hb1 : wd.Bytes w w.heap.size a1 len1) (hl1 : len1 ≤ cap1) (hm1 : cap1 ≤ maxLen) (hE : fr.FErr w.heap.size w) :
    Calls Tryd.prog 5 #[.slice a0 len0 cap0, .slice a1 len1 cap1] w fun e w' => e = .returned (.bool true) ∧ Below w.heap.size w w' := by
  have hm0' : cap0 ≤ 9223372036854775807 := hm0
  have hm1' : cap1 ≤ 9223372036854775807 := hm1
  by_cases hg0 : 1048576 < len0
  · have hg0' : (1048576 : Int) < len0 := by omega
    go_enter Tryd.func5, Tryd.ntmps5
    go_wp2
    go_ret
    exact ⟨rfl, Below.refl _ _⟩
  have hg0' : ¬ (1048576 : Int) < len0 := by omega
  by_cases hg1 : 1048576 < len1
  · have hg1' : (1048576 : Int) < len1 := by omega
    go_enter Tryd.func5, Tryd.ntmps5
    go_wp2
    go_ret
    exact ⟨rfl, Below.refl _ _⟩
  have hg1' : ¬ (1048576 : Int) < len1 := by omega
  obtain ⟨i0, hi, hz0, hz1, hz2⟩ := info_parts infoByte
  go_enter Tryd.func5, Tryd.ntmps5
  go_wp2_with fail
  refine (drawFramePack _ _ _ _ hb0 hl0 hm0).mono ?_
  rintro e w1 ⟨F, rfl, hs, hB1⟩
  have hsm : F.x.size ≤ maxLen := by unfold maxLen; omega
  have HI := Lib.hid (fun V => ipack_any F V hsm)
  have HP := Lib.hid (fun V => spack_any F V hsm)
  have hB2 := hB1.alloc hB1.size (.cells (fcs F) 24)
  have hN2 := Blk.new w1 24 (fcs F)
  have hlen := pk_len F
  have HA : Hid (pk F = [] ∨ isF (pk F) = true) := by
    cases h : okF F with
    | false => exact .inl (pk_no h)
    | true => exact .inr (pk_isF h)
  generalize pk F = l at HI HP HA hlen
  have HE := Lib.hid hE
  clear hb0 hl0 hm0 hb1 hl1 hm1 hB1 hs hsm hE
  obtain ⟨k, s, d, f, n, t, u, z, m, x⟩ := F
  unfold frv at HI HP
  unfold frv
  simp only at HI HP ⊢
  go_wp2_with fail
  generalize w1.alloc (.cells (fcs ⟨k, s, d, f, n, t, u, z, m, x⟩) 24) = W at hN2 hB2 ⊢
  refine (HP.out _).mono ?_
  rintro e w3 ⟨A3, n3, p3, rfl, hO3⟩
  obtain ⟨hn3, hR3⟩ := own_rowN hO3
  subst hn3
  have HN3 := Lib.hid (hN2.below hO3.2 hN2.lt)
  have HB3 := Lib.hid (hB2.trans (hO3.2.mono hB2.size))
  have HR3 := Lib.hid hR3
  clear hO3 hN2 hB2 hR3
  obtain ⟨c0, c1, c2, c3, c4, c5, c6, c7, c8, c9, _⟩ := ten HN3.out
  go_wp2_with fail
  refine (HI.out _).mono ?_
  rintro e w5 ⟨A5, n5, p5, rfl, hO5⟩
  obtain ⟨hn5, hR5⟩ := own_rowN hO5
  subst hn5
  have HR35 := Lib.hid (HR3.out.later hO5.2)
  have hB5 := HB3.out.trans (hO5.2.mono HB3.out.size)
  have HB5 := Lib.hid hB5
  have HE5 := Lib.hid ((HE.out.below hB5).less hB5.size)
  have hcv5 := conv_any hR5 p5
  have hcv3 := conv_any HR35.out p3
  have HR5 := Lib.hid hR5
  clear hO5 HN3 HB3 HR3 hR5 hB5 HE c0 c1 c2 c3 c4 c5 c6 c7 c8 c9 HI HP
  generalize txt l = tx at hcv3 hcv5
  have hne : (tx.toList != tx.toList) = false := by simp
  rcases HA.out with rfl | hi
  · clear HA
    simp only [List.length_nil] at hcv3 hcv5
    go_wp2
    go_ret
    exact ⟨rfl, HB5.out⟩
  have HI := Lib.hid hi
  have hl10 : 10 ≤ l.length ∧ l.length ≤ 17 := by
    have := isF_len hi
    rcases lenOf_cases l with ⟨_, e⟩ | ⟨_, e⟩ <;> omega
  obtain ⟨hl1, hl2⟩ := hl10
  have hlz : ((l.length : Int) == 0) = false := beq_eq_false_iff_ne.2 (by omega)
  obtain ⟨g5, o5, e5, hg5, hc5⟩ := HR5.out (by omega)
  subst e5
  have HC5 := Lib.hid hc5
  obtain ⟨dd, hdd⟩ : ∃ dd : Int, dd = 1 + (len1 : Int) % 255 := ⟨_, rfl⟩
  have hd0 : 1 ≤ dd := by omega
  have hd1 : dd ≤ 255 := by omega
  have HDD := Lib.hid hdd
  clear HA hlen hi hc5 hdd
  go_wp2
  clear hcv3 hcv5 hne
  rw [← HDD.out]
  go_loopw [9] (fun i wr => ∃ j : Nat, j ≤ l.length ∧ i = .int .i64 j ∧ Below w5.heap.size w5 wr) (fun i _ => (l.length + 1 : Nat) - (intOf i).toNat)
  case atStart => exact ⟨0, by omega, rfl, Below.refl _ _⟩
  case round =>
    obtain ⟨j, hj, rfl, hBr⟩ := hrel
    by_cases hjl : j < l.length
    · have hO0 : Own 5 wr (wr.alloc (.cells #[] 5)) (.slice (some ⟨wr.heap.size, 0, none⟩) 0 0) [] := Own.empty wr
      have hsr := hBr.size
      have hx := xor_val l j (e := dd) (by omega) hd1
      have HOt := Lib.hid (xor_other l j hd0 hd1)
      generalize l.getD j 0 ^^^ b8 dd = b' at hx HOt
      have HX := Lib.hid hx
      clear hx
      go_wp2_with (at_builtin; refine wpList_append_own _ rfl (.tmp 53) (.tmp 54) 22 rfl wr.heap.size 5 i0 (.int .u8 0) 1 1 Tryd.underlying22 hi hz0 hz1 hz2 rfl (by decide) _ _ _ rfl (hO0.1) ⟨g5, o5, none⟩ l.length p5 (l.map bv) rfl ?e0 ?e1 ?e2 ?e3 ?e4 ?e5 ?_)
      case e0 => rw [List.length_map]; omega
      case e1 =>
        intro q y hy
        have hq : q < l.length := by
          have := (List.getElem?_eq_some_iff.1 hy).1
          rwa [List.length_map] at this
        have e : (⟨g5, o5, none⟩ : Addr).add q = ⟨g5, o5 + q, none⟩ := by unfold Addr.add; split <;> simp_all
        have hlow : Below w5.heap.size w5 (wr.alloc (.cells #[] 5)) := hBr.trans ((Below.refl wr.heap.size wr).alloc (Nat.le_refl _) _ |>.mono hsr)
        rw [e, (hlow.cell (p := ⟨g5, o5 + q, none⟩) hg5).trans (HC5.out q hq), ← hy, List.getElem?_map, List.getElem?_eq_getElem hq]
        unfold bv vl
        rw [List.getD_eq_getElem?_getD, List.getElem?_eq_getElem hq]
        rfl
      case e2 => exact bv_one _
      case e3 => unfold maxLen; simp; omega
      case e4 => simp; omega
      case e5 => simp
      intro v1 w6 hown6 hgrow6 _
      have hO6 := own_app hO0 hown6 hgrow6
      rw [List.nil_append] at hO6
      obtain ⟨A6, n6, c6, rfl⟩ := own_slice hO6
      obtain ⟨g6, e6, hg6, y6, f6, hRow6, hBl6, hn6, hc6, hm6⟩ := own_set hO6 hjl b'
      subst e6
      subst hn6
      have HRow6 := Lib.hid hRow6
      have HBl6 := Lib.hid hBl6
      have hj0 : (0 : Int) ≤ (j : Int) := by omega
      have hj1 : (j : Int) < (l.length : Int) := by omega
      have HBr6 := Lib.hid (hBr.trans (hBl6.mono hsr))
      have HSp := Lib.hid (spoilt HI.out hjl HOt.out)
      have hsl : (l.set j b').length = l.length := List.length_set
      rw [← HX.out] at HRow6 HBl6 HBr6
      have hEr := (HE5.out.below HBr6.out).less HBr6.out.size
      have hU := iunp_any _ _ c6 (l.set j b') HRow6.out hEr (by rw [hsl]; omega) (by rw [hsl]; exact hc6) hm6
      rw [hsl] at hU
      unfold UnPost at hU
      rw [HSp.out, unp_no HSp.out] at hU
      unfold frv fr0 at hU
      simp only at hU
      have HU := Lib.hid hU
      clear hown6 hgrow6 hO6 hRow6 hBl6 hU hEr HX HRow6 HBl6 HSp HOt hO0 hBr
      obtain ⟨xv, hxv⟩ : ∃ xv, xv = bits .xor .u8 (vl l j) dd := ⟨_, rfl⟩
      rw [← hxv] at HU HBr6
      have HXV := Lib.hid hxv
      generalize hyv : vl l j = yv at y6 hxv
      have hrun : bits .xor .u8 yv dd = xv := hxv.symm
      clear hxv hyv HXV
      go_wp2_with fail
      refine HU.out.mono ?_
      rintro e w7 ⟨rfl, hB7⟩
      have HB7 := Lib.hid (HBr6.out.trans (hB7.mono HBr6.out.size))
      clear hB7 HU HBr6 y6 f6 hrun
      go_wp2
      go_roundw
      case rel => exact ⟨j + 1, by omega, by go_num, HB7.out.alloc HB7.out.size _⟩
      case measure => simp [intOf]; omega
    · obtain rfl : j = l.length := by omega
      have HB7 := Lib.hid (HB5.out.trans (hBr.mono HB5.out.size))
      clear hBr
      go_wp2
      go_ret
      exact ⟨rfl, HB7.out⟩

set_option maxRecDepth 100000 in
theorem lifted (os : Os) (started : os.Started) (H : Type) (enc : TypeId × Value → H) :
    ReturnsInHanded {} Tryd.checked os 5 .any (fun w args => (Rows.fnFrameSpoiltSpec.pre enc Tryd.prog Tryd.f5 [] false w args ∧ laidMetH Tryd.prog fr.listF w) ∧ sizedMet enc Tryd.prog Tryd.f5 (OpenSpec.ofChange Rows.fnFrameSpoiltSpec) false w args)
      (Rows.fnFrameSpoiltSpec.post enc Tryd.prog Tryd.f5 false true false false) := by
  refine returnsInHanded_of_change_and (C := Tryd.checked) (X := fun w _ => laidMetH Tryd.prog fr.listF w) (fun _ _ _ hh h => h.of_heap hh) own started (by kernel_rfl) Tryd.func5
    (ChangeSpec.witness_shaped (enc := enc) (C := Tryd.checked) (os := os) (X := fun w _ => laidMetH Tryd.prog fr.listF w) false (World.doorLaid Tryd.prog 400 os) #[.slice none 0 0, .slice none 0 0] 8 rfl (World.shaped_of_RefB (by kernel_rfl) (by kernel_rfl)) (by kernel_rfl) (by kernel_rfl) (by kernel_rfl) (fr.metF os _)) ?_
  intro W base args ds gs before hval0 hW _ _ hL _
  have hval : ∀ (j : Nat) t v, Tryd.f5.params[j]? = some t → args[j]? = some v → Value.okWide Tryd.prog W .any base t v := hval0
  have hW' := hW
  obtain ⟨p, q, hA0, hV, rfl, hfz, hnd⟩ := hW
  have hA : DataW.TrodAll enc Tryd.prog W 0 (fun _ => true) true Tryd.f5.params.toList args.toList ds p := hA0
  rw [Tryd.params5] at hA hval
  obtain ⟨v0, vs0, d0, ds0, p0, q0, hargs, rfl, rfl, h0, r0⟩ := trodAll_cons hA
  obtain ⟨v1, vs1, d1, ds1, p1, q1, rfl, rfl, rfl, h1, r1⟩ := trodAll_cons r0
  obtain ⟨rfl, rfl, rfl⟩ := trodAll_nil r1
  obtain rfl : args = #[v0, v1] := by cases args; simp_all
  have hV2 := hV
  obtain ⟨x1, x2, x3, rfl⟩ := fr.vars3 (show DataW.TrodVars enc Tryd.prog W (fun _ => true) ["loop.example/bargeman/impl.errFrameTooShort", "loop.example/bargeman/impl.errFrameSum", "loop.example/bargeman/impl.errFrameTooLong"] gs q from hV)
  have k0 := h0
  have lt0 : ∀ x ∈ p0, x.block < W.heap.size := by obtain ⟨m, hm⟩ := k0; exact DataW.trod_lt m _ _ _ hm
  have k1 := h1
  have lt1 : ∀ x ∈ p1, x.block < W.heap.size := by obtain ⟨m, hm⟩ := k1; exact DataW.trod_lt m _ _ _ hm
  obtain ⟨a0, len0, cap0, rfl⟩ := okWide_slice Tryd.underlying22 (hval 0 22 v0 rfl rfl)
  obtain ⟨hb0, hl0, hm0⟩ : wd.Bytes W W.heap.size a0 len0 ∧ len0 ≤ cap0 ∧ cap0 ≤ maxLen := by
    obtain ⟨fuel, hf⟩ := h0
    rcases open_ints Tryd.underlying22 Tryd.underlying5 (by kernel_rfl) hf with ⟨hcs, _⟩ | ⟨x, l, c, zs, hcs, _, hl, hm, hz, _, hcell, hwz⟩
    · simp [Value.cells] at hcs
      obtain ⟨rfl, rfl, rfl⟩ := hcs
      exact dr.bytes_of_row (zs := []) (.inl ⟨rfl, rfl, rfl, rfl⟩)
    · simp [Value.cells] at hcs
      obtain ⟨rfl, rfl, rfl⟩ := hcs
      exact dr.bytes_of_row (.inr ⟨_, rfl, hl, hm, by simpa using hz, hcell, hwz⟩)
  obtain ⟨a1, len1, cap1, rfl⟩ := okWide_slice Tryd.underlying22 (hval 1 22 v1 rfl rfl)
  obtain ⟨hb1, hl1, hm1⟩ : wd.Bytes W W.heap.size a1 len1 ∧ len1 ≤ cap1 ∧ cap1 ≤ maxLen := by
    obtain ⟨fuel, hf⟩ := h1
    rcases open_ints Tryd.underlying22 Tryd.underlying5 (by kernel_rfl) hf with ⟨hcs, _⟩ | ⟨x, l, c, zs, hcs, _, hl, hm, hz, _, hcell, hwz⟩
    · simp [Value.cells] at hcs
      obtain ⟨rfl, rfl, rfl⟩ := hcs
      exact dr.bytes_of_row (zs := []) (.inl ⟨rfl, rfl, rfl, rfl⟩)
    · simp [Value.cells] at hcs
      obtain ⟨rfl, rfl, rfl⟩ := hcs
      exact dr.bytes_of_row (.inr ⟨_, rfl, hl, hm, by simpa using hz, hcell, hwz⟩)
  have hE := fr.of_listF hL
  clear hA0 hval0
  refine (walk a0 len0 cap0 a1 len1 cap1 W hb0 hl0 hm0 hb1 hl1 hm1 hE).mono fun e W' ⟨he, bel⟩ => ?_
  subst he
  exact ⟨_, rfl, _, _, _, [], _, q, hW', trodAll_mk1 (shut_bool Tryd.underlying4 _), (trodAll_cons_mk (Below.trod laidOut (by kernel_rfl) (of_decide_eq_true (by kernel_rfl)) k0 bel lt0) (trodAll_cons_mk (Below.trod laidOut (by kernel_rfl) (of_decide_eq_true (by kernel_rfl)) k1 bel lt1) trodAll_mk0)), Below.trodVars laidOut bel (by kernel_rfl) hV2, bel.frame _, fun h => by cases h⟩

theorem over : Rows.fnFrameSpoiltRow.holds Tryd.pinned (OpenSpec.ofChange Rows.fnFrameSpoiltSpec) :=
  OpenClaim.holds_of_wide 5 Tryd.f5 rfl rfl rfl rfl rfl rfl rfl ⟨rfl, rfl, rfl, rfl, rfl⟩ rfl rfl rfl rfl rfl (by kernel_rfl) Tryd.func5 (by kernel_rfl)
    (of_decide_eq_true (by kernel_rfl)) (by unfold Func.isWrapper; first | (rw [if_pos (by decide +kernel)]; kernel_rfl) | (rw [if_neg (by decide +kernel)]; exact ⟨rfl, rfl⟩))
    (fun os started H enc _ => lifted os started H enc)

theorem proved : Rows.FnFrameSpoiltCardSaid :=
  Claim7.holds_tied_plain_at .later [] [.sentinel, .sentinel, .sentinel] true (true, "8124b395191f46d9daa81c645c99eae09524d1cac78349357a50e128310eb475") false
    over (fun _ h => by cases h) (by kernel_rfl) (fun _ h => by cases h) fnFrameSpoilt_row_tie rfl ⟨rfl, rfl⟩ (by kernel_rfl) rfl
    (fun f fn hf hfn => by
      obtain rfl : f = 5 := Option.some.inj ((show Tryd.prog.funcNamed "loop.example/bargeman/laws.FnFrameSpoilt" = some 5 by kernel_rfl).symm.trans hf) |>.symm
      obtain rfl : fn = Tryd.f5 := (Option.some.inj (Tryd.func5.symm.trans hfn)).symm
      exact ⟨by kernel_rfl, fun j t ht => by
        rw [Tryd.params5] at ht
        have hm : t ∈ [22, 22] := by simpa using Array.mem_of_getElem? ht
        have hall : ([22, 22].all fun u => !Tryd.prog.wantsStandIn u) = true := by kernel_rfl
        exact (show Tryd.prog.wantsStandIn t = false by simpa using List.all_eq_true.1 hall t hm)⟩)
    (by kernel_rfl)
#print axioms proved
end Go.Proofs.YtgihbilpimempaaDoor.fnFrameSpoilt
