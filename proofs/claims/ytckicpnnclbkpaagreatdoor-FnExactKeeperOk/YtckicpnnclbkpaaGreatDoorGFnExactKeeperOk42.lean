/-
  Merged texts: WFnExactKeeperOk.
-/
import Derived.Test.YtckicpnnclbkpaaGreatDoorRows
import Derived.Test.YtckicpnnclbkpaaGreatDoorCards
import Derived.Test.YtckicpnnclbkpaaGreatDoorTie
import Derived.Test.YtckicpnnclbkpaaGreatDoorGFnExactKeeperOk7
import Derived.Test.YtckicpnnclbkpaaGreatDoorGFnExactKeeperOk9
import Derived.Test.YtckicpnnclbkpaaGreatDoorGFnExactKeeperOk38
import Derived.Test.YtckicpnnclbkpaaGreatDoorGFnExactKeeperOk41
import Derived.Test.YtckicpnnclbkpaaGreatDoorGFnExactKeeperOk10
import Derived.WalkKit
import Derived.ProofKit
import Derived.OpenShut
import Derived.ShutString
import Derived.ChangeOld
import Derived.Below
import Derived.LaidMore
import Derived.Stop.Joined
import Derived.SevenTiedAt
namespace Go.Proofs.YtckicpnnclbkpaaGreatDoor.fnExactKeeperOk
open Go.ChangeShapes Go.WideShapes Go.ChangeAt Go.RowKit
open Go.ChangeMaps (open_string shut_string)
open wd hf
set_option linter.unusedVariables false
theorem own : ownKnob Tryz.prog.godebug = none := by kernel_rfl
theorem laidOut : laidOutB Tryz.prog = true := by kernel_rfl
set_option maxRecDepth 100000 in
set_option maxHeartbeats 4000000 in
theorem walk (id0 : Int) (up0 : Bool) (s0 : ByteArray) (f0 : Int) (g0 : Value) (l0 : List hf.Hf) (w : World) (hs0 : s0.size ≤ maxLen) (hi0 : hf.InH w g0 l0) (hE : sh.Env w) :
  Calls Tryz.prog 3 #[hf.nodeV id0 up0 s0 f0 g0] w fun e w' => e = .returned (.bool true) ∧ Below w.heap.size w w' := by
 have HI := Lib.hid hi0
 have HSz := Lib.hid hs0
 have HE := Lib.hid hE
 obtain ⟨A, c, rfl, _⟩ := hi0.form
 have KA := Lib.hid (Blk.new w 26 #[.int .i64 id0, .bool up0, .string s0, .int .i64 f0, .slice A l0.length c])
 have BV := Lib.hid ((Below.refl w.heap.size w).alloc (Nat.le_refl _) (.cells #[.int .i64 id0, .bool up0, .string s0, .int .i64 f0, .slice A l0.length c] 26))
 clear hi0 hs0 hE
 go_enter Tryz.func3, Tryz.ntmps3
 go_wp2_with fail
 generalize w.alloc (.cells #[.int .i64 id0, .bool up0, .string s0, .int .i64 f0, .slice A l0.length c] 26) = V at KA BV ⊢
 generalize w.heap.size = ra at KA ⊢
 refine (szNode_any V id0 up0 s0 f0 _ l0 HSz.out (HI.out.later BV.out)).mono ?_
 rintro e w1 ⟨r, rfl, hr, B1⟩
 have HB1 := Lib.hid (BV.out.trans (B1.mono BV.out.size))
 have K1 := Lib.hid (KA.out.below B1 KA.out.lt)
 have HR := Lib.hid hr
 clear B1 KA BV hr
 by_cases hneg : r < 0
 ·go_wp2
  go_ret
  exact ⟨rfl, HB1.out⟩
 obtain ⟨hs, hl⟩ := HR.out (by omega)
 have HL := Lib.hid hl.few
 clear HR hl
 obtain ⟨n0, n1, n2, n3, n4, _⟩ := five5 K1.out
 go_wp2_with fail
 refine (toNode_any w1 id0 up0 s0 f0 _ l0 (HI.out.later HB1.out) HL.out).mono ?_
 rintro e w2 ⟨v2, lr2, rfl, o2⟩
 obtain ⟨A2, c2, rfl⟩ := o2.sees.form
 have HB2 := Lib.hid (HB1.out.trans (o2.bel.mono HB1.out.size))
 have K2 := Lib.hid (K1.out.below o2.bel K1.out.lt)
 have S2 := Lib.hid o2.sees
 clear n0 n1 n2 n3 n4
 clear o2 HB1 K1
 go_wp2_with fail
 refine (snode_any w2 id0 up0 s0 f0 _ l0 hs S2.out HL.out).mono ?_
 rintro e w3 ⟨b1, rfl, hN1, B3⟩
 have HN1 := Lib.hid hN1
 have HB3 := Lib.hid (HB2.out.trans (B3.mono HB2.out.size))
 have K3 := Lib.hid (K2.out.below B3 K2.out.lt)
 clear hN1 B3 HB2 K2 S2
 obtain ⟨n0, n1, n2, n3, n4, _⟩ := five5 K3.out
 go_wp2_with fail
 refine (toNode_any w3 id0 up0 s0 f0 _ l0 (HI.out.later HB3.out) HL.out).mono ?_
 rintro e w4 ⟨v4, lr4, rfl, o4⟩
 obtain ⟨A4, c4, rfl⟩ := o4.sees.form
 have hA := (Below.refl w4.heap.size w4).alloc (Nat.le_refl _) (.cells #[.int .i64 id0, .bool up0, .string s0, .int .i64 f0, .slice A4 l0.length c4] 32)
 have HB4 := Lib.hid (HB3.out.trans ((o4.bel.trans (hA.mono o4.bel.size)).mono HB3.out.size))
 have K4 := Lib.hid ((K3.out.below o4.bel K3.out.lt).below hA (K3.out.below o4.bel K3.out.lt).lt)
 have KX := Lib.hid (Blk.new w4 32 #[.int .i64 id0, .bool up0, .string s0, .int .i64 f0, .slice A4 l0.length c4])
 have S4 := Lib.hid (o4.sees.later hA)
 have F4 := Lib.hid (o4.fits.later o4.sees hA)
 clear n0 n1 n2 n3 n4
 clear o4 hA HB3 K3
 go_upto_region 7 with (fail)
 generalize w4.alloc (.cells #[.int .i64 id0, .bool up0, .string s0, .int .i64 f0, .slice A4 l0.length c4] 32) = V4 at HB4 K4 KX S4 F4 ⊢
 generalize w4.heap.size = rx at KX ⊢
 obtain ⟨n0, n1, n2, n3, n4, _⟩ := five5 KX.out
 go_wp2_with fail
 refine (inode_any V4 id0 up0 s0 f0 _ l0 hs S4.out HL.out F4.out (HE.out.later HB4.out)).mono ?_
 rintro e w5 ⟨b2, rfl, hN2, B5⟩
 obtain rfl := nodeOk_one HN1.out hN2
 have HB5 := Lib.hid (HB4.out.trans (B5.mono HB4.out.size))
 have K5 := Lib.hid (K4.out.below B5 K4.out.lt)
 have KY := Lib.hid (KX.out.below B5 KX.out.lt)
 have S5 := Lib.hid (S4.out.later B5)
 have hbb : (b1 != b1) = false := by simp
 clear n0 n1 n2 n3 n4
 clear hN2 B5 HB4 K4 KX S4 F4 HN1
 go_upto_region 10 with (fail)
 have h0 := (Below.refl w5.heap.size w5).drew
 refine wp_region_held_drew (S := (fun w' : World => Blk w' rx 32 #[.int .i64 id0, .bool up0, .string s0, .int .i64 f0, .slice A4 l0.length c4] ∧ Blk w' ra 26 #[.int .i64 id0, .bool up0, .string s0, .int .i64 f0, .slice A l0.length c])) (by kernel_rfl) ⟨KY.out.below h0 KY.out.lt, K5.out.below h0 K5.out.lt⟩ (fun hHeld => ?_)
 clear hHeld
 have K6 := Lib.hid (K5.out.below h0 K5.out.lt)
 have KZ := Lib.hid (KY.out.below h0 KY.out.lt)
 have S6 := Lib.hid (S5.out.later h0)
 have HB6 := Lib.hid (HB5.out.trans (h0.mono HB5.out.size))
 clear h0 K5 KY S5 HB5
 generalize w5.drew = Z at K6 KZ S6 HB6 ⊢
 have hKd := And.intro KZ.out K6.out
 refine rs.want_take (i := 0) 22 (v := ?_) rfl rfl (by kernel_rfl) (by kernel_rfl) (by kernel_rfl) (fun _ _ _ _ h => h) rfl ?_ (by assumption) ?_
 rotate_left 1
 ·(intro w' hSw; obtain ⟨k0, k1, k2, k3, k4, _⟩ := five5 hSw.1; obtain ⟨m0, m1, m2, m3, m4, _⟩ := five5 hSw.2; go_simp; try with_reducible rfl)
 simp only [List.setIfInBounds_toArray, List.set_cons_zero, List.set_cons_succ]
 refine rs.want_take (i := 1) 23 (v := ?_) rfl rfl (by kernel_rfl) (by kernel_rfl) (by kernel_rfl) (fun _ _ _ _ h => h) rfl ?_ (by assumption) ?_
 rotate_left 1
 ·(intro w' hSw; obtain ⟨k0, k1, k2, k3, k4, _⟩ := five5 hSw.1; obtain ⟨m0, m1, m2, m3, m4, _⟩ := five5 hSw.2; go_simp; try with_reducible rfl)
 simp only [List.setIfInBounds_toArray, List.set_cons_zero, List.set_cons_succ]
 refine wpAnyH_ready (rs := [2]) (by kernel_rfl) (by simp) ?_
 refine AllReadyH.cons rfl (fun K hK => ?_) AllReadyH.nil
 go_simp
 refine (toNode_any Z id0 up0 s0 f0 _ l0 (HI.out.later HB6.out) HL.out).mono ?_
 rintro e w7 ⟨v7, lr7, rfl, o7⟩
 obtain ⟨A7, c7, rfl⟩ := o7.sees.form
 have K7 := Lib.hid (K6.out.below o7.bel K6.out.lt)
 have KW := Lib.hid (KZ.out.below o7.bel KZ.out.lt)
 have S7 := Lib.hid (S6.out.later o7.bel)
 have T7 := Lib.hid o7.sees
 have HB7 := Lib.hid (HB6.out.trans (o7.bel.mono HB6.out.size))
 clear o7 hKd K6 KZ S6 HB6
 have hKd := And.intro KW.out K7.out
 refine hK.out _ _ hKd (fun hHeld => ?_)
 clear hK K hHeld
 refine wpAnyH_ready (rs := [3]) (by kernel_rfl) (by simp) ?_
 refine AllReadyH.cons rfl (fun K hK => ?_) AllReadyH.nil
 go_simp
 refine (eqNode_same w7 id0 up0 s0 f0 _ _ l0 S7.out T7.out HL.out).mono ?_
 rintro e w8 ⟨rfl, B8⟩
 have hKd2 := And.intro (KW.out.below B8 KW.out.lt) (K7.out.below B8 K7.out.lt)
 have HB8 := Lib.hid (HB7.out.trans (B8.mono HB7.out.size))
 clear hKd B8 K7 KW S7 T7 HB7
 have hKd := hKd2
 refine hK.out _ _ hKd2 (fun hHeld => ?_)
 clear hK K hHeld hKd2
 refine rs.want_take (i := 4) 26 (v := ?_) rfl rfl (by kernel_rfl) (by kernel_rfl) (by kernel_rfl) (fun _ _ _ _ h => h) rfl ?_ (by assumption) ?_
 rotate_left 1
 ·(intro w' hSw; obtain ⟨k0, k1, k2, k3, k4, _⟩ := five5 hSw.1; obtain ⟨m0, m1, m2, m3, m4, _⟩ := five5 hSw.2; go_simp; try with_reducible rfl)
 simp only [List.setIfInBounds_toArray, List.set_cons_zero, List.set_cons_succ]
 refine wpAnyH_done (by kernel_rfl) ?_ _
 clear hKd
 go_wp2
 go_ret
 exact ⟨rfl, HB8.out⟩
end Go.Proofs.YtckicpnnclbkpaaGreatDoor.fnExactKeeperOk

