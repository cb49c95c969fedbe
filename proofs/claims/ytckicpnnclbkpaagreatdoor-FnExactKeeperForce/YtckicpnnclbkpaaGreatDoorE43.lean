/-
  Merged texts: WFnExactKeeperForce.
-/
import Derived.Test.YtckicpnnclbkpaaGreatDoorCards
import Derived.Test.YtckicpnnclbkpaaGreatDoorTie
import Derived.Test.YtckicpnnclbkpaaGreatDoorE42
import Derived.ShutString
import Derived.ChangeOld
import Derived.SevenTiedAt
namespace Go.Proofs.YtckicpnnclbkpaaGreatDoor.fnExactKeeperForce
open Go.ChangeShapes Go.WideShapes Go.ChangeAt Go.RowKit
open Go.ChangeMaps (open_string shut_string)
open wd hf
set_option linter.unusedVariables false
theorem own : ownKnob Tryz.prog.godebug = none := by kernel_rfl
theorem laidOut : laidOutB Tryz.prog = true := by kernel_rfl
set_option maxRecDepth 100000 in
set_option maxHeartbeats 4000000 in
theorem walk (id0 : Int) (up0 : Bool) (s0 : ByteArray) (f0 : Int) (g0 : Value) (l0 : List hf.Hf) (w : World) (hs0 : s0.size ≤ maxLen) (hi0 : hf.InH w g0 l0) (hE : sh.Env w) :
  Calls Tryz.prog 5 #[hf.nodeV id0 up0 s0 f0 g0] w fun e w' => e = .returned (.bool true) ∧ Below w.heap.size w w' := by
 obtain ⟨A, c, rfl, _⟩ := hi0.form
 have hA0 := (Below.refl w.heap.size w).alloc (Nat.le_refl _) (.cells #[.int .i64 id0, .bool up0, .string s0, .int .i64 f0, .slice A l0.length c] 26)
 have KA := Lib.hid (Blk.new w 26 #[.int .i64 id0, .bool up0, .string s0, .int .i64 f0, .slice A l0.length c])
 have HW := Lib.hid hA0
 have HI := Lib.hid (hi0.later hA0)
 have HE := Lib.hid (hE.later hA0)
 have HSz := Lib.hid hs0
 clear hi0 hs0 hE hA0
 go_enter Tryz.func5, Tryz.ntmps5
 go_wp2_with fail
 generalize w.alloc (.cells #[.int .i64 id0, .bool up0, .string s0, .int .i64 f0, .slice A l0.length c] 26) = V at KA HW HI HE ⊢
 generalize hra : w.heap.size = ra at KA ⊢
 clear hra
 refine (szNode_any V id0 up0 s0 f0 _ l0 HSz.out HI.out).mono ?_
 rintro e w1 ⟨r, rfl, hr, B1⟩
 have HB := Lib.hid B1
 have HR := Lib.hid hr
 clear B1 hr
 by_cases hneg : r < 0
 ·go_wp2
  go_ret
  exact ⟨rfl, HW.out.trans (HB.out.mono HW.out.size)⟩
 obtain ⟨hs, ht⟩ := HR.out (by omega)
 have HT := Lib.hid ht
 have HL := Lib.hid ht.few
 clear HR ht
 obtain ⟨z0, z1, z2, z3, z4, _⟩ := five5 (KA.out.below HB.out KA.out.lt)
 go_wp2_with fail
 refine (toNode_any w1 id0 up0 s0 f0 _ l0 (HI.out.later HB.out) HL.out).mono ?_
 rintro e w2 ⟨v2, lr2, rfl, o2⟩
 obtain ⟨A2, c2, rfl⟩ := o2.sees.form
 have S2 := Lib.hid o2.sees
 replace HB := Lib.hid (HB.out.trans (o2.bel.mono HB.out.size))
 clear z0 z1 z2 z3 z4
 clear o2
 go_wp2_with fail
 refine (sforceK_any w2 id0 up0 s0 f0 _ l0 hs S2.out HL.out).mono ?_
 rintro e w3 ⟨id1, up1, s1, f1, l1, v3, bb, hR, rfl, s3, B3⟩
 have hbb : (bb != bb) = false := by simp
 obtain ⟨A3, c3, rfl⟩ := s3.form
 have HR := Lib.hid hR
 have HT1 := Lib.hid (forceR_few HT.out hR)
 have hA := (Below.refl w3.heap.size w3).alloc (Nat.le_refl _) (.cells #[.int .i64 id1, .bool up1, .string s1, .int .i64 f1, .slice A3 l1.length c3] 32)
 have D3 := B3.trans (hA.mono B3.size)
 replace HB := Lib.hid (HB.out.trans (D3.mono HB.out.size))
 have KW := Lib.hid (Blk.new w3 32 #[.int .i64 id1, .bool up1, .string s1, .int .i64 f1, .slice A3 l1.length c3])
 have SW := Lib.hid (s3.later hA)
 clear hR s3 B3 hA D3 S2
 go_upto_region 6 with (fail)
 generalize w3.alloc (.cells #[.int .i64 id1, .bool up1, .string s1, .int .i64 f1, .slice A3 l1.length c3] 32) = V3 at HB KW SW ⊢
 generalize w3.heap.size = rw at KW ⊢
 obtain ⟨z0, z1, z2, z3, z4, _⟩ := five5 (KA.out.below HB.out KA.out.lt)
 go_wp2_with fail
 refine (toNode_any V3 id0 up0 s0 f0 _ l0 (HI.out.later HB.out) HL.out).mono ?_
 rintro e w4 ⟨v4, lr4, rfl, o4⟩
 obtain ⟨A4, c4, rfl⟩ := o4.sees.form
 have hA := (Below.refl w4.heap.size w4).alloc (Nat.le_refl _) (.cells #[.int .i64 id0, .bool up0, .string s0, .int .i64 f0, .slice A4 l0.length c4] 32)
 have G4 := Lib.hid o4.rg
 have OX := Lib.hid (o4.at_.later hA)
 have FX := Lib.hid (o4.fits.later o4.sees hA)
 have KX := Lib.hid (Blk.new w4 32 #[.int .i64 id0, .bool up0, .string s0, .int .i64 f0, .slice A4 l0.length c4])
 have C := Lib.hid (o4.bel.trans (hA.mono o4.bel.size))
 clear z0 z1 z2 z3 z4
 clear o4 hA
 go_upto_region 7 with (fail)
 generalize w4.alloc (.cells #[.int .i64 id0, .bool up0, .string s0, .int .i64 f0, .slice A4 l0.length c4] 32) = V4 at OX FX KX C ⊢
 generalize w4.heap.size = rx at KX G4 ⊢
 obtain ⟨z0, z1, z2, z3, z4, _⟩ := five5 KX.out
 go_wp2_with fail
 refine (iforceK_any V4 id0 up0 s0 f0 _ l0 hs OX.out.see_ HL.out FX.out (HE.out.later (HB.out.trans (C.out.mono HB.out.size)))).mono ?_
 rintro e w5 ⟨id', up', s', f', l', v5, lr5, b', hR', rfl, o5⟩
 obtain ⟨q, rfl⟩ := forceR_one HR.out hR'
 injection q with q1 q2 q3 q4 q5
 subst q1 q2 q3 q4 q5
 obtain ⟨A5, c5, rfl⟩ := o5.sees.form
 have hA := (Below.refl w5.heap.size w5).alloc (Nat.le_refl _) (.cells #[.int .i64 id1, .bool up1, .string s1, .int .i64 f1, .slice A5 l1.length c5] 32)
 have GG := Lib.hid o5.rg
 have L5 := Lib.hid (show rx ≤ V4.heap.size ∧ V4.heap.size ≤ w5.heap.size ∧ V3.heap.size ≤ V4.heap.size from ⟨Nat.le_of_lt KX.out.lt, o5.bel.size, C.out.size⟩)
 have OG := Lib.hid (o5.at_.later hA)
 have KG := Lib.hid (Blk.new w5 32 #[.int .i64 id1, .bool up1, .string s1, .int .i64 f1, .slice A5 l1.length c5])
 have D5 := o5.bel.trans (hA.mono o5.bel.size)
 replace KX := Lib.hid (KX.out.below D5 KX.out.lt)
 replace OX := Lib.hid (OX.out.later D5)
 replace C := Lib.hid (C.out.trans (D5.mono C.out.size))
 clear z0 z1 z2 z3 z4
 clear o5 hA D5 hR' FX
 go_upto_region 8 with (fail)
 generalize w5.alloc (.cells #[.int .i64 id1, .bool up1, .string s1, .int .i64 f1, .slice A5 l1.length c5] 32) = V5 at OX KX C OG KG ⊢
 generalize w5.heap.size = rg at KG GG L5 ⊢
 obtain ⟨p0, p1, p2, p3, p4, _⟩ := five5 KG.out
 obtain ⟨q0, q1, q2, q3, q4, _⟩ := five5 (KW.out.below C.out KW.out.lt)
 go_wp2_with fail
 refine (eqNode_same V5 id1 up1 s1 f1 _ _ l1 OG.out.see_ (SW.out.later C.out) HT1.out.few).mono ?_
 rintro e w6 ⟨rfl, B6⟩
 clear p0 p1 p2 p3 p4 q0 q1 q2 q3 q4
 replace KX := Lib.hid (KX.out.below B6 KX.out.lt)
 replace KG := Lib.hid (KG.out.below B6 KG.out.lt)
 replace OX := Lib.hid (OX.out.later B6)
 replace OG := Lib.hid (OG.out.later B6)
 replace C := Lib.hid (C.out.trans (B6.mono C.out.size))
 clear B6
 go_upto_region 10 with (fail)
 have h0 := (Below.refl w6.heap.size w6).drew
 refine wp_region_held_drew (S := (fun w' : World => Blk w' rx 32 #[.int .i64 id0, .bool up0, .string s0, .int .i64 f0, .slice A4 l0.length c4] ∧ Blk w' ra 26 #[.int .i64 id0, .bool up0, .string s0, .int .i64 f0, .slice A l0.length c])) (by kernel_rfl) ⟨KX.out.below h0 KX.out.lt, (KA.out.below (HB.out.trans (C.out.mono HB.out.size)) KA.out.lt).below h0 (KA.out.below (HB.out.trans (C.out.mono HB.out.size)) KA.out.lt).lt⟩ (fun hHeld => ?_)
 clear hHeld
 replace KX := Lib.hid (KX.out.below h0 KX.out.lt)
 replace KG := Lib.hid (KG.out.below h0 KG.out.lt)
 replace OX := Lib.hid (OX.out.later h0)
 replace OG := Lib.hid (OG.out.later h0)
 replace C := Lib.hid (C.out.trans (h0.mono C.out.size))
 clear h0
 generalize w6.drew = Z at KX KG OX OG C ⊢
 have hKd := And.intro KX.out (KA.out.below (HB.out.trans (C.out.mono HB.out.size)) KA.out.lt)
 refine rs.w 0 41 ?_ rfl ?_ ?_
 rotate_left 1
 ·(intro w' hSw; obtain ⟨k0, k1, k2, k3, k4, _⟩ := five5 hSw.1; obtain ⟨m0, m1, m2, m3, m4, _⟩ := five5 hSw.2; go_simp; try with_reducible rfl)
 simp only [rs.a, rs.b, rs.c]
 refine rs.w 1 42 ?_ rfl ?_ ?_
 rotate_left 1
 ·(intro w' hSw; obtain ⟨k0, k1, k2, k3, k4, _⟩ := five5 hSw.1; obtain ⟨m0, m1, m2, m3, m4, _⟩ := five5 hSw.2; go_simp; try with_reducible rfl)
 simp only [rs.a, rs.b, rs.c]
 refine wpAnyH_ready (rs := [2]) (by kernel_rfl) (by simp) ?_
 refine AllReadyH.cons rfl (fun K hK => ?_) AllReadyH.nil
 go_simp
 refine (toNode_any Z id0 up0 s0 f0 _ l0 (HI.out.later (HB.out.trans (C.out.mono HB.out.size))) HL.out).mono ?_
 rintro e w7 ⟨v7, lr7, rfl, o7⟩
 obtain ⟨A7, c7, rfl⟩ := o7.sees.form
 have T7 := Lib.hid o7.sees
 have B7 := o7.bel
 replace KX := Lib.hid (KX.out.below B7 KX.out.lt)
 replace KG := Lib.hid (KG.out.below B7 KG.out.lt)
 replace OX := Lib.hid (OX.out.later B7)
 replace OG := Lib.hid (OG.out.later B7)
 replace C := Lib.hid (C.out.trans (B7.mono C.out.size))
 clear o7 hKd B7
 have hKd := And.intro KX.out (KA.out.below (HB.out.trans (C.out.mono HB.out.size)) KA.out.lt)
 refine hK.out _ _ hKd (fun hHeld => ?_)
 clear hK K hHeld
 refine wpAnyH_ready (rs := [3]) (by kernel_rfl) (by simp) ?_
 refine AllReadyH.cons rfl (fun K hK => ?_) AllReadyH.nil
 go_simp
 refine (eqNode_same w7 id0 up0 s0 f0 _ _ l0 OX.out.see_ T7.out HL.out).mono ?_
 rintro e w8 ⟨rfl, B8⟩
 replace KX := Lib.hid (KX.out.below B8 KX.out.lt)
 replace KG := Lib.hid (KG.out.below B8 KG.out.lt)
 replace OX := Lib.hid (OX.out.later B8)
 replace OG := Lib.hid (OG.out.later B8)
 replace C := Lib.hid (C.out.trans (B8.mono C.out.size))
 clear hKd B8 T7
 have hKd := And.intro KX.out (KA.out.below (HB.out.trans (C.out.mono HB.out.size)) KA.out.lt)
 refine hK.out _ _ hKd (fun hHeld => ?_)
 clear hK K hHeld
 refine rs.w 4 45 ?_ rfl ?_ ?_
 rotate_left 1
 ·(intro w' hSw; obtain ⟨k0, k1, k2, k3, k4, _⟩ := five5 hSw.1; obtain ⟨m0, m1, m2, m3, m4, _⟩ := five5 hSw.2; go_simp; try with_reducible rfl)
 simp only [rs.a, rs.b, rs.c]
 refine wpAnyH_done (by kernel_rfl) ?_ _
 clear hKd
 go_upto_region 13 with (fail)
 obtain ⟨z0, z1, z2, z3, z4, _⟩ := five5 KX.out
 go_wp2_with fail
 refine (markNode_any id0 up0 s0 f0 OX.out 1 (by omega) HT.out.mark).mono ?_
 rintro e w9 ⟨lr9, rfl, _, M9⟩
 have D9 := M9.below (B := V3.heap.size) G4.out (Nat.le_refl _) C.out.size
 replace C := Lib.hid (C.out.trans D9)
 replace KG := Lib.hid (M9.blk G4.out KG.out (.inr (by have := L5.out; omega)))
 replace OG := Lib.hid (OG.out.beside GG.out M9 G4.out (.inl (by have := L5.out; omega)))
 clear z0 z1 z2 z3 z4
 clear M9 D9 OX KX G4
 have hy0 : decide (hfN 1 l0 < 0) = false := decide_eq_false (by unfold hfN; omega)
 generalize hfN 1 l0 = y0 at hy0 ⊢
 go_upto_region 14 with (fail)
 obtain ⟨p0, p1, p2, p3, p4, _⟩ := five5 KG.out
 obtain ⟨q0, q1, q2, q3, q4, _⟩ := five5 (KW.out.below C.out KW.out.lt)
 go_wp2_with fail
 refine (eqNode_same w9 id1 up1 s1 f1 _ _ l1 OG.out.see_ (SW.out.later C.out) HT1.out.few).mono ?_
 rintro e w10 ⟨rfl, B10⟩
 clear p0 p1 p2 p3 p4 q0 q1 q2 q3 q4
 replace KG := Lib.hid (KG.out.below B10 KG.out.lt)
 replace OG := Lib.hid (OG.out.later B10)
 replace C := Lib.hid (C.out.trans (B10.mono C.out.size))
 clear B10 hy0
 go_upto_region 17 with (fail)
 obtain ⟨p0, p1, p2, p3, p4, _⟩ := five5 KG.out
 go_wp2_with fail
 refine (markNode_any id1 up1 s1 f1 OG.out 1 (by omega) HT1.out.mark).mono ?_
 rintro e w11 ⟨lr11, rfl, o11, M11⟩
 have D11 := M11.below (B := V3.heap.size) GG.out (by have := L5.out; omega) C.out.size
 replace C := Lib.hid (C.out.trans D11)
 replace KG := Lib.hid (M11.blk GG.out KG.out (.inr (Nat.le_refl _)))
 have SG := Lib.hid o11.see_
 clear p0 p1 p2 p3 p4
 clear o11 M11 D11 OG GG
 have HH := Lib.hid (fun V hS => heldNode_any V id1 up1 s1 f1 (.slice A5 l1.length c5) 1 l1 hS (by omega) HT1.out.mark)
 unfold kp.FoundPost at HH
 have hy : decide (hfN 1 l1 < 0) = false := decide_eq_false (by unfold hfN; omega)
 generalize hfN 1 l1 = y at HH hy ⊢
 have hyy : (y != y) = false := by simp
 go_upto_region 19 with (fail)
 obtain ⟨p0, p1, p2, p3, p4, _⟩ := five5 KG.out
 go_wp2_with fail
 refine (HH.out _ SG.out).mono ?_
 rintro e w12 ⟨rfl, B12⟩
 clear p0 p1 p2 p3 p4
 replace KG := Lib.hid (KG.out.below B12 KG.out.lt)
 replace SG := Lib.hid (SG.out.later B12)
 replace C := Lib.hid (C.out.trans (B12.mono C.out.size))
 clear B12
 go_upto_region 24 with (fail)
 obtain ⟨z0, z1, z2, z3, z4, _⟩ := five5 (KA.out.below (HB.out.trans (C.out.mono HB.out.size)) KA.out.lt)
 go_wp2_with fail
 refine (toNode_any w12 id0 up0 s0 f0 _ l0 (HI.out.later (HB.out.trans (C.out.mono HB.out.size))) HL.out).mono ?_
 rintro e w13 ⟨v13, lr13, rfl, o13⟩
 obtain ⟨A13, c13, rfl⟩ := o13.sees.form
 have S13 := Lib.hid o13.sees
 have F13 := Lib.hid o13.fits
 have B13 := o13.bel
 clear z0 z1 z2 z3 z4
 replace KG := Lib.hid (KG.out.below B13 KG.out.lt)
 replace SG := Lib.hid (SG.out.later B13)
 replace C := Lib.hid (C.out.trans (B13.mono C.out.size))
 clear B13 o13
 go_wp2_with fail
 refine (iforceK_any w13 id0 up0 s0 f0 _ l0 hs S13.out HL.out F13.out (HE.out.later (HB.out.trans (C.out.mono HB.out.size)))).mono ?_
 rintro e w14 ⟨id', up', s', f', l', v14, lr14, b', hR', rfl, o14⟩
 obtain ⟨q, rfl⟩ := forceR_one HR.out hR'
 injection q with q1 q2 q3 q4 q5
 subst q1 q2 q3 q4 q5
 obtain ⟨A14, c14, rfl⟩ := o14.sees.form
 have hA := (Below.refl w14.heap.size w14).alloc (Nat.le_refl _) (.cells #[.int .i64 id1, .bool up1, .string s1, .int .i64 f1, .slice A14 l1.length c14] 32)
 have KH := Lib.hid (Blk.new w14 32 #[.int .i64 id1, .bool up1, .string s1, .int .i64 f1, .slice A14 l1.length c14])
 have SH := Lib.hid (o14.sees.later hA)
 have D14 := o14.bel.trans (hA.mono o14.bel.size)
 replace KG := Lib.hid (KG.out.below D14 KG.out.lt)
 replace SG := Lib.hid (SG.out.later D14)
 replace C := Lib.hid (C.out.trans (D14.mono C.out.size))
 clear o14 hA D14 hR' S13 F13
 go_upto_region 25 with (fail)
 generalize w14.alloc (.cells #[.int .i64 id1, .bool up1, .string s1, .int .i64 f1, .slice A14 l1.length c14] 32) = V14 at KG SG C KH SH ⊢
 generalize w14.heap.size = rh at KH ⊢
 obtain ⟨p0, p1, p2, p3, p4, _⟩ := five5 KH.out
 obtain ⟨q0, q1, q2, q3, q4, _⟩ := five5 (KW.out.below C.out KW.out.lt)
 go_wp2_with fail
 refine (eqNode_same V14 id1 up1 s1 f1 _ _ l1 SH.out (SW.out.later C.out) HT1.out.few).mono ?_
 rintro e w15 ⟨rfl, B15⟩
 clear p0 p1 p2 p3 p4 q0 q1 q2 q3 q4
 replace KG := Lib.hid (KG.out.below B15 KG.out.lt)
 replace SG := Lib.hid (SG.out.later B15)
 replace C := Lib.hid (C.out.trans (B15.mono C.out.size))
 clear B15 KH SH
 go_upto_region 28 with (fail)
 obtain ⟨p0, p1, p2, p3, p4, _⟩ := five5 KG.out
 go_wp2_with fail
 refine (HH.out _ SG.out).mono ?_
 rintro e w16 ⟨rfl, B16⟩
 replace C := Lib.hid (C.out.trans (B16.mono C.out.size))
 clear p0 p1 p2 p3 p4
 clear B16 HH
 go_wp2
 go_ret
 exact ⟨rfl, HW.out.trans ((HB.out.trans (C.out.mono HB.out.size)).mono HW.out.size)⟩
end Go.Proofs.YtckicpnnclbkpaaGreatDoor.fnExactKeeperForce

