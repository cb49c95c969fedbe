/-
  At every number and list of records the program's KeepOf answers as the specification's, leaves the list as it was and gives back lists of its own: the law returns true; the condition of the row: the listed variables of math/bits, strconv and errors read as the program's text lays them (tied by the card).
-/
import Derived.Test.YtgihbilpimempabGreatDoorRows
import Derived.Test.YtgihbilpimempabGreatDoorCards
import Derived.Test.YtgihbilpimempabGreatDoorTie
import Derived.Test.YtgihbilpimempabGreatDoorGFnExactKeepDo3
import Derived.Test.YtgihbilpimempabGreatDoorGFnExactKeepOf1
import Derived.WalkKit
import Derived.ProofKit
import Derived.OpenShut
import Derived.ShutString
import Derived.ChangeOld
import Derived.Below
import Derived.LaidMore
import Derived.Stop.Joined
import Derived.SevenTiedAt
import Derived.Test.YtgihbilpimempabGreatDoorGFnExactKeepDo5
import Derived.Test.YtgihbilpimempabGreatDoorGFnExactKeepDo6
import Derived.Test.YtgihbilpimempabGreatDoorGFnExactKeepDo7
import Derived.Test.YtgihbilpimempabGreatDoorGFnExactKeepOf2
import Derived.Test.YtgihbilpimempabGreatDoorGFnExactKeepDo46
namespace Go.Proofs.YtgihbilpimempabGreatDoor.fnExactKeepOf
open Go.ChangeShapes Go.WideShapes Go.ChangeAt Go.RowKit
open Go.ChangeMaps (open_string shut_string)
open Go.Proofs.YtgihbilpimempabGreatDoor.wd Go.Proofs.YtgihbilpimempabGreatDoor.kp Go.Proofs.YtgihbilpimempabGreatDoor.dc Go.Proofs.YtgihbilpimempabGreatDoor.ok Go.Proofs.YtgihbilpimempabGreatDoor.sl
set_option linter.unusedVariables false

theorem own : ownKnob Tryz.prog.godebug = none := by kernel_rfl
theorem laidOut : laidOutB Tryz.prog = true := by kernel_rfl

set_option maxRecDepth 100000 in
set_option maxHeartbeats 4000000 in
theorem walk (n0 : Int) (a1 : Option Addr) (len1 cap1 : Nat) (l1 : List ByteArray) (w : World) (hn0 : (Lit.int .i64 n0).wf = true) (hi1 : si.InS w a1 l1) (hl1 : l1.length = len1) (hz1 : ∀ x ∈ l1, x.size ≤ maxLen) (hm1 : len1 ≤ maxLen) (hTab : dc.Tab w) (hErr : dc.Errs w) :
    Calls Tryz.prog 5 #[.int .i64 n0, .slice a1 len1 cap1] w fun e w' => e = .returned (.bool true) ∧ Below w.heap.size w w' := by
  subst hl1
  go_enter Tryz.func5, Tryz.ntmps5
  go_wp2_with fail
  refine (si.sz_any a1 cap1 l1 w hi1 hm1 hz1 _ (by omega) (by omega)).mono ?_
  rintro e w1 (⟨hfit, rfl, rfl⟩ | ⟨hno, rfl, rfl⟩)
  case inr =>
    go_wp2
    go_ret
    exact ⟨rfl, Below.refl _ _⟩
  have hll : l1.length ≤ 1048576 := by omega
  have hlen : ∀ x ∈ l1, x.size ≤ 1048576 := fun x hx => by have := size_sum hx; unfold si.sum at hfit; omega
  have hpos : ¬ (1048576 : Int) - ((l1.length + si.sum l1 : Nat) : Int) < 0 := by omega
  have HD1 := Lib.hid (fun V v hv => keepOf_any V n0 v l1 hv hll hlen)
  have HD2 := Lib.hid (fun V v hv hT hE => ikeepOf_any V n0 v l1 hv hll hlen hT hE)
  unfold OfPost at HD1 HD2
  have HC := Lib.hid (fun V (hB : Below w.heap.size w V) => si.copy_any V a1 cap1 l1 (hi1.later hB) hll)
  unfold si.CopyPost at HC
  have HLL := Lib.hid hll
  generalize (1048576 : Int) - ((l1.length + si.sum l1 : Nat) : Int) = lft at hpos ⊢
  clear hfit hm1 hz1 hlen hn0 hi1
  generalize txs l1 = ls at HD1 HD2
  go_wp2_with fail
  refine (HC.out _ (Below.refl _ _)).mono ?_
  rintro e w2 ⟨v1, rfl, hO1⟩
  have hv1 := sees_of_own hO1
  have HB2 := Lib.hid hO1.2
  clear hO1 hpos
  go_wp2_with fail
  refine (HD1.out _ _ hv1).mono ?_
  rintro e w3 ⟨k, bb, a3, b3, c3, rfl, hdo, hsz, o3⟩
  have HDO := Lib.hid hdo
  have HSZ := Lib.hid (hsz.few (show 14 ≤ 1048576 by omega))
  have HN := Lib.hid (show ((1 : Int) + 5 * k.held.length + 3 * k.marks.length + 5 * k.inbox.length < 100000000) by have := hsz.h; have := hsz.m; have := hsz.i; omega)
  have HY := Lib.hid (show ¬ kN 1 k.held.length k.marks.length k.inbox.length < 0 by unfold kN; omega)
  obtain ⟨A3, s3, rfl⟩ := OwnR.form o3.held
  obtain ⟨M3, t3, rfl⟩ := OwnR.form o3.marks
  obtain ⟨I3, u3, rfl⟩ := OwnR.form o3.inbox
  have B3 := (Below.refl w3.heap.size w3).alloc (Nat.le_refl _) (.cells #[.int .i64 k.id, .int .i64 k.time, .int .i64 k.next, (.slice A3 k.held.length s3), (.slice M3 k.marks.length t3), (.slice I3 k.inbox.length u3)] 29)
  have D3 := o3.bel.trans (B3.mono o3.bel.size)
  have W3 := Lib.hid (show KBox _ _ k (.slice A3 k.held.length s3) (.slice M3 k.marks.length t3) (.slice I3 k.inbox.length u3) from Blk.new w3 29 #[.int .i64 k.id, .int .i64 k.time, .int .i64 k.next, (.slice A3 k.held.length s3), (.slice M3 k.marks.length t3), (.slice I3 k.inbox.length u3)])
  have HO3 := Lib.hid (o3.sees.later B3)
  have HB3 := Lib.hid (HB2.out.trans (D3.mono HB2.out.size))
  clear hdo hsz o3 B3 D3 HB2 hv1 HD1
  go_upto_region 6 with (fail)
  generalize w3.alloc (.cells #[.int .i64 k.id, .int .i64 k.time, .int .i64 k.next, (.slice A3 k.held.length s3), (.slice M3 k.marks.length t3), (.slice I3 k.inbox.length u3)] 29) = V3 at W3 HO3 HB3 ⊢
  generalize w3.heap.size = R3 at W3 ⊢
  go_wp2_with fail
  refine (HC.out _ HB3.out).mono ?_
  rintro e w4 ⟨v2, rfl, hO2⟩
  have G4 := Lib.hid (fun g (hg : v2.ownBlock = some g) => World.ownsRow.lt hO2.1 g hg)
  have O4 := Lib.hid hO2
  have C4 := Lib.hid hO2.2
  have HB4 := Lib.hid (HB3.out.trans (hO2.2.mono HB3.out.size))
  have LV := Lib.hid HB3.out.size
  have LC := Lib.hid hO2.2.size
  have S4 := Lib.hid (sees_of_own hO2)
  clear hO2 HB3
  go_upto_region 7 with (fail)
  go_wp2_with fail
  refine (HD2.out _ _ S4.out (hTab.later HB4.out) (hErr.later HB4.out)).mono ?_
  rintro e w5 ⟨k', bb', a5, b5, c5, rfl, hdo, _, o5⟩
  obtain ⟨rfl, rfl⟩ := ofK_one HDO.out hdo
  clear hdo
  obtain ⟨A5, s5, rfl⟩ := OwnR.form o5.held
  obtain ⟨M5, t5, rfl⟩ := OwnR.form o5.marks
  obtain ⟨I5, u5, rfl⟩ := OwnR.form o5.inbox
  have B5 := (Below.refl w5.heap.size w5).alloc (Nat.le_refl _) (.cells #[.int .i64 k.id, .int .i64 k.time, .int .i64 k.next, (.slice A5 k.held.length s5), (.slice M5 k.marks.length t5), (.slice I5 k.inbox.length u5)] 29)
  have D5 := o5.bel.trans (B5.mono o5.bel.size)
  have P5 := Lib.hid (show KBox _ _ k (.slice A5 k.held.length s5) (.slice M5 k.marks.length t5) (.slice I5 k.inbox.length u5) from Blk.new w5 29 #[.int .i64 k.id, .int .i64 k.time, .int .i64 k.next, (.slice A5 k.held.length s5), (.slice M5 k.marks.length t5), (.slice I5 k.inbox.length u5)])
  have O5 := Lib.hid (o5.three.later B5)
  have F5 := Lib.hid (o5.off (Nat.le_refl w5.heap.size))
  have L5 := Lib.hid (show w4.heap.size ≤ w5.heap.size from o5.bel.size)
  have T5 := Lib.hid (O4.out.later D5)
  have C5 := Lib.hid (C4.out.trans (D5.mono C4.out.size))
  have HB5 := Lib.hid (HB4.out.trans (D5.mono HB4.out.size))
  have y5 := W3.out.below (C4.out.trans (o5.bel.mono C4.out.size)) W3.out.lt
  clear o5 B5 D5 O4 C4 HB4 y5 S4
  go_upto_region 8 with (fail)
  generalize w5.alloc (.cells #[.int .i64 k.id, .int .i64 k.time, .int .i64 k.next, (.slice A5 k.held.length s5), (.slice M5 k.marks.length t5), (.slice I5 k.inbox.length u5)] 29) = V5 at P5 O5 T5 C5 HB5 ⊢
  generalize w5.heap.size = R5 at P5 F5 L5 ⊢
  have hbb : (bb != bb) = false := by simp
  obtain ⟨p0, p1, p2, p3, p4, p5⟩ := KBox.cells P5.out
  obtain ⟨q0, q1, q2, q3, q4, q5⟩ := KBox.cells (W3.out.below C5.out W3.out.lt)
  go_wp2_with fail
  refine (eqK_same _ k _ _ _ _ _ _ O5.out.sees (HO3.out.later C5.out) HSZ.out).mono ?_
  rintro e w6 ⟨rfl, B6⟩
  clear p0 p1 p2 p3 p4 p5 q0 q1 q2 q3 q4 q5
  have P6 := Lib.hid (P5.out.below B6 P5.out.lt)
  have O6 := Lib.hid (O5.out.later B6)
  have T6 := Lib.hid (T5.out.later B6)
  have C6 := Lib.hid (C5.out.trans (B6.mono C5.out.size))
  have HB6 := Lib.hid (HB5.out.trans (B6.mono HB5.out.size))
  clear P5 O5 T5 C5 HB5 B6
  go_upto_region 10 with (fail)
  go_wp2_with fail
  refine (HC.out _ HB6.out).mono ?_
  rintro e w7 ⟨v7, rfl, hO7⟩
  have B7 := hO7.2
  have s7 := Lib.hid (sees_of_own hO7)
  have P7 := Lib.hid (P6.out.below B7 P6.out.lt)
  have O7 := Lib.hid (O6.out.later B7)
  have T7 := Lib.hid (T6.out.later B7)
  have C7 := Lib.hid (C6.out.trans (B7.mono C6.out.size))
  have HB7 := Lib.hid (HB6.out.trans (B7.mono HB6.out.size))
  have n7 := T7.out
  clear P6 O6 T6 C6 HB6 B7 hO7
  go_wp2_with fail
  refine (eq_same _ _ _ l1 (sees_of_own T7.out) s7.out HLL.out).mono ?_
  rintro e w8 ⟨rfl, q8, rfl⟩
  have B8 : Below w7.heap.size w7 (w7.drewN q8) := ow.below_drewN' (Below.refl _ _) q8
  have P8 := Lib.hid (P7.out.below B8 P7.out.lt)
  have O8 := Lib.hid (O7.out.later B8)
  have T8 := Lib.hid (T7.out.later B8)
  have C8 := Lib.hid (C7.out.trans (B8.mono C7.out.size))
  have HB8 := Lib.hid (HB7.out.trans (B8.mono HB7.out.size))
  clear P7 O7 T7 C7 HB7 B8 s7 n7
  generalize w7.drewN q8 = w8 at P8 O8 T8 C8 HB8 ⊢
  go_upto_region 13 with (fail)
  go_wp2_with fail
  have hMK := mark_big T8.out 1 (by rw [List.length_map]; exact HLL.out) (by omega) (by omega)
  rw [List.length_map] at hMK
  refine hMK.mono ?_
  rintro e w9 ⟨rfl, _, t9⟩
  have D9 : Below V3.heap.size w8 w9 := t9.below (fun g hg => (G4.out g hg).1) C8.out.size
  have P9 := Lib.hid (show KBox w9 R5 k (.slice A5 k.held.length s5) (.slice M5 k.marks.length t5) (.slice I5 k.inbox.length u5) from (t9.2.2.2.2 R5 P8.out.lt (fun e => by have := (G4.out R5 e.symm).2; have := L5.out; omega)).trans P8.out)
  have O9 := Lib.hid (O8.out.keep (W' := w9) (fun g hg => t9.2.2.2.2 g (O8.out.rg g hg).2 (fun e => by have := (G4.out g e.symm).2; have := (O8.out.rg g hg).1; omega)))
  have C9 := Lib.hid (C8.out.trans D9)
  have HB9 := Lib.hid (HB8.out.trans (D9.mono LV.out))
  clear t9 D9 P8 O8 T8 C8 HB8 hMK
  have hy0 : decide (((1 + l1.length : Nat) : Int) < 0) = false := decide_eq_false (by omega)
  generalize ((1 + l1.length : Nat) : Int) = y0 at hy0 ⊢
  go_upto_region 14 with (fail)
  obtain ⟨p0, p1, p2, p3, p4, p5⟩ := KBox.cells P9.out
  obtain ⟨q0, q1, q2, q3, q4, q5⟩ := KBox.cells (W3.out.below C9.out W3.out.lt)
  go_wp2_with fail
  refine (eqK_same _ k _ _ _ _ _ _ O9.out.sees (HO3.out.later C9.out) HSZ.out).mono ?_
  rintro e w10 ⟨rfl, B10⟩
  clear p0 p1 p2 p3 p4 p5 q0 q1 q2 q3 q4 q5
  have P10 := Lib.hid (P9.out.below B10 P9.out.lt)
  have O10 := Lib.hid (O9.out.later B10)
  have C10 := Lib.hid (C9.out.trans (B10.mono C9.out.size))
  have HB10 := Lib.hid (HB9.out.trans (B10.mono HB9.out.size))
  clear P9 O9 C9 HB9 B10
  go_upto_region 17 with (fail)
  obtain ⟨p0, p1, p2, p3, p4, p5⟩ := KBox.cells P10.out
  go_wp2_with fail
  refine (markK_any _ _ k _ _ _ _ _ _ 1 O10.out (by omega) HN.out).mono ?_
  rintro e w11 ⟨rfl, o11, m11⟩
  have D11 := m11.below O10.out (by have := L5.out; have := P10.out.lt; omega)
  have P11 := Lib.hid (m11.blk P10.out F5.out)
  have O11 := Lib.hid o11
  have C11 := Lib.hid (C10.out.trans (D11.mono LC.out))
  have HB11 := Lib.hid (HB10.out.trans (D11.mono (Nat.le_trans LV.out LC.out)))
  clear p0 p1 p2 p3 p4 p5 o11 m11 D11 P10 O10 C10 HB10
  have HH := Lib.hid (fun V p q r (hS : SeesK V (kM 1 k.held.length k.marks.length k.inbox.length) (.slice A5 k.held.length s5) (.slice M5 k.marks.length t5) (.slice I5 k.inbox.length u5)) => heldK_any V (.slice A5 k.held.length s5) (.slice M5 k.marks.length t5) (.slice I5 k.inbox.length u5) p q r 1 k.held.length k.marks.length k.inbox.length hS (by omega) HN.out)
  have HS11 := Lib.hid O11.out.sees
  clear O11 HN
  unfold FoundPost at HH
  generalize kN 1 k.held.length k.marks.length k.inbox.length = y at HH HY ⊢
  generalize kM 1 k.held.length k.marks.length k.inbox.length = kk at HH HS11
  have hy : decide (y < 0) = false := decide_eq_false (by have h9 := HY.out; omega)
  have hyy : (y != y) = false := by simp
  go_upto_region 19 with (fail)
  obtain ⟨p0, p1, p2, p3, p4, p5⟩ := KBox.cells P11.out
  go_wp2_with fail
  refine (HH.out _ _ _ _ HS11.out).mono ?_
  rintro e w12 ⟨rfl, B12⟩
  clear p0 p1 p2 p3 p4 p5
  have P12 := Lib.hid (P11.out.below B12 P11.out.lt)
  have C12 := Lib.hid (C11.out.trans (B12.mono C11.out.size))
  have HB12 := Lib.hid (HB11.out.trans (B12.mono HB11.out.size))
  have HS12 := Lib.hid (HS11.out.later B12)
  clear P11 C11 HB11 HS11 B12
  go_upto_region 24 with (fail)
  go_wp2_with fail
  refine (HC.out _ HB12.out).mono ?_
  rintro e w13 ⟨v13, rfl, hO13⟩
  have S13 := Lib.hid (sees_of_own hO13)
  have P13 := Lib.hid (P12.out.below hO13.2 P12.out.lt)
  have C13 := Lib.hid (C12.out.trans (hO13.2.mono C12.out.size))
  have HB13 := Lib.hid (HB12.out.trans (hO13.2.mono HB12.out.size))
  have HS13 := Lib.hid (HS12.out.later hO13.2)
  clear P12 C12 HB12 HS12 hO13
  go_wp2_with fail
  refine (HD2.out _ _ S13.out (hTab.later HB13.out) (hErr.later HB13.out)).mono ?_
  rintro e w14 ⟨k', bb', a14, b14, c14, rfl, hdo, _, o14⟩
  obtain ⟨rfl, rfl⟩ := ofK_one HDO.out hdo
  clear hdo
  obtain ⟨A14, s14, rfl⟩ := OwnR.form o14.held
  obtain ⟨M14, t14, rfl⟩ := OwnR.form o14.marks
  obtain ⟨I14, u14, rfl⟩ := OwnR.form o14.inbox
  have B14 := (Below.refl w14.heap.size w14).alloc (Nat.le_refl _) (.cells #[.int .i64 k.id, .int .i64 k.time, .int .i64 k.next, (.slice A14 k.held.length s14), (.slice M14 k.marks.length t14), (.slice I14 k.inbox.length u14)] 29)
  have D14 := o14.bel.trans (B14.mono o14.bel.size)
  have Y14 := Lib.hid (show KBox _ _ k (.slice A14 k.held.length s14) (.slice M14 k.marks.length t14) (.slice I14 k.inbox.length u14) from Blk.new w14 29 #[.int .i64 k.id, .int .i64 k.time, .int .i64 k.next, (.slice A14 k.held.length s14), (.slice M14 k.marks.length t14), (.slice I14 k.inbox.length u14)])
  have O14 := Lib.hid (o14.sees.later B14)
  have P14 := Lib.hid (P13.out.below D14 P13.out.lt)
  have C14 := Lib.hid (C13.out.trans (D14.mono C13.out.size))
  have HB14 := Lib.hid (HB13.out.trans (D14.mono HB13.out.size))
  have HS14 := Lib.hid (HS13.out.later D14)
  clear o14 B14 D14 P13 C13 HB13 HS13 S13
  go_upto_region 25 with (fail)
  generalize w14.alloc (.cells #[.int .i64 k.id, .int .i64 k.time, .int .i64 k.next, (.slice A14 k.held.length s14), (.slice M14 k.marks.length t14), (.slice I14 k.inbox.length u14)] 29) = V14 at Y14 O14 P14 C14 HB14 HS14 ⊢
  generalize w14.heap.size = R14 at Y14 ⊢
  obtain ⟨p0, p1, p2, p3, p4, p5⟩ := KBox.cells Y14.out
  obtain ⟨q0, q1, q2, q3, q4, q5⟩ := KBox.cells (W3.out.below C14.out W3.out.lt)
  go_wp2_with fail
  refine (eqK_same _ k _ _ _ _ _ _ O14.out (HO3.out.later C14.out) HSZ.out).mono ?_
  rintro e w15 ⟨rfl, B15⟩
  clear p0 p1 p2 p3 p4 p5 q0 q1 q2 q3 q4 q5
  have P15 := Lib.hid (P14.out.below B15 P14.out.lt)
  have HB15 := Lib.hid (HB14.out.trans (B15.mono HB14.out.size))
  have HS15 := Lib.hid (HS14.out.later B15)
  clear P14 C14 HB14 HS14 B15 Y14 O14
  go_upto_region 28 with (fail)
  obtain ⟨p0, p1, p2, p3, p4, p5⟩ := KBox.cells P15.out
  go_wp2_with fail
  refine (HH.out _ _ _ _ HS15.out).mono ?_
  rintro e w16 ⟨rfl, B16⟩
  have HB16 := Lib.hid (HB15.out.trans (B16.mono HB15.out.size))
  clear p0 p1 p2 p3 p4 p5 P15 HB15 HS15 B16 HH
  go_wp2
  go_ret
  exact ⟨rfl, HB16.out⟩

set_option maxRecDepth 100000 in
set_option maxHeartbeats 1600000 in
theorem lifted (os : Os) (started : os.Started) (H : Type) (enc : TypeId × Value → H) :
    ReturnsInHanded {} Tryz.checked os 5 .any (fun w args => (Rows.fnExactKeepOfSpec.pre enc Tryz.prog Tryz.f5 [] false w args ∧ laidMetH Tryz.prog dc.list5 w) ∧ sizedMet enc Tryz.prog Tryz.f5 (OpenSpec.ofChange Rows.fnExactKeepOfSpec) false w args)
      (Rows.fnExactKeepOfSpec.post enc Tryz.prog Tryz.f5 false true false false) := by
  refine returnsInHanded_of_change_and (C := Tryz.checked) (X := fun w _ => laidMetH Tryz.prog dc.list5 w) (fun _ _ _ hh h => h.of_heap hh) own started (by kernel_rfl) Tryz.func5
    (ChangeSpec.witness_shaped (enc := enc) (C := Tryz.checked) (os := os) (X := fun w _ => laidMetH Tryz.prog dc.list5 w) false (World.doorLaid Tryz.prog 400 os) #[.int .i64 0, .slice none 0 0] 8 rfl (World.shaped_of_RefB (by kernel_rfl) (by kernel_rfl)) (by kernel_rfl) (by kernel_rfl) (by kernel_rfl) (dc.met5 os _)) ?_
  intro W base args ds gs before hval0 hW _ _ hL _
  have hval : ∀ (j : Nat) t v, Tryz.f5.params[j]? = some t → args[j]? = some v → Value.okWide Tryz.prog W .any base t v := hval0
  have hW' := hW
  obtain ⟨p, q, hA0, hV, rfl, hfz, hnd⟩ := hW
  have hA : DataW.TrodAll enc Tryz.prog W 0 (fun _ => true) true Tryz.f5.params.toList args.toList ds p := hA0
  rw [Tryz.params5] at hA hval
  obtain ⟨v0, vs0, d0, ds0, p0, q0, hargs, rfl, rfl, h0, r0⟩ := trodAll_cons hA
  obtain ⟨v1, vs1, d1, ds1, p1, q1, rfl, rfl, rfl, h1, r1⟩ := trodAll_cons r0
  obtain ⟨rfl, rfl, rfl⟩ := trodAll_nil r1
  obtain rfl : args = #[v0, v1] := by cases args; simp_all
  obtain ⟨rfl, rfl⟩ := trodVars_none hV
  have k0 := h0
  have lt0 : ∀ x ∈ p0, x.block < W.heap.size := by obtain ⟨m, hm⟩ := k0; exact DataW.trod_lt m _ _ _ hm
  have k1 := h1
  have lt1 : ∀ x ∈ p1, x.block < W.heap.size := by obtain ⟨m, hm⟩ := k1; exact DataW.trod_lt m _ _ _ hm
  obtain ⟨n0, rfl, rfl, rfl, hn0⟩ := open_int Tryz.underlying3 (hval 0 3 v0 rfl rfl) h0
  obtain ⟨a1, len1, cap1, rfl⟩ := okWide_slice Tryz.underlying23 (hval 1 23 v1 rfl rfl)
  obtain ⟨l1, hi1, hl1, hz1, hm1⟩ := si.ins_in h1
  obtain ⟨hTab, hErr⟩ := dc.of_list5 hL
  clear hA0 hval0
  refine (walk n0 a1 len1 cap1 l1 W hn0 hi1 hl1 hz1 hm1 hTab hErr).mono fun e W' ⟨he, bel⟩ => ?_
  subst he
  exact ⟨_, rfl, _, _, _, [], _, [], hW', trodAll_mk1 (shut_bool Tryz.underlying4 _), (trodAll_cons_mk (Below.trod laidOut (by kernel_rfl) (of_decide_eq_true (by kernel_rfl)) k0 bel lt0) (trodAll_cons_mk (Below.trod laidOut (by kernel_rfl) (of_decide_eq_true (by kernel_rfl)) k1 bel lt1) trodAll_mk0)), rfl, bel.frame _, fun h => by cases h⟩

theorem over : Rows.fnExactKeepOfRow.holds Tryz.pinned (OpenSpec.ofChange Rows.fnExactKeepOfSpec) :=
  OpenClaim.holds_of_wide 5 Tryz.f5 rfl rfl rfl rfl rfl rfl rfl ⟨rfl, rfl, rfl, rfl, rfl⟩ rfl rfl rfl rfl rfl (by kernel_rfl) Tryz.func5 (by kernel_rfl)
    (of_decide_eq_true (by kernel_rfl)) (by unfold Func.isWrapper; first | (rw [if_pos (by decide +kernel)]; kernel_rfl) | (rw [if_neg (by decide +kernel)]; exact ⟨rfl, rfl⟩))
    (fun os started H enc _ => lifted os started H enc)

theorem proved : Rows.FnExactKeepOfCardSaid :=
  Claim7.holds_tied_plain_at .later [] [.data, .data, .data, .sentinel, .sentinel] true (true, "b12f4d80612450a5fdff82a50da069518a9c418883f503181196f6adf8589d7f") true
    over (fun _ h => by cases h) (by kernel_rfl) (fun _ h => by cases h) fnExactKeepOf_row_tie rfl ⟨rfl, rfl⟩ (by kernel_rfl) rfl
    (fun f fn hf hfn => by
      obtain rfl : f = 5 := Option.some.inj ((show Tryz.prog.funcNamed "loop.example/bargeman/laws.FnExactKeepOf" = some 5 by kernel_rfl).symm.trans hf) |>.symm
      obtain rfl : fn = Tryz.f5 := (Option.some.inj (Tryz.func5.symm.trans hfn)).symm
      exact ⟨by kernel_rfl, fun j t ht => by
        rw [Tryz.params5] at ht
        have hm : t ∈ [3, 23] := by simpa using Array.mem_of_getElem? ht
        have hall : ([3, 23].all fun u => !Tryz.prog.wantsStandIn u) = true := by kernel_rfl
        exact (show Tryz.prog.wantsStandIn t = false by simpa using List.all_eq_true.1 hall t hm)⟩)
    (by kernel_rfl)
#print axioms proved
end Go.Proofs.YtgihbilpimempabGreatDoor.fnExactKeepOf
