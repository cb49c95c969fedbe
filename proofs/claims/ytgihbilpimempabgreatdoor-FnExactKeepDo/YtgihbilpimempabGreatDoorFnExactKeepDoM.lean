/-
  At every keep and record the program's KeepDo answers as the specification's, leaves its argument as it was and gives back lists of its own: the law returns true; the condition of the row: the listed variables of math/bits, strconv and errors read as the program's text lays them (tied by the card).
-/
import Derived.Test.YtgihbilpimempabGreatDoorRows
import Derived.Test.YtgihbilpimempabGreatDoorCards
import Derived.Test.YtgihbilpimempabGreatDoorTie
import Derived.Test.YtgihbilpimempabGreatDoorGFnExactKeepDo3
import Derived.Test.YtgihbilpimempabGreatDoorGFnExactKeepDo4
import Derived.WalkKit
import Derived.ProofKit
import Derived.OpenShut
import Derived.ShutString
import Derived.ChangeOld
import Derived.Below
import Derived.LaidMore
import Derived.Stop.Joined
import Derived.SevenTiedAt
import Derived.Test.YtgihbilpimempabGreatDoorGFnExactKeepDo5
import Derived.Test.YtgihbilpimempabGreatDoorGFnExactKeepDo6
import Derived.Test.YtgihbilpimempabGreatDoorGFnExactKeepDo7
import Derived.Test.YtgihbilpimempabGreatDoorGFnExactKeepDo25
import Derived.Test.YtgihbilpimempabGreatDoorGFnExactKeepDo46
namespace Go.Proofs.YtgihbilpimempabGreatDoor.fnExactKeepDo
open Go.ChangeShapes Go.WideShapes Go.ChangeAt Go.RowKit
open Go.ChangeMaps (open_string shut_string)
open Go.Proofs.YtgihbilpimempabGreatDoor.wd Go.Proofs.YtgihbilpimempabGreatDoor.kp Go.Proofs.YtgihbilpimempabGreatDoor.dc Go.Proofs.YtgihbilpimempabGreatDoor.ok
set_option linter.unusedVariables false

theorem own : ownKnob Tryz.prog.godebug = none := by kernel_rfl
theorem laidOut : laidOutB Tryz.prog = true := by kernel_rfl

set_option maxRecDepth 100000 in
set_option maxHeartbeats 4000000 in
theorem walk (k0 : kp.Kp) (vh0 vm0 vi0 : Value) (s1 : ByteArray) (w : World) (hK0 : kp.InK w k0 vh0 vm0 vi0) (hs1 : s1.size ≤ maxLen) (hTab : dc.Tab w) (hErr : dc.Errs w) :
    Calls Tryz.prog 4 #[kp.kpV k0.id k0.time k0.next vh0 vm0 vi0, .string s1] w fun e w' => e = .returned (.bool true) ∧ Below w.heap.size w w' := by
  have HK := Lib.hid hK0
  have HZ := Lib.hid (And.intro hK0.heldS hK0.inboxS)
  obtain ⟨Ah, ch, rfl, _⟩ := hK0.held
  obtain ⟨Am, cm, rfl, _⟩ := hK0.marks
  obtain ⟨Ai, ci, rfl, _⟩ := hK0.inbox
  have x0 : LBox _ _ k0 (.slice Ah k0.held.length ch) (.slice Am k0.marks.length cm) (.slice Ai k0.inbox.length ci) := Blk.new w 39 #[.int .i64 k0.id, .int .i64 k0.time, .int .i64 k0.next, (.slice Ah k0.held.length ch), (.slice Am k0.marks.length cm), (.slice Ai k0.inbox.length ci)]
  have B0 := (Below.refl w.heap.size w).alloc (Nat.le_refl _) (.cells #[.int .i64 k0.id, .int .i64 k0.time, .int .i64 k0.next, (.slice Ah k0.held.length ch), (.slice Am k0.marks.length cm), (.slice Ai k0.inbox.length ci)] 39)
  clear hK0
  by_cases hg : 1048576 < s1.size
  · have hg' : (1048576 : Int) < (s1.size : Int) := by omega
    have HB := Lib.hid B0
    clear x0 B0
    go_enter Tryz.func4, Tryz.ntmps4
    go_wp2
    go_ret
    exact ⟨rfl, HB.out⟩
  have hg' : ¬ (1048576 : Int) < (s1.size : Int) := by omega
  obtain ⟨l, hl⟩ : ∃ l, l = s1.data.toList := ⟨_, rfl⟩
  have hsl : str l = s1 := by rw [hl, str_data]
  have HD1 := Lib.hid (fun V k a b c h1 h2 h3 => keepDo_any V k a b c s1 (by omega) h1 h2 h3)
  rw [← hl] at HD1
  have HD2 := Lib.hid (fun V k a b c h1 h2 h3 h4 h5 => ikeepDo_any V k a b c l (by rw [hl, ← Lib.size_eq]; omega) h1 h2 h3 h4 h5)
  rw [hsl] at HD2
  unfold DoPost at HD1 HD2
  clear hl hsl
  go_enter Tryz.func4, Tryz.ntmps4
  go_wp2_with fail
  generalize w.alloc (.cells #[.int .i64 k0.id, .int .i64 k0.time, .int .i64 k0.next, (.slice Ah k0.held.length ch), (.slice Am k0.marks.length cm), (.slice Ai k0.inbox.length ci)] 39) = V at x0 B0 ⊢
  generalize w.heap.size = ra at x0 ⊢
  refine (szK_any _ k0 _ _ _ (HK.out.later B0)).mono ?_
  rintro e w1 ⟨r, rfl, hF, B1⟩
  have x1 := x0.below B1 x0.lt
  have HB1 := Lib.hid (B0.trans (B1.mono B0.size))
  clear x0 B0 B1
  by_cases hr : r < 0
  · clear x1 hF
    go_wp2
    go_ret
    exact ⟨rfl, HB1.out⟩
  have HF := Lib.hid (hF (by omega))
  have hr' := hr
  clear hF
  obtain ⟨p0, p1, p2, p3, p4, p5⟩ := LBox.cells x1
  have X1 := Lib.hid x1
  clear x1
  go_wp2_with fail
  refine (toK_any _ k0 _ _ _ (HK.out.later HB1.out) HF.out).mono ?_
  rintro e w2 ⟨a2, b2, c2, rfl, o2⟩
  have S2 := Lib.hid o2.sees
  have X2 := Lib.hid (X1.out.below o2.bel X1.out.lt)
  have HB2 := Lib.hid (HB1.out.trans (o2.bel.mono HB1.out.size))
  clear p0 p1 p2 p3 p4 p5 o2 hr hr' X1 HB1
  go_wp2_with fail
  refine (HD1.out _ _ _ _ _ S2.out HF.out HZ.out).mono ?_
  rintro e w3 ⟨k, bb, a3, b3, c3, rfl, hdo, hsz, o3⟩
  have HDO := Lib.hid hdo
  have HSZ := Lib.hid (hsz.few (show 14 ≤ 1048576 by omega))
  have HN := Lib.hid (show ((1 : Int) + 5 * k.held.length + 3 * k.marks.length + 5 * k.inbox.length < 100000000) by have := hsz.h; have := hsz.m; have := hsz.i; omega)
  have HY := Lib.hid (show ¬ kN 1 k.held.length k.marks.length k.inbox.length < 0 by unfold kN; omega)
  have HN0 := Lib.hid (show ((1 : Int) + 5 * k0.held.length + 3 * k0.marks.length + 5 * k0.inbox.length < 100000000) by obtain ⟨f1, f2, f3⟩ := HF.out; omega)
  have HY0 := Lib.hid (show ¬ kN 1 k0.held.length k0.marks.length k0.inbox.length < 0 by unfold kN; omega)
  obtain ⟨A3, s3, rfl⟩ := OwnR.form o3.held
  obtain ⟨M3, t3, rfl⟩ := OwnR.form o3.marks
  obtain ⟨I3, u3, rfl⟩ := OwnR.form o3.inbox
  have B3 := (Below.refl w3.heap.size w3).alloc (Nat.le_refl _) (.cells #[.int .i64 k.id, .int .i64 k.time, .int .i64 k.next, (.slice A3 k.held.length s3), (.slice M3 k.marks.length t3), (.slice I3 k.inbox.length u3)] 29)
  have D3 := o3.bel.trans (B3.mono o3.bel.size)
  have W3 := Lib.hid (show KBox _ _ k (.slice A3 k.held.length s3) (.slice M3 k.marks.length t3) (.slice I3 k.inbox.length u3) from Blk.new w3 29 #[.int .i64 k.id, .int .i64 k.time, .int .i64 k.next, (.slice A3 k.held.length s3), (.slice M3 k.marks.length t3), (.slice I3 k.inbox.length u3)])
  have HO3 := Lib.hid (o3.sees.later B3)
  have X3 := Lib.hid (X2.out.below D3 X2.out.lt)
  have HB3 := Lib.hid (HB2.out.trans (D3.mono HB2.out.size))
  have y3 := X2.out.below o3.bel X2.out.lt
  obtain ⟨p0, p1, p2, p3, p4, p5⟩ := LBox.cells y3
  have l3 := y3.lt
  clear y3 hdo hsz o3 B3 D3 X2 HB2 S2 HD1
  go_upto_region 8 with (fail)
  clear p0 p1 p2 p3 p4 p5 l3
  generalize w3.alloc (.cells #[.int .i64 k.id, .int .i64 k.time, .int .i64 k.next, (.slice A3 k.held.length s3), (.slice M3 k.marks.length t3), (.slice I3 k.inbox.length u3)] 29) = V3 at W3 HO3 X3 HB3 ⊢
  have LX := Lib.hid X3.out.lt
  have LV := Lib.hid HB3.out.size
  generalize w3.heap.size = R3 at W3 ⊢
  obtain ⟨p0, p1, p2, p3, p4, p5⟩ := LBox.cells X3.out
  go_wp2_with fail
  refine (toK_any _ k0 _ _ _ (HK.out.later HB3.out) HF.out).mono ?_
  rintro e w4 ⟨a4, b4, c4, rfl, o4⟩
  clear p0 p1 p2 p3 p4 p5
  obtain ⟨A4, s4, rfl⟩ := OwnR.form o4.held
  obtain ⟨M4, t4, rfl⟩ := OwnR.form o4.marks
  obtain ⟨I4, u4, rfl⟩ := OwnR.form o4.inbox
  have B4 := (Below.refl w4.heap.size w4).alloc (Nat.le_refl _) (.cells #[.int .i64 k0.id, .int .i64 k0.time, .int .i64 k0.next, (.slice A4 k0.held.length s4), (.slice M4 k0.marks.length t4), (.slice I4 k0.inbox.length u4)] 29)
  have D4 := o4.bel.trans (B4.mono o4.bel.size)
  have P4 := Lib.hid (show KBox _ _ k0 (.slice A4 k0.held.length s4) (.slice M4 k0.marks.length t4) (.slice I4 k0.inbox.length u4) from Blk.new w4 29 #[.int .i64 k0.id, .int .i64 k0.time, .int .i64 k0.next, (.slice A4 k0.held.length s4), (.slice M4 k0.marks.length t4), (.slice I4 k0.inbox.length u4)])
  have O4 := Lib.hid (o4.three.later B4)
  have F4 := Lib.hid (o4.off (Nat.le_refl w4.heap.size))
  have G4 := Lib.hid (o4.rg)
  have X4 := Lib.hid (X3.out.below D4 X3.out.lt)
  have HB4 := Lib.hid (HB3.out.trans (D4.mono HB3.out.size))
  have C4 := Lib.hid D4
  have LV4 := Lib.hid D4.size
  have L4 := Lib.hid (show w4.heap.size < (w4.alloc (.cells #[.int .i64 k0.id, .int .i64 k0.time, .int .i64 k0.next, (.slice A4 k0.held.length s4), (.slice M4 k0.marks.length t4), (.slice I4 k0.inbox.length u4)] 29)).heap.size by simp)
  clear o4 B4 D4 X3 HB3
  go_upto_region 9 with (fail)
  generalize w4.alloc (.cells #[.int .i64 k0.id, .int .i64 k0.time, .int .i64 k0.next, (.slice A4 k0.held.length s4), (.slice M4 k0.marks.length t4), (.slice I4 k0.inbox.length u4)] 29) = V4 at P4 O4 X4 HB4 C4 L4 LV4 ⊢
  generalize hR4 : w4.heap.size = R4 at P4 F4 G4 L4 ⊢
  clear hR4
  obtain ⟨p0, p1, p2, p3, p4, p5⟩ := KBox.cells P4.out
  go_wp2_with fail
  refine (HD2.out _ _ _ _ _ O4.out.sees HF.out HZ.out (hTab.later HB4.out) (hErr.later HB4.out)).mono ?_
  rintro e w5 ⟨k', bb', a5, b5, c5, rfl, hdo, _, o5⟩
  obtain ⟨rfl, rfl⟩ := doK_one HDO.out hdo
  clear p0 p1 p2 p3 p4 p5 hdo
  obtain ⟨A5, s5, rfl⟩ := OwnR.form o5.held
  obtain ⟨M5, t5, rfl⟩ := OwnR.form o5.marks
  obtain ⟨I5, u5, rfl⟩ := OwnR.form o5.inbox
  have B5 := (Below.refl w5.heap.size w5).alloc (Nat.le_refl _) (.cells #[.int .i64 k.id, .int .i64 k.time, .int .i64 k.next, (.slice A5 k.held.length s5), (.slice M5 k.marks.length t5), (.slice I5 k.inbox.length u5)] 29)
  have D5 := o5.bel.trans (B5.mono o5.bel.size)
  have P5 := Lib.hid (show KBox _ _ k (.slice A5 k.held.length s5) (.slice M5 k.marks.length t5) (.slice I5 k.inbox.length u5) from Blk.new w5 29 #[.int .i64 k.id, .int .i64 k.time, .int .i64 k.next, (.slice A5 k.held.length s5), (.slice M5 k.marks.length t5), (.slice I5 k.inbox.length u5)])
  have O5 := Lib.hid (o5.three.later B5)
  have F5 := Lib.hid (o5.off (Nat.le_refl w5.heap.size))
  have G5 := Lib.hid (o5.rg)
  have L5 := Lib.hid (show V4.heap.size ≤ w5.heap.size from o5.bel.size)
  have Q4 := Lib.hid (P4.out.below D5 P4.out.lt)
  have N4 := Lib.hid (O4.out.later D5)
  have X5 := Lib.hid (X4.out.below D5 X4.out.lt)
  have C5 := Lib.hid (C4.out.trans (D5.mono C4.out.size))
  have HB5 := Lib.hid (HB4.out.trans (D5.mono HB4.out.size))
  have y5 := W3.out.below (C4.out.trans (o5.bel.mono C4.out.size)) W3.out.lt
  obtain ⟨q0, q1, q2, q3, q4, q5⟩ := KBox.cells y5
  have l5 := y5.lt
  clear o5 B5 D5 P4 O4 X4 C4 HB4 y5 q0 q1 q2 q3 q4 q5 l5
  go_upto_region 10 with (fail)
  generalize w5.alloc (.cells #[.int .i64 k.id, .int .i64 k.time, .int .i64 k.next, (.slice A5 k.held.length s5), (.slice M5 k.marks.length t5), (.slice I5 k.inbox.length u5)] 29) = V5 at P5 O5 Q4 N4 X5 C5 HB5 ⊢
  generalize w5.heap.size = R5 at P5 F5 G5 L5 ⊢
  have hbb : (bb != bb) = false := by simp
  have l5 := P5.out.lt
  obtain ⟨p0, p1, p2, p3, p4, p5⟩ := KBox.cells P5.out
  obtain ⟨q0, q1, q2, q3, q4, q5⟩ := KBox.cells (W3.out.below C5.out W3.out.lt)
  go_wp2_with fail
  refine (eqK_same _ k _ _ _ _ _ _ O5.out.sees (HO3.out.later C5.out) HSZ.out).mono ?_
  rintro e w6 ⟨rfl, B6⟩
  clear p0 p1 p2 p3 p4 p5 q0 q1 q2 q3 q4 q5 l5
  have P6 := Lib.hid (P5.out.below B6 P5.out.lt)
  have O6 := Lib.hid (O5.out.later B6)
  have Q6 := Lib.hid (Q4.out.below B6 Q4.out.lt)
  have N6 := Lib.hid (N4.out.later B6)
  have X6 := Lib.hid (X5.out.below B6 X5.out.lt)
  have C6 := Lib.hid (C5.out.trans (B6.mono C5.out.size))
  have HB6 := Lib.hid (HB5.out.trans (B6.mono HB5.out.size))
  clear P5 O5 Q4 N4 X5 C5 HB5 B6
  go_upto_region 12 with (fail)
  obtain ⟨p0, p1, p2, p3, p4, p5⟩ := LBox.cells X6.out
  obtain ⟨q0, q1, q2, q3, q4, q5⟩ := KBox.cells Q6.out
  have HT := Lib.hid (fun V' (hB : Below w6.heap.size w6 V') => toK_any V' k0 _ _ _ (HK.out.later (HB6.out.trans (hB.mono HB6.out.size))) HF.out)
  go_region_with ((first | (go_at_call 15; refine (HT.out _ (by exact ⟨rfl, rfl, rfl, Nat.le_refl _, fun _ _ => rfl⟩)).mono ?_; rintro e w7 ⟨a7, b7, c7, rfl, o7⟩; have D7 : Below w6.heap.size w6 w7 := ⟨o7.bel.os, o7.bel.tape, o7.bel.output, o7.bel.size, o7.bel.block⟩; clear p0 p1 p2 p3 p4 p5 q0 q1 q2 q3 q4 q5; obtain ⟨q0, q1, q2, q3, q4, q5⟩ := KBox.cells (Q6.out.below D7 Q6.out.lt); have S7 := Lib.hid o7.sees; have T7 := Lib.hid (N6.out.later D7); have E7 := Lib.hid D7; clear o7 D7) | (go_at_call 16; have Z := eqK_same w7 k0 _ _ _ _ _ _ T7.out.sees S7.out HF.out; refine Z.mono ?_; clear Z; rintro e w8 ⟨rfl, B8⟩; have E8 := Lib.hid (E7.out.trans (B8.mono E7.out.size)); clear B8)))
  all_goals
    clear q0 q1 q2 q3 q4 q5 S7 T7 E7
    have P8 := Lib.hid (P6.out.below E8.out P6.out.lt)
    have O8 := Lib.hid (O6.out.later E8.out)
    have Q8 := Lib.hid (Q6.out.below E8.out Q6.out.lt)
    have N8 := Lib.hid (N6.out.later E8.out)
    have X8 := Lib.hid (X6.out.below E8.out X6.out.lt)
    have C8 := Lib.hid (C6.out.trans (E8.out.mono C6.out.size))
    have HB8 := Lib.hid (HB6.out.trans (E8.out.mono HB6.out.size))
    clear P6 O6 Q6 N6 X6 C6 HB6 E8 HT
    rename_i Ka aKa
    show Ka _ _
    refine aKa _ _ ?_
    clear aKa Ka
    change Code.wp _ _ _ (Act.put _ (some 52) _) _
    simp only [Act.put, List.setIfInBounds_toArray, List.set_cons_zero, List.set_cons_succ]
    go_upto_region 15 with (fail)
    obtain ⟨q0, q1, q2, q3, q4, q5⟩ := KBox.cells Q8.out
    go_wp2_with fail
    refine (markK_any _ _ k0 _ _ _ _ _ _ 1 N8.out (by omega) HN0.out).mono ?_
    rintro e w9 ⟨rfl, n9, m9⟩
    have D9 := m9.below N8.out C8.out.size
    have P9 := Lib.hid (m9.blk P8.out (G4.out.off (.inr (by have := L4.out; have := L5.out; omega))))
    have O9 := Lib.hid (O8.out.beside m9 G4.out (Nat.le_of_lt L4.out))
    have X9 := Lib.hid (X8.out.below D9 LX.out)
    have C9 := Lib.hid (C8.out.trans D9)
    have HB9 := Lib.hid (HB8.out.trans (D9.mono LV.out))
    clear q0 q1 q2 q3 q4 q5 n9 m9 D9 P8 O8 Q8 N8 X8 C8 HB8 HN0
    generalize kN 1 k0.held.length k0.marks.length k0.inbox.length = y0 at HY0 ⊢
    have hy0 : decide (y0 < 0) = false := decide_eq_false (by have h9 := HY0.out; omega)
    go_upto_region 16 with (fail)
    obtain ⟨p0, p1, p2, p3, p4, p5⟩ := KBox.cells P9.out
    obtain ⟨q0, q1, q2, q3, q4, q5⟩ := KBox.cells (W3.out.below C9.out W3.out.lt)
    go_wp2_with fail
    refine (eqK_same _ k _ _ _ _ _ _ O9.out.sees (HO3.out.later C9.out) HSZ.out).mono ?_
    rintro e w10 ⟨rfl, B10⟩
    clear p0 p1 p2 p3 p4 p5 q0 q1 q2 q3 q4 q5
    have P10 := Lib.hid (P9.out.below B10 P9.out.lt)
    have O10 := Lib.hid (O9.out.later B10)
    have X10 := Lib.hid (X9.out.below B10 X9.out.lt)
    have C10 := Lib.hid (C9.out.trans (B10.mono C9.out.size))
    have HB10 := Lib.hid (HB9.out.trans (B10.mono HB9.out.size))
    clear P9 O9 X9 C9 HB9 B10
    go_upto_region 19 with (fail)
    obtain ⟨p0, p1, p2, p3, p4, p5⟩ := KBox.cells P10.out
    go_wp2_with fail
    refine (markK_any _ _ k _ _ _ _ _ _ 1 O10.out (by omega) HN.out).mono ?_
    rintro e w11 ⟨rfl, o11, m11⟩
    have D11 := m11.below O10.out (by have := L5.out; have := P10.out.lt; omega)
    have P11 := Lib.hid (m11.blk P10.out F5.out)
    have O11 := Lib.hid o11
    have X11 := Lib.hid (X10.out.below D11 (Nat.lt_of_lt_of_le LX.out LV4.out))
    have C11 := Lib.hid (C10.out.trans (D11.mono LV4.out))
    have HB11 := Lib.hid (HB10.out.trans (D11.mono (Nat.le_trans LV.out LV4.out)))
    clear p0 p1 p2 p3 p4 p5 o11 m11 D11 P10 O10 X10 C10 HB10
    have HH := Lib.hid (fun V p q r (hS : SeesK V (kM 1 k.held.length k.marks.length k.inbox.length) (.slice A5 k.held.length s5) (.slice M5 k.marks.length t5) (.slice I5 k.inbox.length u5)) => heldK_any V (.slice A5 k.held.length s5) (.slice M5 k.marks.length t5) (.slice I5 k.inbox.length u5) p q r 1 k.held.length k.marks.length k.inbox.length hS (by omega) HN.out)
    have HS11 := Lib.hid O11.out.sees
    clear O11 HN
    unfold FoundPost at HH
    generalize kN 1 k.held.length k.marks.length k.inbox.length = y at HH HY ⊢
    generalize kM 1 k.held.length k.marks.length k.inbox.length = kk at HH HS11
    have hy : decide (y < 0) = false := decide_eq_false (by have h9 := HY.out; omega)
    have hyy : (y != y) = false := by simp
    go_upto_region 21 with (fail)
    obtain ⟨p0, p1, p2, p3, p4, p5⟩ := KBox.cells P11.out
    go_wp2_with fail
    refine (HH.out _ _ _ _ HS11.out).mono ?_
    rintro e w12 ⟨rfl, B12⟩
    clear p0 p1 p2 p3 p4 p5
    have P12 := Lib.hid (P11.out.below B12 P11.out.lt)
    have X12 := Lib.hid (X11.out.below B12 X11.out.lt)
    have C12 := Lib.hid (C11.out.trans (B12.mono C11.out.size))
    have HB12 := Lib.hid (HB11.out.trans (B12.mono HB11.out.size))
    have HS12 := Lib.hid (HS11.out.later B12)
    clear P11 X11 C11 HB11 HS11 B12
    go_upto_region 26 with (fail)
    obtain ⟨p0, p1, p2, p3, p4, p5⟩ := LBox.cells X12.out
    go_wp2_with fail
    refine (toK_any _ k0 _ _ _ (HK.out.later HB12.out) HF.out).mono ?_
    rintro e w13 ⟨a13, b13, c13, rfl, o13⟩
    clear p0 p1 p2 p3 p4 p5
    have S13 := Lib.hid o13.sees
    have P13 := Lib.hid (P12.out.below o13.bel P12.out.lt)
    have C13 := Lib.hid (C12.out.trans (o13.bel.mono C12.out.size))
    have HB13 := Lib.hid (HB12.out.trans (o13.bel.mono HB12.out.size))
    have HS13 := Lib.hid (HS12.out.later o13.bel)
    clear P12 X12 C12 HB12 HS12 o13
    go_wp2_with fail
    refine (HD2.out _ _ _ _ _ S13.out HF.out HZ.out (hTab.later HB13.out) (hErr.later HB13.out)).mono ?_
    rintro e w14 ⟨k', bb', a14, b14, c14, rfl, hdo, _, o14⟩
    obtain ⟨rfl, rfl⟩ := doK_one HDO.out hdo
    clear hdo
    obtain ⟨A14, s14, rfl⟩ := OwnR.form o14.held
    obtain ⟨M14, t14, rfl⟩ := OwnR.form o14.marks
    obtain ⟨I14, u14, rfl⟩ := OwnR.form o14.inbox
    have B14 := (Below.refl w14.heap.size w14).alloc (Nat.le_refl _) (.cells #[.int .i64 k.id, .int .i64 k.time, .int .i64 k.next, (.slice A14 k.held.length s14), (.slice M14 k.marks.length t14), (.slice I14 k.inbox.length u14)] 29)
    have D14 := o14.bel.trans (B14.mono o14.bel.size)
    have Y14 := Lib.hid (show KBox _ _ k (.slice A14 k.held.length s14) (.slice M14 k.marks.length t14) (.slice I14 k.inbox.length u14) from Blk.new w14 29 #[.int .i64 k.id, .int .i64 k.time, .int .i64 k.next, (.slice A14 k.held.length s14), (.slice M14 k.marks.length t14), (.slice I14 k.inbox.length u14)])
    have O14 := Lib.hid (o14.sees.later B14)
    have P14 := Lib.hid (P13.out.below D14 P13.out.lt)
    have C14 := Lib.hid (C13.out.trans (D14.mono C13.out.size))
    have HB14 := Lib.hid (HB13.out.trans (D14.mono HB13.out.size))
    have HS14 := Lib.hid (HS13.out.later D14)
    clear o14 B14 D14 P13 C13 HB13 HS13 S13
    go_upto_region 27 with (fail)
    generalize w14.alloc (.cells #[.int .i64 k.id, .int .i64 k.time, .int .i64 k.next, (.slice A14 k.held.length s14), (.slice M14 k.marks.length t14), (.slice I14 k.inbox.length u14)] 29) = V14 at Y14 O14 P14 C14 HB14 HS14 ⊢
    generalize w14.heap.size = R14 at Y14 ⊢
    obtain ⟨p0, p1, p2, p3, p4, p5⟩ := KBox.cells Y14.out
    obtain ⟨q0, q1, q2, q3, q4, q5⟩ := KBox.cells (W3.out.below C14.out W3.out.lt)
    go_wp2_with fail
    refine (eqK_same _ k _ _ _ _ _ _ O14.out (HO3.out.later C14.out) HSZ.out).mono ?_
    rintro e w15 ⟨rfl, B15⟩
    clear p0 p1 p2 p3 p4 p5 q0 q1 q2 q3 q4 q5
    have P15 := Lib.hid (P14.out.below B15 P14.out.lt)
    have HB15 := Lib.hid (HB14.out.trans (B15.mono HB14.out.size))
    have HS15 := Lib.hid (HS14.out.later B15)
    clear P14 C14 HB14 HS14 B15 Y14 O14
    go_upto_region 30 with (fail)
    obtain ⟨p0, p1, p2, p3, p4, p5⟩ := KBox.cells P15.out
    go_wp2_with fail
    refine (HH.out _ _ _ _ HS15.out).mono ?_
    rintro e w16 ⟨rfl, B16⟩
    have HB16 := Lib.hid (HB15.out.trans (B16.mono HB15.out.size))
    clear p0 p1 p2 p3 p4 p5 P15 HB15 HS15 B16 HH
    go_wp2
    go_ret
    exact ⟨rfl, HB16.out⟩

set_option maxRecDepth 100000 in
set_option maxHeartbeats 1600000 in
theorem lifted (os : Os) (started : os.Started) (H : Type) (enc : TypeId × Value → H) :
    ReturnsInHanded {} Tryz.checked os 4 .any (fun w args => (Rows.fnExactKeepDoSpec.pre enc Tryz.prog Tryz.f4 [] false w args ∧ laidMetH Tryz.prog dc.list5 w) ∧ sizedMet enc Tryz.prog Tryz.f4 (OpenSpec.ofChange Rows.fnExactKeepDoSpec) false w args)
      (Rows.fnExactKeepDoSpec.post enc Tryz.prog Tryz.f4 false true false false) := by
  refine returnsInHanded_of_change_and (C := Tryz.checked) (X := fun w _ => laidMetH Tryz.prog dc.list5 w) (fun _ _ _ hh h => h.of_heap hh) own started (by kernel_rfl) Tryz.func4
    (ChangeSpec.witness_shaped (enc := enc) (C := Tryz.checked) (os := os) (X := fun w _ => laidMetH Tryz.prog dc.list5 w) false (World.doorLaid Tryz.prog 400 os) #[kp.kpV 0 0 0 (.slice none 0 0) (.slice none 0 0) (.slice none 0 0), .string ByteArray.empty] 8 rfl (World.shaped_of_RefB (by kernel_rfl) (by kernel_rfl)) (by kernel_rfl) (by kernel_rfl) (by kernel_rfl) (dc.met5 os _)) ?_
  intro W base args ds gs before hval0 hW _ _ hL _
  have hval : ∀ (j : Nat) t v, Tryz.f4.params[j]? = some t → args[j]? = some v → Value.okWide Tryz.prog W .any base t v := hval0
  have hW' := hW
  obtain ⟨p, q, hA0, hV, rfl, hfz, hnd⟩ := hW
  have hA : DataW.TrodAll enc Tryz.prog W 0 (fun _ => true) true Tryz.f4.params.toList args.toList ds p := hA0
  rw [Tryz.params4] at hA hval
  obtain ⟨v0, vs0, d0, ds0, p0, q0, hargs, rfl, rfl, h0, r0⟩ := trodAll_cons hA
  obtain ⟨v1, vs1, d1, ds1, p1, q1, rfl, rfl, rfl, h1, r1⟩ := trodAll_cons r0
  obtain ⟨rfl, rfl, rfl⟩ := trodAll_nil r1
  obtain rfl : args = #[v0, v1] := by cases args; simp_all
  obtain ⟨rfl, rfl⟩ := trodVars_none hV
  have k0 := h0
  have lt0 : ∀ x ∈ p0, x.block < W.heap.size := by obtain ⟨m, hm⟩ := k0; exact DataW.trod_lt m _ _ _ hm
  have k1 := h1
  have lt1 : ∀ x ∈ p1, x.block < W.heap.size := by obtain ⟨m, hm⟩ := k1; exact DataW.trod_lt m _ _ _ hm
  obtain ⟨kq0, vh0, vm0, vi0, rfl, hK0⟩ := kp.keep_in (hval 0 39 v0 rfl rfl) h0
  obtain ⟨s1, rfl, rfl, rfl, hs1⟩ := open_string Tryz.underlying9 (hval 1 9 v1 rfl rfl) h1
  obtain ⟨hTab, hErr⟩ := dc.of_list5 hL
  clear hA0 hval0
  refine (walk kq0 vh0 vm0 vi0 s1 W hK0 hs1 hTab hErr).mono fun e W' ⟨he, bel⟩ => ?_
  subst he
  exact ⟨_, rfl, _, _, _, [], _, [], hW', trodAll_mk1 (shut_bool Tryz.underlying4 _), (trodAll_cons_mk (Below.trod laidOut (by kernel_rfl) (of_decide_eq_true (by kernel_rfl)) k0 bel lt0) (trodAll_cons_mk (Below.trod laidOut (by kernel_rfl) (of_decide_eq_true (by kernel_rfl)) k1 bel lt1) trodAll_mk0)), rfl, bel.frame _, fun h => by cases h⟩

theorem over : Rows.fnExactKeepDoRow.holds Tryz.pinned (OpenSpec.ofChange Rows.fnExactKeepDoSpec) :=
  OpenClaim.holds_of_wide 4 Tryz.f4 rfl rfl rfl rfl rfl rfl rfl ⟨rfl, rfl, rfl, rfl, rfl⟩ rfl rfl rfl rfl rfl (by kernel_rfl) Tryz.func4 (by kernel_rfl)
    (of_decide_eq_true (by kernel_rfl)) (by unfold Func.isWrapper; first | (rw [if_pos (by decide +kernel)]; kernel_rfl) | (rw [if_neg (by decide +kernel)]; exact ⟨rfl, rfl⟩))
    (fun os started H enc _ => lifted os started H enc)

theorem proved : Rows.FnExactKeepDoCardSaid :=
  Claim7.holds_tied_plain_at .later [] [.data, .data, .data, .sentinel, .sentinel] true (true, "b12f4d80612450a5fdff82a50da069518a9c418883f503181196f6adf8589d7f") true
    over (fun _ h => by cases h) (by kernel_rfl) (fun _ h => by cases h) fnExactKeepDo_row_tie rfl ⟨rfl, rfl⟩ (by kernel_rfl) rfl
    (fun f fn hf hfn => by
      obtain rfl : f = 4 := Option.some.inj ((show Tryz.prog.funcNamed "loop.example/bargeman/laws.FnExactKeepDo" = some 4 by kernel_rfl).symm.trans hf) |>.symm
      obtain rfl : fn = Tryz.f4 := (Option.some.inj (Tryz.func4.symm.trans hfn)).symm
      exact ⟨by kernel_rfl, fun j t ht => by
        rw [Tryz.params4] at ht
        have hm : t ∈ [39, 9] := by simpa using Array.mem_of_getElem? ht
        have hall : ([39, 9].all fun u => !Tryz.prog.wantsStandIn u) = true := by kernel_rfl
        exact (show Tryz.prog.wantsStandIn t = false by simpa using List.all_eq_true.1 hall t hm)⟩)
    (by kernel_rfl)
#print axioms proved
end Go.Proofs.YtgihbilpimempabGreatDoor.fnExactKeepDo
