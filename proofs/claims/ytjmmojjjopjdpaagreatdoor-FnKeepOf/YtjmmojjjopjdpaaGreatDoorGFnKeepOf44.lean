/-
  Merged texts: WFnKeepOf.
-/
import Derived.Test.YtjmmojjjopjdpaaGreatDoorRows
import Derived.Test.YtjmmojjjopjdpaaGreatDoorCards
import Derived.Test.YtjmmojjjopjdpaaGreatDoorTie
import Derived.Test.YtjmmojjjopjdpaaGreatDoorGFnKeepOf3
import Derived.Test.YtjmmojjjopjdpaaGreatDoorGFnKeepOf22
import Derived.Test.YtjmmojjjopjdpaaGreatDoorGFnKeepOf43
import Derived.Test.YtjmmojjjopjdpaaGreatDoorGFnKeepOf42
import Derived.Test.YtjmmojjjopjdpaaGreatDoorGFnKeepOf41
import Derived.Test.YtjmmojjjopjdpaaGreatDoorGFnKeepOf10
import Derived.Test.YtjmmojjjopjdpaaGreatDoorGFnKeepOf5
import Derived.WalkKit
import Derived.ProofKit
import Derived.OpenShut
import Derived.ShutString
import Derived.ChangeOld
import Derived.Below
import Derived.LaidMore
import Derived.Stop.Joined
import Derived.SevenTiedAt
/-
  Whatever the two codes: of the number and the records drawn by the first KeepOf answers as the specification's; where they can all be done, KeepOf of the first of them (how many the second says) and KeepDo of the rest, one by one, come to the same keep, and KeepStart answers as the specification's: the law returns true; the condition of the row: the listed variables of math/bits, strconv and errors read as the program's text lays them (tied by the card).
-/
namespace Go.Proofs.YtjmmojjjopjdpaaGreatDoor.fnKeepOf
open Go.ChangeShapes Go.WideShapes Go.ChangeAt Go.RowKit
open Go.ChangeMaps (open_string shut_string)
open Go.Proofs.YtjmmojjjopjdpaaGreatDoor.wd Go.Proofs.YtjmmojjjopjdpaaGreatDoor.kp Go.Proofs.YtjmmojjjopjdpaaGreatDoor.dc Go.Proofs.YtjmmojjjopjdpaaGreatDoor.ok Go.Proofs.YtjmmojjjopjdpaaGreatDoor.sl Go.Proofs.YtjmmojjjopjdpaaGreatDoor.ow
set_option linter.unusedVariables false

theorem own : ownKnob Tryz.prog.godebug = none := by kernel_rfl
theorem laidOut : laidOutB Tryz.prog = true := by kernel_rfl

set_option maxRecDepth 100000 in
set_option maxHeartbeats 20000000 in
theorem walk (a0 : Option Addr) (len0 cap0 : Nat) (a1 : Option Addr) (len1 cap1 : Nat) (w : World) (hb0 : wd.Bytes w w.heap.size a0 len0) (hl0 : len0 ≤ cap0) (hm0 : cap0 ≤ maxLen) (hb1 : wd.Bytes w w.heap.size a1 len1) (hl1 : len1 ≤ cap1) (hm1 : cap1 ≤ maxLen) (hTab : dc.Tab w) (hErr : dc.Errs w) :
    Calls Tryz.prog 3 #[.slice a0 len0 cap0, .slice a1 len1 cap1] w fun e w' => e = .returned (.bool true) ∧ Below w.heap.size w w' := by
  have hm0' : cap0 ≤ 9223372036854775807 := hm0
  have hm1' : cap1 ≤ 9223372036854775807 := hm1
  by_cases hg0 : 1048576 < len0
  · go_enter Tryz.func3, Tryz.ntmps3
    go_wp2
    go_ret
    exact ⟨rfl, Below.refl _ _⟩
  by_cases hg1 : 1048576 < len1
  · go_enter Tryz.func3, Tryz.ntmps3
    go_wp2
    go_ret
    exact ⟨rfl, Below.refl _ _⟩
  go_enter Tryz.func3, Tryz.ntmps3
  go_wp2_with fail
  refine (drawKeepOf _ _ _ _ hb0 hl0 hm0).mono ?_
  rintro e w1 ⟨id, v, xs, rfl, i0, i1, hn, hz, hO1⟩
  have HO1 := Lib.hid hO1
  have HS1 := Lib.hid (sees_of_own hO1)
  have HZ := Lib.hid (show (∀ x ∈ xs, x.size ≤ 1048576) from fun x hx => by have := hz x hx; omega)
  have HB1 := Lib.hid hO1.2
  have HTab := Lib.hid hTab
  have HErr := Lib.hid hErr
  clear hb0 hl0 hm0 hb1 hm1 hO1 hz hTab hErr
  obtain ⟨A, cp, rfl, _⟩ := HS1.out
  go_wp2_with fail
  refine (keepOf_any _ id _ xs HS1.out (by omega) HZ.out).mono ?_
  rintro e w2 ⟨k, bb, u2, v2, x2, rfl, hdo, hsz, o2⟩
  have HDO := Lib.hid hdo
  have HSZ := Lib.hid (hsz.few (show 14 ≤ 1048576 by omega))
  have HSK := Lib.hid hsz
  clear hdo hsz
  obtain ⟨A2, s2, rfl⟩ := OwnR.form o2.held
  obtain ⟨M2, t2, rfl⟩ := OwnR.form o2.marks
  obtain ⟨I2, u2, rfl⟩ := OwnR.form o2.inbox
  have B2 := (Below.refl w2.heap.size w2).alloc (Nat.le_refl _) (.cells #[.int .i64 k.id, .int .i64 k.time, .int .i64 k.next, (.slice A2 k.held.length s2), (.slice M2 k.marks.length t2), (.slice I2 k.inbox.length u2)] 29)
  have D2 := o2.bel.trans (B2.mono o2.bel.size)
  have P2 := Lib.hid (show KBox _ _ k (.slice A2 k.held.length s2) (.slice M2 k.marks.length t2) (.slice I2 k.inbox.length u2) from Blk.new w2 29 #[.int .i64 k.id, .int .i64 k.time, .int .i64 k.next, (.slice A2 k.held.length s2), (.slice M2 k.marks.length t2), (.slice I2 k.inbox.length u2)])
  have S2 := Lib.hid (o2.sees.later B2)
  have HB2 := Lib.hid (HB1.out.trans (D2.mono HB1.out.size))
  have HO2 := Lib.hid (HO1.out.later D2)
  clear o2 B2 D2 HB1 HO1 HS1
  go_upto_region 5 with (fail)
  generalize w2.alloc (.cells #[.int .i64 k.id, .int .i64 k.time, .int .i64 k.next, (.slice A2 k.held.length s2), (.slice M2 k.marks.length t2), (.slice I2 k.inbox.length u2)] 29) = V2 at P2 S2 HB2 HO2 ⊢
  generalize w2.heap.size = R2 at P2 ⊢
  go_wp2_with fail
  refine (ikeepOf_any _ id _ xs (sees_of_own HO2.out) (by omega) HZ.out (HTab.out.later HB2.out) (HErr.out.later HB2.out)).mono ?_
  rintro e w3 ⟨k', bb', u3, v3, x3, rfl, hdo, _, o3⟩
  obtain ⟨rfl, rfl⟩ := ofK_one HDO.out hdo
  clear hdo
  obtain ⟨A3, s3, rfl⟩ := OwnR.form o3.held
  obtain ⟨M3, t3, rfl⟩ := OwnR.form o3.marks
  obtain ⟨I3, u3, rfl⟩ := OwnR.form o3.inbox
  have B3 := (Below.refl w3.heap.size w3).alloc (Nat.le_refl _) (.cells #[.int .i64 k.id, .int .i64 k.time, .int .i64 k.next, (.slice A3 k.held.length s3), (.slice M3 k.marks.length t3), (.slice I3 k.inbox.length u3)] 29)
  have D3 := o3.bel.trans (B3.mono o3.bel.size)
  have P3 := Lib.hid (show KBox _ _ k (.slice A3 k.held.length s3) (.slice M3 k.marks.length t3) (.slice I3 k.inbox.length u3) from Blk.new w3 29 #[.int .i64 k.id, .int .i64 k.time, .int .i64 k.next, (.slice A3 k.held.length s3), (.slice M3 k.marks.length t3), (.slice I3 k.inbox.length u3)])
  have S3 := Lib.hid (o3.sees.later B3)
  have HO3 := Lib.hid (HO2.out.later D3)
  have HB3 := Lib.hid (HB2.out.trans (D3.mono HB2.out.size))
  have Q3 := Lib.hid (P2.out.below D3 P2.out.lt)
  have U3 := Lib.hid (S2.out.later D3)
  have L3 := Lib.hid (show V2.heap.size ≤ w3.heap.size from o3.bel.size)
  have F3 := Lib.hid (fun g (hg : g < w3.heap.size + 1) (hg' : V2.heap.size ≤ g) => hg)
  have y3 := P2.out.below o3.bel P2.out.lt
  obtain ⟨e0, e1, e2, e3, e4, e5⟩ := KBox.cells y3
  clear o3 B3 D3 HB2 HO2 P2 S2 F3 y3
  go_upto_region 6 with (fail)
  clear e0 e1 e2 e3 e4 e5
  generalize w3.alloc (.cells #[.int .i64 k.id, .int .i64 k.time, .int .i64 k.next, (.slice A3 k.held.length s3), (.slice M3 k.marks.length t3), (.slice I3 k.inbox.length u3)] 29) = V3 at P3 S3 HO3 HB3 Q3 U3 ⊢
  generalize w3.heap.size = R3 at P3 L3 ⊢
  cases bb with
  | false =>
    obtain ⟨p0, p1, p2, p3, p4, p5⟩ := KBox.cells P3.out
    obtain ⟨q0, q1, q2, q3, q4, q5⟩ := KBox.cells Q3.out
    go_wp2_with fail
    refine (lbK_same _ k _ _ _ _ _ _ S3.out U3.out HSZ.out).mono ?_
    rintro e w4 ⟨rfl, B4⟩
    clear p0 p1 p2 p3 p4 p5 q0 q1 q2 q3 q4 q5
    have P4 := Lib.hid (P3.out.below B4 P3.out.lt)
    have S4 := Lib.hid (S3.out.later B4)
    have HB4 := Lib.hid (HB3.out.trans (B4.mono HB3.out.size))
    have Q4 := Lib.hid (Q3.out.below B4 Q3.out.lt)
    have U4 := Lib.hid (U3.out.later B4)
    clear P3 S3 HB3 Q3 U3 B4
    go_upto_region 7 with (fail)
    obtain ⟨p0, p1, p2, p3, p4, p5⟩ := KBox.cells P4.out
    obtain ⟨q0, q1, q2, q3, q4, q5⟩ := KBox.cells Q4.out
    go_wp2_with fail
    refine (lbK_same _ k _ _ _ _ _ _ S4.out U4.out HSZ.out).mono ?_
    rintro e w5 ⟨rfl, B5⟩
    clear p0 p1 p2 p3 p4 p5 q0 q1 q2 q3 q4 q5
    have HB5 := Lib.hid (HB4.out.trans (B5.mono HB4.out.size))
    clear B5
    go_wp2
    go_ret
    exact ⟨rfl, HB5.out⟩
  | true =>
    obtain ⟨p0, p1, p2, p3, p4, p5⟩ := KBox.cells P3.out
    obtain ⟨q0, q1, q2, q3, q4, q5⟩ := KBox.cells Q3.out
    go_wp2_with fail
    refine (lbK_same _ k _ _ _ _ _ _ S3.out U3.out HSZ.out).mono ?_
    rintro e w4 ⟨rfl, B4⟩
    clear p0 p1 p2 p3 p4 p5 q0 q1 q2 q3 q4 q5
    have P4 := Lib.hid (P3.out.below B4 P3.out.lt)
    have S4 := Lib.hid (S3.out.later B4)
    have HB4 := Lib.hid (HB3.out.trans (B4.mono HB3.out.size))
    have HO4 := Lib.hid (HO3.out.later B4)
    clear P3 S3 HB3 HO3 Q3 U3 B4
    obtain ⟨j, hj, ej⟩ := rem_first len1 xs.length
    have hnz : ((xs.length : Int) + 1) ≠ 0 := by omega
    have hnp : (0 : Int) < (xs.length : Int) + 1 := by omega
    have hcp := own_fit HO4.out
    have hjc : j ≤ cp := by omega
    go_upto_region 9 with (fail)
    go_wp2_with fail
    refine (ikeepOf_any _ id _ (xs.take j) (sees_first (sees_of_own HO4.out) hj) (by rw [List.length_take]; omega) (fun x hx => HZ.out x (List.mem_of_mem_take hx)) (HTab.out.later HB4.out) (HErr.out.later HB4.out)).mono ?_
    rintro e w5 ⟨x, b1, u4, v4, x4, rfl, hdo, hsx, o4⟩
    have htx : txs (xs.take j) = (txs xs).take j := by unfold txs; rw [List.map_take]
    rw [htx] at hdo
    obtain ⟨rfl, hrun, hok, hin⟩ := of_parts HDO.out j hdo
    clear hdo htx
    obtain ⟨A4, s4, rfl⟩ := OwnR.form o4.held
    obtain ⟨M4, t4, rfl⟩ := OwnR.form o4.marks
    obtain ⟨I4, u4, rfl⟩ := OwnR.form o4.inbox
    have BX := (Below.refl w5.heap.size w5).alloc (Nat.le_refl _) (.cells #[.int .i64 x.id, .int .i64 x.time, .int .i64 x.next, (.slice A4 x.held.length s4), (.slice M4 x.marks.length t4), (.slice I4 x.inbox.length u4)] 29)
    have DX := o4.bel.trans (BX.mono o4.bel.size)
    have PX := Lib.hid (show KBox _ _ x (.slice A4 x.held.length s4) (.slice M4 x.marks.length t4) (.slice I4 x.inbox.length u4) from Blk.new w5 29 #[.int .i64 x.id, .int .i64 x.time, .int .i64 x.next, (.slice A4 x.held.length s4), (.slice M4 x.marks.length t4), (.slice I4 x.inbox.length u4)])
    have SX := Lib.hid (o4.sees.later BX)
    have HL := Lib.hid (Lp.new (HB4.out.trans (o4.bel.mono HB4.out.size)) o4 (HO4.out.later o4.bel) (P4.out.below o4.bel P4.out.lt) (S4.out.later o4.bel) hsx)
    have HRun := Lib.hid hrun
    have HOk := Lib.hid hok
    clear hrun hok hsx o4 BX DX PX SX P4 S4 HB4 HO4
    go_upto_region 10 with (fail)
    generalize w5.alloc (.cells #[.int .i64 x.id, .int .i64 x.time, .int .i64 x.next, (.slice A4 x.held.length s4), (.slice M4 x.marks.length t4), (.slice I4 x.inbox.length u4)] 29) = V5 at HL ⊢
    generalize w5.heap.size = R at HL ⊢
    go_wp2
    go_loopw [13, 14] (fun fn i wr => ∃ (n : Nat) (x : Kp) (a b c : Value), i = .int .i64 n ∧ n ≤ xs.length ∧ fn = .bool true ∧ Hid (Lp w wr R x a b c (.slice A xs.length cp) xs R3 k (.slice A3 k.held.length s3) (.slice M3 k.marks.length t3) (.slice I3 k.inbox.length u3)) ∧ Hid (Runs x ((txs xs).drop n) k) ∧ Hid (okK x = true)) (fun _ i _ => (xs.length + 1 : Nat) - (intOf i).toNat)
    case atStart => exact ⟨j, x, _, _, _, rfl, hj, rfl, HL.out, HRun.out, HOk.out⟩
    case round =>
      clear HL HRun HOk
      obtain ⟨n, x, a, b, c, rfl, hn', rfl, HL, HRun, HOk⟩ := hrel
      obtain ⟨Aa, sa, rfl, _⟩ := HL.out.sees.held
      obtain ⟨Ab, sb, rfl, _⟩ := HL.out.sees.marks
      obtain ⟨Ac, sc, rfl, _⟩ := HL.out.sees.inbox
      by_cases hnx : n < xs.length
      · obtain ⟨s, hs⟩ : ∃ s, xs[n]? = some s := ⟨_, List.getElem?_eq_getElem hnx⟩
        obtain ⟨A', c', e, hc⟩ := HL.out.recs
        injection e with e1 e2 e3
        subst e1; subst e3
        clear e2
        obtain ⟨g, rfl, hg, hcell⟩ := hc (by omega)
        have hcs := hcell n s hs
        have HC := Lib.hid hcs
        have HG := Lib.hid hg
        have hn0 : (0 : Int) ≤ (n : Int) := by omega
        have hn1 : (n : Int) < (xs.length : Int) := by omega
        have hzs : s.size ≤ 1048576 := HZ.out s (List.mem_of_getElem? hs)
        clear hc hcell hcs hg
        go_upto_region 13 with (fail)
        have h0 := (Below.refl wr.heap.size wr).drew
        refine wp_region_held_drew (S := (fun w' : World => Blk w' R 29 #[.int .i64 x.id, .int .i64 x.time, .int .i64 x.next, .slice Aa x.held.length sa, .slice Ab x.marks.length sb, .slice Ac x.inbox.length sc] ∧ w'.cell? ⟨g, n, none⟩ = some (.string s))) (by kernel_rfl) ⟨HL.out.box.below h0 HL.out.box.lt, (h0.cell (p := ⟨g, n, none⟩) HG.out).trans HC.out⟩ (fun hHeld => ?_)
        clear hHeld
        have HLd := Lib.hid (HL.out.later h0)
        have HCd := Lib.hid ((h0.cell (p := ⟨g, n, none⟩) HG.out).trans HC.out)
        have HGd := Lib.hid (Nat.lt_of_lt_of_le HG.out h0.size)
        clear h0 HC HG HL
        generalize wr.drew = Z at HLd HCd HGd ⊢
        have hKd : Blk Z R 29 #[.int .i64 x.id, .int .i64 x.time, .int .i64 x.next, .slice Aa x.held.length sa, .slice Ab x.marks.length sb, .slice Ac x.inbox.length sc] ∧ Z.cell? ⟨g, n, none⟩ = some (.string s) := ⟨HLd.out.box, HCd.out⟩
        refine rs.want_take (i := 0) 85 (v := ?_) rfl rfl (by kernel_rfl) (by kernel_rfl) (by kernel_rfl) (fun _ _ _ _ h => h) rfl ?_ (by assumption) ?_
        rotate_left 1
        · (intro w' hSw; obtain ⟨k0, k1, k2, k3, k4, k5⟩ := cells6 hSw.1; have k6 := hSw.2; go_simp; try with_reducible rfl)
        simp only [List.setIfInBounds_toArray, List.set_cons_zero, List.set_cons_succ]
        refine rs.want_take (i := 1) 86 (v := ?_) rfl rfl (by kernel_rfl) (by kernel_rfl) (by kernel_rfl) (fun _ _ _ _ h => h) rfl ?_ (by assumption) ?_
        rotate_left 1
        · (intro w' hSw; obtain ⟨k0, k1, k2, k3, k4, k5⟩ := cells6 hSw.1; have k6 := hSw.2; go_simp; try with_reducible rfl)
        simp only [List.setIfInBounds_toArray, List.set_cons_zero, List.set_cons_succ]
        refine rs.want_take (i := 2) 87 (v := ?_) rfl rfl (by kernel_rfl) (by kernel_rfl) (by kernel_rfl) (fun _ _ _ _ h => h) rfl ?_ (by assumption) ?_
        rotate_left 1
        · (intro w' hSw; obtain ⟨k0, k1, k2, k3, k4, k5⟩ := cells6 hSw.1; have k6 := hSw.2; go_simp; try with_reducible rfl)
        simp only [List.setIfInBounds_toArray, List.set_cons_zero, List.set_cons_succ]
        refine rs.want_take (i := 3) 88 (v := ?_) rfl rfl (by kernel_rfl) (by kernel_rfl) (by kernel_rfl) (fun _ _ _ _ h => h) rfl ?_ (by assumption) ?_
        rotate_left 1
        · (intro w' hSw; obtain ⟨k0, k1, k2, k3, k4, k5⟩ := cells6 hSw.1; have k6 := hSw.2; go_simp; try with_reducible rfl)
        simp only [List.setIfInBounds_toArray, List.set_cons_zero, List.set_cons_succ]
        refine rs.want_take (i := 4) 89 (v := ?_) rfl rfl (by kernel_rfl) (by kernel_rfl) (by kernel_rfl) (fun _ _ _ _ h => h) rfl ?_ (by assumption) ?_
        rotate_left 1
        · (intro w' hSw; obtain ⟨k0, k1, k2, k3, k4, k5⟩ := cells6 hSw.1; have k6 := hSw.2; go_simp; try with_reducible rfl)
        simp only [List.setIfInBounds_toArray, List.set_cons_zero, List.set_cons_succ]
        refine wpAnyH_ready (rs := [5, 9]) (by kernel_rfl) (by simp) ?_
        refine AllReadyH.cons rfl (fun K hK => ?_) (AllReadyH.cons rfl (fun K hK => ?_) AllReadyH.nil)
        · go_simp
          have hd0 := ikeepDo_any Z x _ _ _ s.data.toList (by rw [← Lib.size_eq]; exact hzs) HLd.out.sees (HLd.out.sz.few (by omega)) HLd.out.sz.texts (HTab.out.later HLd.out.bel) (HErr.out.later HLd.out.bel)
          rw [str_data] at hd0
          refine hd0.mono ?_
          clear hd0
          rintro e u1 ⟨y, did, yu, yv, yw, rfl, hdo, hsy, oy⟩
          obtain ⟨rfl, hrun, hok⟩ := runs_next HRun.out HOk.out (txs_at hs) hdo
          obtain ⟨Ad, sd, rfl, _⟩ := oy.sees.held
          obtain ⟨Ae, se, rfl, _⟩ := oy.sees.marks
          obtain ⟨Af, sf, rfl, _⟩ := oy.sees.inbox
          have HRun2 := Lib.hid hrun
          have HOk2 := Lib.hid hok
          have HSy := Lib.hid hsy
          have HOy := Lib.hid (oy.off' (R := R) HLd.out.box.lt)
          have HSe := Lib.hid oy.sees
          have HL1 := Lib.hid (HLd.out.later oy.bel)
          have HC1 := Lib.hid ((oy.bel.cell (p := ⟨g, n, none⟩) HGd.out).trans HCd.out)
          have HG1 := Lib.hid (Nat.lt_of_lt_of_le HGd.out oy.bel.size)
          clear hKd
          have hKd : Blk u1 R 29 #[.int .i64 x.id, .int .i64 x.time, .int .i64 x.next, .slice Aa x.held.length sa, .slice Ab x.marks.length sb, .slice Ac x.inbox.length sc] ∧ u1.cell? ⟨g, n, none⟩ = some (.string s) := ⟨HL1.out.box, HC1.out⟩
          clear hrun hok hsy oy hdo HLd HCd HGd HRun HOk
          refine hK.out _ _ hKd (fun hHeld => ?_)
          clear hK K hHeld
          refine rs.want_take (i := 6) 84 (v := ?_) rfl rfl (by kernel_rfl) (by kernel_rfl) (by kernel_rfl) (fun _ _ _ _ h => h) rfl ?_ (by assumption) ?_
          rotate_left 1
          · (intro w' hSw; obtain ⟨k0, k1, k2, k3, k4, k5⟩ := cells6 hSw.1; have k6 := hSw.2; go_simp; try with_reducible rfl)
          simp only [List.setIfInBounds_toArray, List.set_cons_zero, List.set_cons_succ]
          refine rs.want_take (i := 7) 91 (v := ?_) rfl rfl (by kernel_rfl) (by kernel_rfl) (by kernel_rfl) (fun _ _ _ _ h => h) rfl ?_ (by assumption) ?_
          rotate_left 1
          · (intro w' hSw; obtain ⟨k0, k1, k2, k3, k4, k5⟩ := cells6 hSw.1; have k6 := hSw.2; go_simp; try with_reducible rfl)
          simp only [List.setIfInBounds_toArray, List.set_cons_zero, List.set_cons_succ]
          refine rs.want_take (i := 8) 92 (v := ?_) rfl rfl (by kernel_rfl) (by kernel_rfl) (by kernel_rfl) (fun _ _ _ _ h => h) rfl ?_ (by assumption) ?_
          rotate_left 1
          · (intro w' hSw; obtain ⟨k0, k1, k2, k3, k4, k5⟩ := cells6 hSw.1; have k6 := hSw.2; go_simp; try with_reducible rfl)
          simp only [List.setIfInBounds_toArray, List.set_cons_zero, List.set_cons_succ]
          refine wpAnyH_ready (rs := [9]) (by kernel_rfl) (by simp) ?_
          refine AllReadyH.cons rfl (fun K hK => ?_) AllReadyH.nil
          go_simp
          have hB := (Below.refl u1.heap.size u1).alloc (Nat.le_refl _) (.cells #[.int .i64 0, .int .i64 0, .int .i64 0, .slice none 0 0, .slice none 0 0, .slice none 0 0] 29)
          have HL4 := Lib.hid (HL1.out.later hB)
          have HC4 := Lib.hid ((hB.cell (p := ⟨g, n, none⟩) HG1.out).trans HC1.out)
          refine hK.out _ _ ⟨HL4.out.box, HC4.out⟩ (fun hHeld => ?_)
          clear hK K hHeld
          have hKd2 := And.intro HL4.out.box HC4.out
          refine wpAnyH_ready (rs := [10]) (by kernel_rfl) (by simp) ?_
          refine AllReadyH.cons rfl (fun K hK => ?_) AllReadyH.nil
          go_simp
          have hB5 := (Below.refl u1.heap.size u1).alloc (Nat.le_refl _) (.cells #[.int .i64 y.id, .int .i64 y.time, .int .i64 y.next, .slice Ad y.held.length sd, .slice Ae y.marks.length se, .slice Af y.inbox.length sf] 29)
          have HL2 := Lib.hid (HL1.out.later hB5)
          have HC2 := Lib.hid ((hB5.cell (p := ⟨g, n, none⟩) HG1.out).trans HC1.out)
          have HY := Lib.hid (Blk.new u1 29 #[.int .i64 y.id, .int .i64 y.time, .int .i64 y.next, .slice Ad y.held.length sd, .slice Ae y.marks.length se, .slice Af y.inbox.length sf])
          have HS2 := Lib.hid (HSe.out.later hB5)
          refine hK.out _ _ ⟨HL2.out.box, HC2.out⟩ (fun hHeld => ?_)
          clear hK K hHeld hKd hKd2 HL4 HC4 hB hB5 HL1 HC1 HSe
          have hKd := And.intro HL2.out.box HC2.out
          refine rs.want_take (i := 11) 16 (v := ?_) rfl rfl (by kernel_rfl) (by kernel_rfl) (by kernel_rfl) (fun _ _ _ _ h => h) rfl ?_ (by assumption) ?_
          rotate_left 1
          · (intro w' hSw; obtain ⟨k0, k1, k2, k3, k4, k5⟩ := cells6 hSw.1; have k6 := hSw.2; go_simp; try with_reducible rfl)
          simp only [List.setIfInBounds_toArray, List.set_cons_zero, List.set_cons_succ]
          refine wpAnyH_done (by kernel_rfl) ?_ _
          clear hKd HC2
          generalize u1.alloc (.cells #[.int .i64 y.id, .int .i64 y.time, .int .i64 y.next, .slice Ad y.held.length sd, .slice Ae y.marks.length se, .slice Af y.inbox.length sf] 29) = W2 at HL2 HY HS2 ⊢
          generalize u1.heap.size = ob at HY ⊢
          go_upto_region 15 with (fail)
          obtain ⟨y0, y1, y2, y3, y4, y5⟩ := cells6 HY.out
          have f0 := HL2.out.box.frozen 0
          have f1 := HL2.out.box.frozen 1
          have f2 := HL2.out.box.frozen 2
          have f3 := HL2.out.box.frozen 3
          have f4 := HL2.out.box.frozen 4
          have f5 := HL2.out.box.frozen 5
          obtain ⟨m0, m1, m2, m3, m4, m5⟩ := cells6 HL2.out.box
          have HL3 := Lib.hid (HL2.out.put HS2.out HOy.out HSy.out)
          clear HL2 HS2 HY
          go_wp2
          go_roundw
          case rel => exact ⟨n + 1, y, _, _, _, by go_num, by omega, rfl, HL3.out, HRun2.out, HOk2.out⟩
          case measure => simp [intOf]; omega
        · go_simp
          have hB := (Below.refl Z.heap.size Z).alloc (Nat.le_refl _) (.cells #[.int .i64 0, .int .i64 0, .int .i64 0, .slice none 0 0, .slice none 0 0, .slice none 0 0] 29)
          have hzr : R < Z.heap.size := HLd.out.box.lt
          have HLz := Lib.hid HLd.out
          have HLd := Lib.hid (HLd.out.later hB)
          have HCd := Lib.hid ((hB.cell (p := ⟨g, n, none⟩) HGd.out).trans HCd.out)
          have hzg := HGd.out
          have HGd := Lib.hid (Nat.lt_of_lt_of_le HGd.out hB.size)
          have HXd := Lib.hid (Blk.new Z 29 #[.int .i64 0, .int .i64 0, .int .i64 0, .slice none 0 0, .slice none 0 0, .slice none 0 0])
          have hKd := And.intro HLd.out.box HCd.out
          refine hK.out _ _ hKd (fun hHeld => ?_)
          clear hK K hHeld hB
          generalize Z.alloc (.cells #[.int .i64 0, .int .i64 0, .int .i64 0, .slice none 0 0, .slice none 0 0, .slice none 0 0] 29) = Z2 at HLd HCd HGd HXd hKd ⊢
          refine wpAnyH_ready (rs := [5]) (by kernel_rfl) (by simp) ?_
          refine AllReadyH.cons rfl (fun K hK => ?_) AllReadyH.nil
          go_simp
          have hd0 := ikeepDo_any Z2 x _ _ _ s.data.toList (by rw [← Lib.size_eq]; exact hzs) HLd.out.sees (HLd.out.sz.few (by omega)) HLd.out.sz.texts (HTab.out.later HLd.out.bel) (HErr.out.later HLd.out.bel)
          rw [str_data] at hd0
          refine hd0.mono ?_
          clear hd0
          rintro e u1 ⟨y, did, yu, yv, yw, rfl, hdo, hsy, oy⟩
          obtain ⟨rfl, hrun, hok⟩ := runs_next HRun.out HOk.out (txs_at hs) hdo
          obtain ⟨Ad, sd, rfl, _⟩ := oy.sees.held
          obtain ⟨Ae, se, rfl, _⟩ := oy.sees.marks
          obtain ⟨Af, sf, rfl, _⟩ := oy.sees.inbox
          have HRun2 := Lib.hid hrun
          have HOk2 := Lib.hid hok
          have HSy := Lib.hid hsy
          have HOy := Lib.hid (oy.off' (R := R) HLd.out.box.lt)
          have HSe := Lib.hid oy.sees
          have HL1 := Lib.hid (HLd.out.later oy.bel)
          have HC1 := Lib.hid ((oy.bel.cell (p := ⟨g, n, none⟩) HGd.out).trans HCd.out)
          have HG1 := Lib.hid (Nat.lt_of_lt_of_le HGd.out oy.bel.size)
          have HX1 := Lib.hid (HXd.out.below oy.bel HXd.out.lt)
          have HOb := Lib.hid (oy.off' (R := Z.heap.size) HXd.out.lt)
          have hKd9 : Blk u1 R 29 #[.int .i64 x.id, .int .i64 x.time, .int .i64 x.next, .slice Aa x.held.length sa, .slice Ab x.marks.length sb, .slice Ac x.inbox.length sc] ∧ u1.cell? ⟨g, n, none⟩ = some (.string s) := ⟨HL1.out.box, HC1.out⟩
          clear hrun hok hsy oy hdo HLd HCd HGd hKd HRun HOk
          refine hK.out _ _ hKd9 (fun hHeld => ?_)
          clear hK K hHeld
          have hKd := hKd9
          clear hKd9
          refine rs.want_take (i := 6) 84 (v := ?_) rfl rfl (by kernel_rfl) (by kernel_rfl) (by kernel_rfl) (fun _ _ _ _ h => h) rfl ?_ (by assumption) ?_
          rotate_left 1
          · (intro w' hSw; obtain ⟨k0, k1, k2, k3, k4, k5⟩ := cells6 hSw.1; have k6 := hSw.2; go_simp; try with_reducible rfl)
          simp only [List.setIfInBounds_toArray, List.set_cons_zero, List.set_cons_succ]
          refine rs.want_take (i := 7) 91 (v := ?_) rfl rfl (by kernel_rfl) (by kernel_rfl) (by kernel_rfl) (fun _ _ _ _ h => h) rfl ?_ (by assumption) ?_
          rotate_left 1
          · (intro w' hSw; obtain ⟨k0, k1, k2, k3, k4, k5⟩ := cells6 hSw.1; have k6 := hSw.2; go_simp; try with_reducible rfl)
          simp only [List.setIfInBounds_toArray, List.set_cons_zero, List.set_cons_succ]
          refine rs.want_take (i := 8) 92 (v := ?_) rfl rfl (by kernel_rfl) (by kernel_rfl) (by kernel_rfl) (fun _ _ _ _ h => h) rfl ?_ (by assumption) ?_
          rotate_left 1
          · (intro w' hSw; obtain ⟨k0, k1, k2, k3, k4, k5⟩ := cells6 hSw.1; have k6 := hSw.2; go_simp; try with_reducible rfl)
          simp only [List.setIfInBounds_toArray, List.set_cons_zero, List.set_cons_succ]
          obtain ⟨n0, n1, n2, n3, n4, n5⟩ := cells6 HX1.out
          obtain ⟨m0, m1, m2, m3, m4⟩ := frozen5 HX1.out
          have m5 := HX1.out.frozen 5
          generalize hob : Z.heap.size = ob at HX1 HOb hzr hzg n0 n1 n2 n3 n4 n5 m0 m1 m2 m3 m4 m5 ⊢
          have hzo : Z.heap.size ≤ ob := by omega
          refine wpAnyH_ready (rs := [10]) (by kernel_rfl) (by simp) ?_
          refine AllReadyH.cons rfl (fun K hK => ?_) AllReadyH.nil
          go_simp
          obtain ⟨W2, hW2⟩ : ∃ W2, W2 = (((((u1.setCell ⟨ob, 0, none⟩ (.int .i64 y.id)).setCell ⟨ob, 1, none⟩ (.int .i64 y.time)).setCell ⟨ob, 2, none⟩ (.int .i64 y.next)).setCell ⟨ob, 3, none⟩ (.slice Ad y.held.length sd)).setCell ⟨ob, 4, none⟩ (.slice Ae y.marks.length se)).setCell ⟨ob, 5, none⟩ (.slice Af y.inbox.length sf) := ⟨_, rfl⟩
          have hG5 : u1.grownBy W2 (some ob) := by
            rw [hW2]
            exact kp.set_grown (kp.set_grown (kp.set_grown (kp.set_grown (kp.set_grown (kp.set_grown (dr.below_grown (Below.refl _ _) _) 0 _) 1 _) 2 _) 3 _) 4 _) 5 _
          have HL2 := Lib.hid (HL1.out.beside HLz.out hzo hG5)
          have HC2 := Lib.hid (grown_cell hG5 HG1.out (by omega) HC1.out)
          have HY : Hid (Blk W2 ob 29 #[.int .i64 y.id, .int .i64 y.time, .int .i64 y.next, .slice Ad y.held.length sd, .slice Ae y.marks.length se, .slice Af y.inbox.length sf]) := by
            rw [hW2]
            exact Lib.hid (put6_blk (a' := .int .i64 y.id) (b' := .int .i64 y.time) (c' := .int .i64 y.next) (d' := .slice Ad y.held.length sd) (e' := .slice Ae y.marks.length se) (f' := .slice Af y.inbox.length sf) HX1.out)
          have HS2 := Lib.hid (seesK_grown HSe.out hG5 HOb.out)
          rw [← hW2]
          refine hK.out _ _ ⟨HL2.out.box, HC2.out⟩ (fun hHeld => ?_)
          clear hK K hHeld hKd n0 n1 n2 n3 n4 n5 m0 m1 m2 m3 m4 m5
          have hKd := And.intro HL2.out.box HC2.out
          refine rs.want_take (i := 11) 16 (v := ?_) rfl rfl (by kernel_rfl) (by kernel_rfl) (by kernel_rfl) (fun _ _ _ _ h => h) rfl ?_ (by assumption) ?_
          rotate_left 1
          · (intro w' hSw; obtain ⟨k0, k1, k2, k3, k4, k5⟩ := cells6 hSw.1; have k6 := hSw.2; go_simp; try with_reducible rfl)
          simp only [List.setIfInBounds_toArray, List.set_cons_zero, List.set_cons_succ]
          refine wpAnyH_done (by kernel_rfl) ?_ _
          clear hKd HC2 hG5 HL1 HC1 HX1 hW2
          go_upto_region 15 with (fail)
          obtain ⟨y0, y1, y2, y3, y4, y5⟩ := cells6 HY.out
          have f0 := HL2.out.box.frozen 0
          have f1 := HL2.out.box.frozen 1
          have f2 := HL2.out.box.frozen 2
          have f3 := HL2.out.box.frozen 3
          have f4 := HL2.out.box.frozen 4
          have f5 := HL2.out.box.frozen 5
          obtain ⟨m0, m1, m2, m3, m4, m5⟩ := cells6 HL2.out.box
          have HL3 := Lib.hid (HL2.out.put HS2.out HOy.out HSy.out)
          clear HL2 HS2 HY
          go_wp2
          go_roundw
          case rel => exact ⟨n + 1, y, _, _, _, by go_num, by omega, rfl, HL3.out, HRun2.out, HOk2.out⟩
          case measure => simp [intOf]; omega
      · obtain rfl : n = xs.length := by omega
        have hk : k = x := by
          have h := HRun.out
          rw [show (txs xs).drop xs.length = [] by unfold txs; rw [← List.map_drop, List.drop_length]; rfl] at h
          exact h
        subst hk
        obtain ⟨m0, m1, m2, m3, m4, m5⟩ := cells6 HL.out.box
        obtain ⟨q0, q1, q2, q3, q4, q5⟩ := cells6 HL.out.kbox
        have HFw := Lib.hid (show Few (startK id) from by obtain ⟨f1, f2, f3⟩ := start_few id; exact ⟨by omega, by omega, by omega⟩)
        go_wp2_with fail
        refine (lbK_same _ k _ _ _ _ _ _ HL.out.sees HL.out.ksees HSZ.out).mono ?_
        rintro e w6 ⟨rfl, B6⟩
        clear m0 m1 m2 m3 m4 m5 q0 q1 q2 q3 q4 q5
        have HB6 := Lib.hid (HL.out.bel.trans (B6.mono HL.out.bel.size))
        clear HL B6
        go_wp2_with fail
        refine (istart_any id _).mono ?_
        rintro e w7 ⟨ga, gb, gc, rfl, o7⟩
        have S7 := Lib.hid o7.sees
        have HB7 := Lib.hid (HB6.out.trans (o7.bel.mono HB6.out.size))
        clear o7 HB6
        go_wp2_with fail
        refine (start_any id _).mono ?_
        rintro e w8 ⟨ha, hb, hc, rfl, o8⟩
        have S8 := Lib.hid o8.sees
        have S9 := Lib.hid (S7.out.later o8.bel)
        have HB8 := Lib.hid (HB7.out.trans (o8.bel.mono HB7.out.size))
        clear o8 HB7 S7
        go_wp2_with fail
        refine (lbK_same _ (startK id) _ _ _ _ _ _ S9.out S8.out HFw.out).mono ?_
        rintro e w9 ⟨rfl, B9⟩
        have HB9 := Lib.hid (HB8.out.trans (B9.mono HB8.out.size))
        clear B9
        go_wp2
        go_ret
        exact ⟨rfl, HB9.out⟩

end Go.Proofs.YtjmmojjjopjdpaaGreatDoor.fnKeepOf

