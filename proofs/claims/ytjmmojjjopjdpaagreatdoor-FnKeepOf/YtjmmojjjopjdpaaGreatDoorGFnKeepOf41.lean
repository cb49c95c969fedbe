/-
  Merged texts: IApply, IClone, ICopy, IDo, IStart.
-/
import Derived.Test.YtjmmojjjopjdpaaGreatDoorGFnKeepOf35
import Derived.Test.YtjmmojjjopjdpaaGreatDoorGFnKeepOf40
import Derived.Test.YtjmmojjjopjdpaaGreatDoorGFnKeepOf12
import Derived.Test.YtjmmojjjopjdpaaGreatDoorGFnKeepOf19
import Derived.Test.YtjmmojjjopjdpaaGreatDoorGFnKeepOf22
import Derived.Test.YtjmmojjjopjdpaaGreatDoorGFnKeepOf10
import Derived.Test.YtjmmojjjopjdpaaGreatDoorGFnKeepOf23
import Derived.WalkSpells
/-
  Contract of impl.apply.
-/
namespace Go.Proofs.YtjmmojjjopjdpaaGreatDoor.kp
open Go.ChangeShapes Go.WideShapes Go.ChangeAt Go.RowKit
open Go.Proofs.YtjmmojjjopjdpaaGreatDoor.wd Go.Proofs.YtjmmojjjopjdpaaGreatDoor.ow Go.Proofs.YtjmmojjjopjdpaaGreatDoor.rl Go.Proofs.YtjmmojjjopjdpaaGreatDoor.ok Go.Proofs.YtjmmojjjopjdpaaGreatDoor.nb Go.Proofs.YtjmmojjjopjdpaaGreatDoor.nx Go.Proofs.YtjmmojjjopjdpaaGreatDoor.dc

/-- what apply leaves: the record done, or nothing that is kept -/
def ApP (B : Nat) (W : World) (g : Nat) (k : Kp) (l : List UInt8) (e : Ending) (w' : World) : Prop :=
  (∃ k' a b c, e = .returned (.bool true) ∧ Does k l k' true ∧ MK B w' g k' a b c ∧ Below B W w') ∨ (e = .returned (.bool false) ∧ Does k l k false ∧ Below B W w')

theorem applied_sz {k k' : Kp} {r : Rc} (hk : okK k = true) (hn : ntIn r) (ha : applyS k r = some k') : Sz 14 k' := by
  have hz := sz_ok hk
  cases r with
  | time v => rw [applyS] at ha; split at ha; cases ha; exact (sz_time hz v).up (by omega); cases ha
  | next v => rw [applyS] at ha; split at ha; cases ha; exact (sz_next hz v).up (by omega); cases ha
  | own x =>
    rw [applyS] at ha; split at ha
    · unfold takeO at ha; split at ha; cases ha; exact (sz_take (sz_next hz (k.next + 1)) (okNt_size hn)).up (by omega); cases ha
    · cases ha
  | take x =>
    rw [applyS] at ha; split at ha
    · cases ha
    · unfold takeO at ha; split at ha; cases ha; exact (sz_take hz (okNt_size hn)).up (by omega); cases ha
  | held x => rw [applyS] at ha; split at ha; cases ha; cases ha; exact (sz_held hz (okNt_size hn)).up (by omega)
  | inbox x => rw [applyS] at ha; split at ha; cases ha; cases ha; exact (sz_inbox hz (okNt_size hn)).up (by omega)
  | lets m =>
    cases hf : k.held.findIdx? (isM m) with
    | none => rw [apply_let_no hf] at ha; cases ha
    | some i => rw [apply_let hf] at ha; cases ha; exact (sz_let hz i m).up (by omega)
  | eat m =>
    cases hf : k.inbox.findIdx? (isM m) with
    | none => rw [apply_eat_no hf] at ha; cases ha
    | some i => rw [apply_eat hf] at ha; cases ha; exact (sz_eat hz i).up (by omega)
  | mark m => rw [applyS] at ha; split at ha; cases ha; cases ha; exact (sz_mark hz m).up (by omega)

set_option maxRecDepth 100000 in
set_option maxHeartbeats 1600000 in
theorem apply_any (B : Nat) (W : World) (g : Nat) (k : Kp) (a b c : Value) (l : List UInt8) (hs : l.length ≤ 1048576) (h : MK B W g k a b c) (hk : okK k = true) (hTab : Tab W) (hErr : Errs W) :
    Calls Tryz.prog 51 #[.pointer (some ⟨g, 0, none⟩), .string (str l)] W (ApP B W g k l) := by
  have hB0 := (Below.refl W.heap.size W).alloc (Nat.le_refl _) (.cells #[.bool false] 4)
  have HR := Lib.hid (Blk.new W 4 #[.bool false])
  have HM := Lib.hid (h.later hB0)
  have HB := Lib.hid (hB0.mono h.bW)
  have HT := Lib.hid (hTab.later hB0)
  have HE := Lib.hid (hErr.later hB0)
  have HRR := Lib.hid (fun V h1 h2 => readRecord_any l hs V h1 h2)
  have HOf := Lib.hid (h.own.off_new (Nat.le_refl W.heap.size))
  have HNg := Lib.hid (show W.heap.size ≠ g from by have := h.box.lt; omega)
  have HgB := Lib.hid (show B ≤ W.heap.size from h.bW)
  have hmf := mkfn
  unfold RrP at HRR
  clear h hB0 hTab hErr hs
  generalize str l = s at HRR ⊢
  go_enter_defers Tryz.func51, Tryz.ntmps51
  go_wp2_with fail
  generalize W.alloc (.cells #[.bool false] 4) = V at HR HM HB HT HE ⊢
  generalize W.heap.size = rb at HR HNg HgB HOf ⊢
  refine (HRR.out V HT.out HE.out).mono ?_
  rintro e w1 ⟨hB1, ⟨r, hr, rfl⟩ | ⟨hr, rfl⟩⟩
  case inr =>
    have HD := Lib.hid (does_none (k := k) hr)
    have z := HR.out.below hB1 HR.out.lt
    have HB2 := Lib.hid (HB.out.trans (hB1.mono HM.out.bW))
    clear HRR
    refine leaves_cons (f := 118) (args := #[.pointer (some ⟨rb, 0, none⟩)]) (by simp) (by simp [go_sem]) ?_
    refine (catch_p ⟨rb, 0, none⟩ false _ (z.cell 0) (z.frozen 0) z.lt).mono ?_
    rintro e u' w'' ⟨rfl, rfl, rfl⟩
    have zU := (z.alloc (.cells #[] 167)).put 0 (.bool false)
    have x0 := zU.cell 0
    have HBU := Lib.hid ((HB2.out.alloc (Nat.le_trans HgB.out (Nat.le_of_lt z.lt)) (.cells #[] 167)).setCell (p := ⟨rb, 0, none⟩) HgB.out (.bool false))
    generalize (w1.alloc (.cells #[] 167)).setCell ⟨rb, 0, none⟩ (.bool false) = U at x0 HBU ⊢
    simp only [List.setIfInBounds_toArray, List.set_cons_zero, List.getElem?_toArray, List.getElem?_cons_zero] at x0
    clear zU z hmf
    simp [Leaves, settle, results, Tryz.results51, go_sem, x0]
    exact .inr ⟨rfl, HD.out, HBU.out⟩
  have hni : ntIn r := hr.1
  have hM1 := HM.out.later hB1
  have hR1 := Lib.hid (HR.out.below hB1 HR.out.lt)
  have hB2 := Lib.hid (HB.out.trans (hB1.mono HM.out.bW))
  have hOf := HOf.out
  have HC := Lib.hid (change_any B w1 g rb k a b c r hM1 hk hni hR1.out.lt HNg.out hOf)
  have HN := Lib.hid (fun (ha : applyS k r = none) => does_not hr ha)
  have HX := Lib.hid (fun k' (ha : applyS k r = some k') (h2 : okK k' = false) => does_bad hr ha h2)
  have HY := Lib.hid (fun k' (ha : applyS k r = some k') (h2 : okK k' = true) => does_yes hk hr ha h2)
  have HZ := Lib.hid (fun k' (ha : applyS k r = some k') => applied_sz hk hni ha)
  clear hM1 hB1 HRR HT HE HM HR HB hr hni hOf
  generalize rcV r = rv at HC ⊢
  unfold ChPost at HC
  go_wp2_with fail
  refine HC.out.mono ?_
  rintro e w2 hq
  have hz2 := hq
  rcases hq with ⟨k', a', b', c', ho, rfl, hM2, hF2, hO2⟩ | ⟨ho, rfl, hF2⟩
  rotate_left 1
  · have HD := Lib.hid (HN.out ho)
    have z : Blk w2 rb 4 #[.bool false] := hF2.2.trans hR1.out
    have HB2 := Lib.hid (hB2.out.trans hF2.1)
    clear HC HN HX HY HZ hz2 hF2
    refine leaves_cons (f := 118) (args := #[.pointer (some ⟨rb, 0, none⟩)]) (by simp) (by simp [go_sem]) ?_
    refine (catch_p ⟨rb, 0, none⟩ false _ (z.cell 0) (z.frozen 0) z.lt).mono ?_
    rintro e u' w'' ⟨rfl, rfl, rfl⟩
    have zU := (z.alloc (.cells #[] 167)).put 0 (.bool false)
    have x0 := zU.cell 0
    have HBU := Lib.hid ((HB2.out.alloc (Nat.le_trans HgB.out (Nat.le_of_lt z.lt)) (.cells #[] 167)).setCell (p := ⟨rb, 0, none⟩) HgB.out (.bool false))
    generalize (w2.alloc (.cells #[] 167)).setCell ⟨rb, 0, none⟩ (.bool false) = U at x0 HBU ⊢
    simp only [List.setIfInBounds_toArray, List.set_cons_zero, List.getElem?_toArray, List.getElem?_cons_zero] at x0
    clear zU z hmf
    simp [Leaves, settle, results, Tryz.results51, go_sem, x0]
    exact .inr ⟨rfl, HD.out, HBU.out⟩
  clear HC HN hz2
  have z2 : Blk w2 rb 4 #[.bool false] := hF2.2.trans hR1.out
  have HB2 := Lib.hid (hB2.out.trans hF2.1)
  have HM2 := Lib.hid hM2
  have HO2 := Lib.hid hO2
  have hsz := HZ.out k' ho
  have HK := Lib.hid (ikeepOk_any w2 k' a' b' c' hM2.sees (hsz.few (by omega)) hsz.texts)
  unfold BoolK at HK
  obtain ⟨d0, d1, d2, d3, d4, d5⟩ := KBox.cells hM2.box
  have hX2 := HX.out k' ho
  have hY2 := HY.out k' ho
  clear hF2 hM2 hO2 hsz HX HY HZ ho
  cases hok : okK k' with
  | false =>
    have HD := Lib.hid (hX2 hok)
    rw [hok] at HK
    clear hX2 hY2 hok
    go_wp2_with fail
    refine HK.out.mono ?_
    rintro e w3 ⟨rfl, hB3⟩
    have z := z2.below hB3 z2.lt
    have HB4 := Lib.hid (HB2.out.trans (hB3.mono HM2.out.bW))
    clear HB2 d0 d1 d2 d3 d4 d5 hB3 z2
    have HB2 := HB4
    clear HB4
    go_wp2_with fail
    refine (require_f _).mono ?_
    rintro e w4 ⟨rfl, rfl⟩
    refine leaves_cons (f := 118) (args := #[.pointer (some ⟨rb, 0, none⟩)]) (by simp) (by simp [go_sem]) ?_
    refine (catch_p ⟨rb, 0, none⟩ false _ (z.cell 0) (z.frozen 0) z.lt).mono ?_
    rintro e u' w'' ⟨rfl, rfl, rfl⟩
    have zU := (z.alloc (.cells #[] 167)).put 0 (.bool false)
    have x0 := zU.cell 0
    have HBU := Lib.hid ((HB2.out.alloc (Nat.le_trans HgB.out (Nat.le_of_lt z.lt)) (.cells #[] 167)).setCell (p := ⟨rb, 0, none⟩) HgB.out (.bool false))
    generalize (w3.alloc (.cells #[] 167)).setCell ⟨rb, 0, none⟩ (.bool false) = U at x0 HBU ⊢
    simp only [List.setIfInBounds_toArray, List.set_cons_zero, List.getElem?_toArray, List.getElem?_cons_zero] at x0
    clear zU z hmf
    simp [Leaves, settle, results, Tryz.results51, go_sem, x0]
    exact .inr ⟨rfl, HD.out, HBU.out⟩
  | true =>
    have HD := Lib.hid (hY2 hok)
    rw [hok] at HK
    clear hX2 hY2 hok
    go_wp2_with fail
    refine HK.out.mono ?_
    rintro e w3 ⟨rfl, hB3⟩
    have z := z2.below hB3 z2.lt
    have HM3 := Lib.hid (HM2.out.later hB3)
    have HB4 := Lib.hid (HB2.out.trans (hB3.mono HM2.out.bW))
    clear HB2 d0 d1 d2 d3 d4 d5 hB3 z2 HK HM2
    go_wp2_with fail
    refine (require_t _).mono ?_
    rintro e w4 ⟨rfl, rfl⟩
    have x0 := z.cell 0
    have y0 := z.frozen 0
    simp only [List.getElem?_toArray, List.getElem?_cons_zero] at x0
    go_wp2
    have z1 := z.put 0 (.bool true)
    have HM4 := Lib.hid (HM3.out.far (p := ⟨rb, 0, none⟩) HNg.out.symm HO2.out (.bool true))
    have HB5 := Lib.hid (HB4.out.setCell (p := ⟨rb, 0, none⟩) HgB.out (.bool true))
    generalize w3.setCell ⟨rb, 0, none⟩ (.bool true) = V1 at z1 HM4 HB5 ⊢
    have B6 : Below V1.heap.size V1 (V1.alloc (.cells #[] 167)) := (Below.refl _ _).alloc (Nat.le_refl _) _
    have zU := z1.below B6 z1.lt
    have u0 := zU.cell 0
    simp only [List.setIfInBounds_toArray, List.set_cons_zero, List.getElem?_toArray, List.getElem?_cons_zero] at u0
    have HMU := Lib.hid (HM4.out.later B6)
    have HBU := Lib.hid (HB5.out.trans (B6.mono HM4.out.bW))
    clear x0 y0 z z1 zU HM3 HB4 HM4 HB5 B6 hmf
    refine leaves_cons (f := 118) (args := #[.pointer (some ⟨rb, 0, none⟩)]) (by simp) (by simp [go_sem]) ?_
    refine (catch_i ⟨rb, 0, none⟩ _).mono ?_
    rintro e u' w'' ⟨rfl, rfl, rfl⟩
    generalize V1.alloc (.cells #[] 167) = U at u0 HMU HBU ⊢
    simp [Leaves, settle, results, Tryz.results51, go_sem, u0]
    exact .inl ⟨_, _, _, _, rfl, HD.out, HMU.out, HBU.out⟩
end Go.Proofs.YtjmmojjjopjdpaaGreatDoor.kp

/-
  Contracts of slices.Clone at messages and at marks, and of impl.copyKeep.
-/
namespace Go.Proofs.YtjmmojjjopjdpaaGreatDoor.kp
open Go.ChangeShapes Go.WideShapes Go.ChangeAt Go.RowKit
open Go.Proofs.YtjmmojjjopjdpaaGreatDoor.wd Go.Proofs.YtjmmojjjopjdpaaGreatDoor.ow Go.Proofs.YtjmmojjjopjdpaaGreatDoor.rl Go.Proofs.YtjmmojjjopjdpaaGreatDoor.ok Go.Proofs.YtjmmojjjopjdpaaGreatDoor.nb

set_option maxRecDepth 100000 in
theorem cloneN (w : World) (v : Value) (l : List Nt) (h : SeesN w v l) (hl : l.length ≤ 1048576) :
    Calls Tryz.prog 122 #[v] w (ListN w l) := by
  obtain ⟨i0, hi, hz0, hz1, hz2⟩ := info_parts infoNote
  have HS := Lib.hid h
  obtain ⟨A, c, rfl, hc⟩ := h
  rcases hc with ⟨rfl, rfl, rfl⟩ | ⟨g, rfl, hg, hcell⟩
  · have hn := fun (W : World) (a : Option Addr) (n c n' c' : Nat) => Lib.run_eql_slice_nil (P := Tryz.prog) W 26 131 a n c n' c' Tryz.underlying26
    go_enter Tryz.func122, Tryz.ntmps122
    go_wp2
    go_ret
    exact ⟨_, rfl, OwnR.nil w⟩
  · have hn := fun (W : World) (a : Option Addr) (n c n' c' : Nat) => Lib.run_eql_slice_nil (P := Tryz.prog) W 26 131 a n c n' c' Tryz.underlying26
    have PA := SeesR.part (HS.out.later ((Below.refl _ w).alloc (Nat.le_refl _) (.cells #[] 131)))
    have ON := ownAt_new (S := ntS) (t := 131) (B := w.heap.size) w (Nat.le_refl _)
    go_enter Tryz.func122, Tryz.ntmps122
    go_wp2_with (at_builtin; refine wpList_append_recs ntS (by decide) rfl _ _ 26 rfl w.heap.size 131 i0 _ 48 Tryz.underlying26 hi hz0 hz1 hz2 rfl _ 0 [] rfl ON (some ⟨g, 0, none⟩) _ c l rfl rfl PA ?e3 ?e4 ?e5 ?_)
    case e3 => unfold maxLen; omega
    case e4 => omega
    case e5 => simp
    intro v1 w1 hown hgrow
    have O1 : OwnAt ntS 131 w.heap.size w1 v1 l := ownAt_of hown (by simp)
    have HO := Lib.hid (show OwnR ntS 131 w w1 v1 l from ⟨O1, ((Below.refl _ w).alloc (Nat.le_refl _) _).trans (ON.below hgrow (by simp))⟩)
    clear hown hgrow O1 ON PA
    go_wp2
    go_ret
    exact ⟨_, rfl, HO.out⟩
set_option maxRecDepth 100000 in
theorem cloneM (w : World) (v : Value) (l : List Mk) (h : SeesMk w v l) (hl : l.length ≤ 1048576) :
    Calls Tryz.prog 123 #[v] w (ListM w l) := by
  obtain ⟨i0, hi, hz0, hz1, hz2⟩ := info_parts infoMark
  have HS := Lib.hid h
  obtain ⟨A, c, rfl, hc⟩ := h
  rcases hc with ⟨rfl, rfl, rfl⟩ | ⟨g, rfl, hg, hcell⟩
  · have hn := fun (W : World) (a : Option Addr) (n c n' c' : Nat) => Lib.run_eql_slice_nil (P := Tryz.prog) W 27 164 a n c n' c' Tryz.underlying27
    go_enter Tryz.func123, Tryz.ntmps123
    go_wp2
    go_ret
    exact ⟨_, rfl, OwnR.nil w⟩
  · have hn := fun (W : World) (a : Option Addr) (n c n' c' : Nat) => Lib.run_eql_slice_nil (P := Tryz.prog) W 27 164 a n c n' c' Tryz.underlying27
    have PA := SeesR.part (HS.out.later ((Below.refl _ w).alloc (Nat.le_refl _) (.cells #[] 164)))
    have ON := ownAt_new (S := mkS) (t := 164) (B := w.heap.size) w (Nat.le_refl _)
    go_enter Tryz.func123, Tryz.ntmps123
    go_wp2_with (at_builtin; refine wpList_append_recs mkS (by decide) rfl _ _ 27 rfl w.heap.size 164 i0 _ 24 Tryz.underlying27 hi hz0 hz1 hz2 rfl _ 0 [] rfl ON (some ⟨g, 0, none⟩) _ c l rfl rfl PA ?e3 ?e4 ?e5 ?_)
    case e3 => unfold maxLen; omega
    case e4 => omega
    case e5 => simp
    intro v1 w1 hown hgrow
    have O1 : OwnAt mkS 164 w.heap.size w1 v1 l := ownAt_of hown (by simp)
    have HO := Lib.hid (show OwnR mkS 164 w w1 v1 l from ⟨O1, ((Below.refl _ w).alloc (Nat.le_refl _) _).trans (ON.below hgrow (by simp))⟩)
    clear hown hgrow O1 ON PA
    go_wp2
    go_ret
    exact ⟨_, rfl, HO.out⟩
end Go.Proofs.YtjmmojjjopjdpaaGreatDoor.kp

/-
  Contract of impl.copyKeep.
-/
namespace Go.Proofs.YtjmmojjjopjdpaaGreatDoor.kp
open Go.ChangeShapes Go.WideShapes Go.ChangeAt Go.RowKit
open Go.Proofs.YtjmmojjjopjdpaaGreatDoor.wd Go.Proofs.YtjmmojjjopjdpaaGreatDoor.ow Go.Proofs.YtjmmojjjopjdpaaGreatDoor.rl Go.Proofs.YtjmmojjjopjdpaaGreatDoor.ok Go.Proofs.YtjmmojjjopjdpaaGreatDoor.nb

set_option maxRecDepth 100000 in
set_option maxHeartbeats 1600000 in
theorem icopyK_any (w : World) (k : Kp) (a b c : Value) (h : SeesK w k a b c) (hl : k.held.length ≤ 1048576 ∧ k.marks.length ≤ 1048576 ∧ k.inbox.length ≤ 1048576) :
    Calls Tryz.prog 54 #[kpV k.id k.time k.next a b c] w (KeepPost w k) := by
  obtain ⟨hl1, hl2, hl3⟩ := hl
  obtain ⟨Aa, ca, rfl, _⟩ := h.held
  obtain ⟨Ab, cb, rfl, _⟩ := h.marks
  obtain ⟨Ac, cc, rfl, _⟩ := h.inbox
  have HS := Lib.hid h
  have HT := Lib.hid (CB.new w k (.slice Aa k.held.length ca) (.slice Ab k.marks.length cb) (.slice Ac k.inbox.length cc))
  clear h
  go_enter Tryz.func54, Tryz.ntmps54
  go_upto_region 1 with (fail)
  generalize (w.alloc (.cells #[.int .i64 k.id, .int .i64 k.time, .int .i64 k.next, .slice Aa k.held.length ca, .slice Ab k.marks.length cb, .slice Ac k.inbox.length cc] 29)).alloc (.cells #[.int .i64 0, .int .i64 0, .int .i64 0, .slice none 0 0, .slice none 0 0, .slice none 0 0] 29) = V at HT ⊢
  obtain ⟨_, _, _, b3, b4, b5, _, _, _, g3, g4, g5⟩ := res_cells HT.out.box
  have hs1 := HT.out.sz
  go_wp2_with fail
  refine (cloneN _ _ k.held (HS.out.held.later HT.out.bel) hl1).mono ?_
  rintro e w1 ⟨v1, rfl, hO⟩
  obtain ⟨A1, c1, rfl⟩ := OwnR.form hO
  have O1 : OwnAt ntS 131 V.heap.size w1 (.slice A1 k.held.length c1) k.held := hO.1
  have L1 := Lib.hid (fun g (hg : (Value.slice A1 k.held.length c1).ownBlock = some g) => OwnAt.ltW O1 hg)
  have hzz1 := hO.2.size
  have HTn := Lib.hid ((HT.out.later hO.2).put3 (.slice A1 k.held.length c1))
  have P1 := Lib.hid (OwnAt.set O1 (p := ⟨w.heap.size, 3, none⟩) (by show w.heap.size < V.heap.size; omega) (.slice A1 k.held.length c1))
  clear b3 b4 b5 g3 g4 g5
  obtain ⟨_, _, _, b3, b4, b5, _, _, _, g3, g4, g5⟩ := res_cells (HT.out.later hO.2).box
  clear hO O1 HT
  go_upto_region 2 with (fail)
  clear b3 b4 b5 g3 g4 g5
  have z1 : (w1.setCell ⟨w.heap.size, 3, none⟩ (.slice A1 k.held.length c1)).heap.size = w1.heap.size := by simp
  have HZ1 := Lib.hid z1
  clear z1
  generalize w1.setCell ⟨w.heap.size, 3, none⟩ (.slice A1 k.held.length c1) = V2 at HTn P1 HZ1 ⊢
  have HT := HTn
  clear HTn
  obtain ⟨_, _, _, b3, b4, b5, _, _, _, g3, g4, g5⟩ := res_cells HT.out.box
  have hs2 := HT.out.sz
  go_wp2_with fail
  refine (cloneM _ _ k.marks (HS.out.marks.later HT.out.bel) hl2).mono ?_
  rintro e w2 ⟨v2, rfl, hO⟩
  obtain ⟨A2, c2, rfl⟩ := OwnR.form hO
  have O2 : OwnAt mkS 164 V2.heap.size w2 (.slice A2 k.marks.length c2) k.marks := hO.1
  have L2 := Lib.hid (fun g (hg : (Value.slice A2 k.marks.length c2).ownBlock = some g) => OwnAt.ltW O2 hg)
  have hzz2 := hO.2.size
  have HTn := Lib.hid ((HT.out.later hO.2).put4 (.slice A2 k.marks.length c2))
  have P2 := Lib.hid (OwnAt.set O2 (p := ⟨w.heap.size, 4, none⟩) (by show w.heap.size < V2.heap.size; omega) (.slice A2 k.marks.length c2))
  have Q1 := Lib.hid (OwnAt.set (OwnAt.later P1.out hO.2) (p := ⟨w.heap.size, 4, none⟩) (by show w.heap.size < V.heap.size; omega) (.slice A2 k.marks.length c2))
  clear P1
  have P1 := Q1
  clear Q1
  clear b3 b4 b5 g3 g4 g5
  obtain ⟨_, _, _, b3, b4, b5, _, _, _, g3, g4, g5⟩ := res_cells (HT.out.later hO.2).box
  clear hO O2 HT
  go_upto_region 3 with (fail)
  clear b3 b4 b5 g3 g4 g5
  have z2 : (w2.setCell ⟨w.heap.size, 4, none⟩ (.slice A2 k.marks.length c2)).heap.size = w2.heap.size := by simp
  have HZ2 := Lib.hid z2
  clear z2
  generalize w2.setCell ⟨w.heap.size, 4, none⟩ (.slice A2 k.marks.length c2) = V3 at HTn P2 P1 HZ2 ⊢
  have HT := HTn
  clear HTn
  obtain ⟨_, _, _, b3, b4, b5, _, _, _, g3, g4, g5⟩ := res_cells HT.out.box
  have hs3 := HT.out.sz
  go_wp2_with fail
  refine (cloneN _ _ k.inbox (HS.out.inbox.later HT.out.bel) hl3).mono ?_
  rintro e w3 ⟨v3, rfl, hO⟩
  obtain ⟨A3, c3, rfl⟩ := OwnR.form hO
  have O3 : OwnAt ntS 131 V3.heap.size w3 (.slice A3 k.inbox.length c3) k.inbox := hO.1
  have L3 := Lib.hid (fun g (hg : (Value.slice A3 k.inbox.length c3).ownBlock = some g) => OwnAt.ltW O3 hg)
  have hzz3 := hO.2.size
  have HTn := Lib.hid ((HT.out.later hO.2).put5 (.slice A3 k.inbox.length c3))
  have P3 := Lib.hid (OwnAt.set O3 (p := ⟨w.heap.size, 5, none⟩) (by show w.heap.size < V3.heap.size; omega) (.slice A3 k.inbox.length c3))
  have Q1 := Lib.hid (OwnAt.set (OwnAt.later P1.out hO.2) (p := ⟨w.heap.size, 5, none⟩) (by show w.heap.size < V.heap.size; omega) (.slice A3 k.inbox.length c3))
  clear P1
  have P1 := Q1
  clear Q1
  have Q2 := Lib.hid (OwnAt.set (OwnAt.later P2.out hO.2) (p := ⟨w.heap.size, 5, none⟩) (by show w.heap.size < V2.heap.size; omega) (.slice A3 k.inbox.length c3))
  clear P2
  have P2 := Q2
  clear Q2
  clear b3 b4 b5 g3 g4 g5
  obtain ⟨_, _, _, b3, b4, b5, _, _, _, g3, g4, g5⟩ := res_cells (HT.out.later hO.2).box
  clear hO O3 HT
  go_upto_region 4 with (fail)
  clear b3 b4 b5 g3 g4 g5
  have z3 : (w3.setCell ⟨w.heap.size, 5, none⟩ (.slice A3 k.inbox.length c3)).heap.size = w3.heap.size := by simp
  have HZ3 := Lib.hid z3
  clear z3
  generalize w3.setCell ⟨w.heap.size, 5, none⟩ (.slice A3 k.inbox.length c3) = V4 at HTn P3 P1 P2 HZ3 ⊢
  have HT := HTn
  clear HTn
  have X12 : Apart (.slice A1 k.held.length c1) (.slice A2 k.marks.length c2) := fun g p q => by
    have h1 := (L1.out g p).2
    have h2 := (L2.out g q).1
    have h3 := HZ1.out
    omega
  have X13 : Apart (.slice A1 k.held.length c1) (.slice A3 k.inbox.length c3) := fun g p q => by
    have h1 := (L1.out g p).2
    have h2 := (L3.out g q).1
    have h3 := HZ1.out
    have h4 := HZ2.out
    omega
  have X23 : Apart (.slice A2 k.marks.length c2) (.slice A3 k.inbox.length c3) := fun g p q => by
    have h1 := (L2.out g p).2
    have h2 := (L3.out g q).1
    have h4 := HZ2.out
    omega
  have HX := Lib.hid (show _ ∧ _ ∧ _ from ⟨X12, X13, X23⟩)
  clear X12 X13 X23
  have y2 : w.heap.size + 2 ≤ V2.heap.size := hs2
  have y3 : w.heap.size + 2 ≤ V3.heap.size := hs3
  obtain ⟨b0, b1, b2, b3, b4, b5, _, _, _, _, _, _⟩ := res_cells HT.out.box
  obtain ⟨r0, r1, r2, r3, r4, r5, f0, f1, f2, f3, f4, f5⟩ := res_cells HT.out.res
  have HC := Lib.hid (put6_blk (V := V4) (a' := .int .i64 k.id) (b' := .int .i64 k.time) (c' := .int .i64 k.next) (d' := .slice A1 k.held.length c1) (e' := .slice A2 k.marks.length c2) (f' := .slice A3 k.inbox.length c3) HT.out.res)
  have HD := Lib.hid (put6_below (V := V4) (B := w.heap.size) (R := w.heap.size + 1) (Nat.le_succ _) HT.out.bel (.int .i64 k.id) (.int .i64 k.time) (.int .i64 k.next) (.slice A1 k.held.length c1) (.slice A2 k.marks.length c2) (.slice A3 k.inbox.length c3))
  have HU := Lib.hid (show _ ∧ _ ∧ _ from ⟨OwnAt.down (OwnAt.put6 (W := V4) P1.out (R := w.heap.size + 1) (by omega) (.int .i64 k.id) (.int .i64 k.time) (.int .i64 k.next) (.slice A1 k.held.length c1) (.slice A2 k.marks.length c2) (.slice A3 k.inbox.length c3)) (show w.heap.size ≤ V.heap.size by omega), OwnAt.down (OwnAt.put6 (W := V4) P2.out (R := w.heap.size + 1) (by omega) (.int .i64 k.id) (.int .i64 k.time) (.int .i64 k.next) (.slice A1 k.held.length c1) (.slice A2 k.marks.length c2) (.slice A3 k.inbox.length c3)) (show w.heap.size ≤ V2.heap.size by omega), OwnAt.down (OwnAt.put6 (W := V4) P3.out (R := w.heap.size + 1) (by omega) (.int .i64 k.id) (.int .i64 k.time) (.int .i64 k.next) (.slice A1 k.held.length c1) (.slice A2 k.marks.length c2) (.slice A3 k.inbox.length c3)) (show w.heap.size ≤ V3.heap.size by omega)⟩)
  clear P1 P2 P3
  go_wp2
  have x0 := HC.out.cell 0
  have x1 := HC.out.cell 1
  have x2 := HC.out.cell 2
  have x3 := HC.out.cell 3
  have x4 := HC.out.cell 4
  have x5 := HC.out.cell 5
  refine bodyPost_ret (v := kpV k.id k.time k.next (.slice A1 k.held.length c1) (.slice A2 k.marks.length c2) (.slice A3 k.inbox.length c3)) (by simp [results, Tryz.results54, go_sem, x0, x1, x2, x3, x4, x5]) rfl ⟨_, _, _, rfl, ⟨HU.out.1, HD.out⟩, ⟨HU.out.2.1, HD.out⟩, ⟨HU.out.2.2, HD.out⟩, HX.out.1, HX.out.2.1, HX.out.2.2⟩
end Go.Proofs.YtjmmojjjopjdpaaGreatDoor.kp

/-
  Contract of impl.KeepDo.
-/
namespace Go.Proofs.YtjmmojjjopjdpaaGreatDoor.kp
open Go.ChangeShapes Go.WideShapes Go.ChangeAt Go.RowKit
open Go.Proofs.YtjmmojjjopjdpaaGreatDoor.wd Go.Proofs.YtjmmojjjopjdpaaGreatDoor.ow Go.Proofs.YtjmmojjjopjdpaaGreatDoor.rl Go.Proofs.YtjmmojjjopjdpaaGreatDoor.ok Go.Proofs.YtjmmojjjopjdpaaGreatDoor.nb Go.Proofs.YtjmmojjjopjdpaaGreatDoor.nx Go.Proofs.YtjmmojjjopjdpaaGreatDoor.dc

/-- a keep that was worked on is the call's own -/
theorem MK.ownK {w V : World} {g : Nat} {k : Kp} {a b c : Value} (h : MK w.heap.size V g k a b c) (hB : Below w.heap.size w V) : OwnK w V k a b c :=
  ⟨⟨h.own.held, hB⟩, ⟨h.own.marks, hB⟩, ⟨h.own.inbox, hB⟩, h.own.hm, h.own.hi, h.own.mi⟩
/-- a keep of the call's own, put into a block -/
theorem OwnK.toMK {w V : World} {k : Kp} {a b c : Value} (h : OwnK w V k a b c) : MK w.heap.size (V.alloc (.cells #[.int .i64 k.id, .int .i64 k.time, .int .i64 k.next, a, b, c] 29)) V.heap.size k a b c := by
  have hb := (Below.refl V.heap.size V).alloc (Nat.le_refl _) (.cells #[.int .i64 k.id, .int .i64 k.time, .int .i64 k.next, a, b, c] 29)
  exact ⟨Blk.new V _ _, (h.three).later hb, h.off (Nat.le_refl _), h.bel.size, Nat.le_trans h.bel.size hb.size⟩

theorem CB.below1 {w V V' : World} {k : Kp} {a b c : Value} {B : Nat} (h : CB w V k a b c) (hb : Below B V V') (hB : w.heap.size + 2 ≤ B) : CB w V' k a b c :=
  ⟨h.box.below hb (by omega), h.res.below hb (by omega), h.bel.trans (hb.mono (by omega)), Nat.le_trans h.sz hb.size⟩

set_option maxRecDepth 100000 in
set_option maxHeartbeats 4000000 in
theorem ikeepDo_any (w : World) (k : Kp) (a b c : Value) (l : List UInt8) (hs : l.length ≤ 1048576) (h : SeesK w k a b c) (hl : k.held.length ≤ 1048576 ∧ k.marks.length ≤ 1048576 ∧ k.inbox.length ≤ 1048576) (hz : (∀ x ∈ k.held, x.s.size ≤ maxLen) ∧ ∀ x ∈ k.inbox, x.s.size ≤ maxLen) (hTab : Tab w) (hErr : Errs w) :
    Calls Tryz.prog 15 #[kpV k.id k.time k.next a b c, .string (str l)] w (DoPost w k l) := by
  have HS := Lib.hid h
  have HO := Lib.hid (fun V (hV : Below w.heap.size w V) => ikeepOk_any V k a b c (h.later hV) hl hz)
  have HK := Lib.hid (fun V (hV : Below w.heap.size w V) => icopyK_any V k a b c (h.later hV) hl)
  unfold BoolK at HO
  unfold KeepPost at HK
  obtain ⟨Aa, ca, rfl, _⟩ := h.held
  obtain ⟨Ab, cb, rfl, _⟩ := h.marks
  obtain ⟨Ac, cc, rfl, _⟩ := h.inbox
  have HT := Lib.hid (CB.new w k (.slice Aa k.held.length ca) (.slice Ab k.marks.length cb) (.slice Ac k.inbox.length cc))
  clear h
  cases hok : okK k with
  | false =>
    have hP : DoK k l zeroK false := .inl ⟨hok, rfl, rfl⟩
    have HP := Lib.hid hP
    clear hP
    rw [hok] at HO
    clear hok HK
    generalize str l = s
    go_enter Tryz.func15, Tryz.ntmps15
    go_upto_region 1 with (fail)
    generalize (w.alloc (.cells #[.int .i64 k.id, .int .i64 k.time, .int .i64 k.next, .slice Aa k.held.length ca, .slice Ab k.marks.length cb, .slice Ac k.inbox.length cc] 29)).alloc (.cells #[.int .i64 0, .int .i64 0, .int .i64 0, .slice none 0 0, .slice none 0 0, .slice none 0 0] 29) = V at HT ⊢
    obtain ⟨b0, b1, b2, b3, b4, b5, g0, g1, g2, g3, g4, g5⟩ := res_cells HT.out.box
    obtain ⟨r0, r1, r2, r3, r4, r5, f0, f1, f2, f3, f4, f5⟩ := res_cells HT.out.res
    go_wp2_with fail
    refine (HO.out _ HT.out.bel).mono ?_
    rintro e w1 ⟨rfl, hB1⟩
    have HT1 := Lib.hid (HT.out.later hB1)
    clear HT hB1 HO
    clear b0 b1 b2 b3 b4 b5 g0 g1 g2 g3 g4 g5 r0 r1 r2 r3 r4 r5 f0 f1 f2 f3 f4 f5
    obtain ⟨b0, b1, b2, b3, b4, b5, g0, g1, g2, g3, g4, g5⟩ := res_cells HT1.out.box
    obtain ⟨r0, r1, r2, r3, r4, r5, f0, f1, f2, f3, f4, f5⟩ := res_cells HT1.out.res
    have HC := Lib.hid (put6_blk (V := w1) (a' := .int .i64 0) (b' := .int .i64 0) (c' := .int .i64 0) (d' := .slice none 0 0) (e' := .slice none 0 0) (f' := .slice none 0 0) HT1.out.res)
    have HD := Lib.hid (put6_below (V := w1) (B := w.heap.size) (R := w.heap.size + 1) (by omega) HT1.out.bel (.int .i64 0) (.int .i64 0) (.int .i64 0) (.slice none 0 0) (.slice none 0 0) (.slice none 0 0))
    go_wp2
    have x0 := HC.out.cell 0
    have x1 := HC.out.cell 1
    have x2 := HC.out.cell 2
    have x3 := HC.out.cell 3
    have x4 := HC.out.cell 4
    have x5 := HC.out.cell 5
    refine bodyPost_ret (v := .tuple #[kpV 0 0 0 (.slice none 0 0) (.slice none 0 0) (.slice none 0 0), .bool false]) (by simp [results, Tryz.results15, go_sem, x0, x1, x2, x3, x4, x5]) rfl ⟨zeroK, false, _, _, _, rfl, HP.out, ⟨Nat.zero_le _, Nat.zero_le _, Nat.zero_le _, (fun _ h => by cases h), (fun _ h => by cases h)⟩, nil_own HD.out rfl rfl rfl⟩
  | true =>
    have HOK := Lib.hid hok
    rw [hok] at HO
    clear hok
    have HAp := Lib.hid (fun B V g a b c (hM : MK B V g k a b c) hT hE => apply_any B V g k a b c l hs hM HOK.out hT hE)
    unfold ApP at HAp
    generalize str l = s at HAp ⊢
    go_enter Tryz.func15, Tryz.ntmps15
    go_upto_region 1 with (fail)
    generalize (w.alloc (.cells #[.int .i64 k.id, .int .i64 k.time, .int .i64 k.next, .slice Aa k.held.length ca, .slice Ab k.marks.length cb, .slice Ac k.inbox.length cc] 29)).alloc (.cells #[.int .i64 0, .int .i64 0, .int .i64 0, .slice none 0 0, .slice none 0 0, .slice none 0 0] 29) = V at HT ⊢
    obtain ⟨b0, b1, b2, b3, b4, b5, g0, g1, g2, g3, g4, g5⟩ := res_cells HT.out.box
    go_wp2_with fail
    refine (HO.out _ HT.out.bel).mono ?_
    rintro e w1 ⟨rfl, hB1⟩
    have HT1 := Lib.hid (HT.out.later hB1)
    clear HT hB1 HO
    clear b0 b1 b2 b3 b4 b5 g0 g1 g2 g3 g4 g5
    obtain ⟨b0, b1, b2, b3, b4, b5, g0, g1, g2, g3, g4, g5⟩ := res_cells HT1.out.box
    go_wp2_with fail
    refine (HK.out _ HT1.out.bel).mono ?_
    rintro e w2 ⟨vh, vm, vi, rfl, hO2⟩
    have HT2 := Lib.hid (HT1.out.later hO2.bel)
    obtain ⟨A2, c2, rfl⟩ := OwnR.form hO2.held
    obtain ⟨B2, d2, rfl⟩ := OwnR.form hO2.marks
    obtain ⟨C2, e2, rfl⟩ := OwnR.form hO2.inbox
    have hM := hO2.toMK
    have B3 := (Below.refl w2.heap.size w2).alloc (Nat.le_refl _) (.cells #[.int .i64 k.id, .int .i64 k.time, .int .i64 k.next, .slice A2 k.held.length c2, .slice B2 k.marks.length d2, .slice C2 k.inbox.length e2] 29)
    have HT3 := Lib.hid (HT2.out.later B3)
    have HM := Lib.hid hM
    have HL1 := Lib.hid HT1.out.sz
    have HF1 := Lib.hid (hO2.bel.trans (B3.mono hO2.bel.size))
    clear b0 b1 b2 b3 b4 b5 g0 g1 g2 g3 g4 g5 HT2 hO2 hM B3
    go_upto_region 4 with (fail)
    generalize w2.alloc (.cells #[.int .i64 k.id, .int .i64 k.time, .int .i64 k.next, .slice A2 k.held.length c2, .slice B2 k.marks.length d2, .slice C2 k.inbox.length e2] 29) = V3 at HT3 HM HF1 ⊢
    generalize w2.heap.size = g at HM ⊢
    have hbel := HT3.out.bel
    go_wp2_with fail
    refine (HAp.out w1.heap.size V3 g _ _ _ HM.out (hTab.later hbel) (hErr.later hbel)).mono ?_
    rintro e w4 (⟨k', a', b', c', rfl, hd, hM4, hB4⟩ | ⟨rfl, hd, hB4⟩)
    · have HP := Lib.hid (show DoK k l k' true from .inr ⟨HOK.out, hd⟩)
      have hok' := does_ok hd
      have HZZ := Lib.hid ((sz_ok hok').up (show 12 ≤ 14 by omega))
      have HT4 := Lib.hid (HT3.out.below1 hB4 HL1.out)
      obtain ⟨r0, r1, r2, r3, r4, r5, f0, f1, f2, f3, f4, f5⟩ := res_cells HT4.out.res
      obtain ⟨k0, k1, k2, k3, k4, k5⟩ := KBox.cells hM4.box
      obtain ⟨A4, c4, rfl⟩ := OwnAt.form hM4.own.held
      obtain ⟨B4, d4, rfl⟩ := OwnAt.form hM4.own.marks
      obtain ⟨C4, e4, rfl⟩ := OwnAt.form hM4.own.inbox
      have HC := Lib.hid (put6_blk (V := w4) (a' := .int .i64 k'.id) (b' := .int .i64 k'.time) (c' := .int .i64 k'.next) (d' := .slice A4 k'.held.length c4) (e' := .slice B4 k'.marks.length d4) (f' := .slice C4 k'.inbox.length e4) HT4.out.res)
      have HD := Lib.hid (put6_below (V := w4) (B := w.heap.size) (R := w.heap.size + 1) (by omega) HT4.out.bel (.int .i64 k'.id) (.int .i64 k'.time) (.int .i64 k'.next) (.slice A4 k'.held.length c4) (.slice B4 k'.marks.length d4) (.slice C4 k'.inbox.length e4))
      have HG := Lib.hid (OwnK.put6 (R := w.heap.size + 1) (hM4.ownK (HF1.out.trans hB4)) (by have := HL1.out; omega) (by have := HL1.out; omega) HD.out)
      clear hM4 hB4 HT3 HM hd hok' HAp HK
      clear hbel
      go_wp2
      have x0 := HC.out.cell 0
      have x1 := HC.out.cell 1
      have x2 := HC.out.cell 2
      have x3 := HC.out.cell 3
      have x4 := HC.out.cell 4
      have x5 := HC.out.cell 5
      refine bodyPost_ret (v := .tuple #[kpV k'.id k'.time k'.next (.slice A4 k'.held.length c4) (.slice B4 k'.marks.length d4) (.slice C4 k'.inbox.length e4), .bool true]) (by simp [results, Tryz.results15, go_sem, x0, x1, x2, x3, x4, x5]) rfl ⟨k', true, _, _, _, rfl, HP.out, HZZ.out, HG.out⟩
    · have HP := Lib.hid (show DoK k l k false from .inr ⟨HOK.out, hd⟩)
      have HZZ := Lib.hid ((sz_ok HOK.out).up (show 12 ≤ 14 by omega))
      have HT4 := Lib.hid (HT3.out.below1 hB4 HL1.out)
      clear hd hB4 HT3 HM HAp hbel
      obtain ⟨b0, b1, b2, b3, b4, b5, g0, g1, g2, g3, g4, g5⟩ := res_cells HT4.out.box
      go_wp2_with fail
      refine (HK.out _ HT4.out.bel).mono ?_
      rintro e w9 ⟨vh, vm, vi, rfl, hO⟩
      obtain ⟨A9, c9, rfl⟩ := OwnR.form hO.held
      obtain ⟨B9, d9, rfl⟩ := OwnR.form hO.marks
      obtain ⟨C9, e9, rfl⟩ := OwnR.form hO.inbox
      have HT9 := Lib.hid (HT4.out.later hO.bel)
      have hsz := HT4.out.sz
      have HC := Lib.hid (put6_blk (V := w9) (a' := .int .i64 k.id) (b' := .int .i64 k.time) (c' := .int .i64 k.next) (d' := .slice A9 k.held.length c9) (e' := .slice B9 k.marks.length d9) (f' := .slice C9 k.inbox.length e9) HT9.out.res)
      have HD := Lib.hid (put6_below (V := w9) (B := w.heap.size) (R := w.heap.size + 1) (by omega) HT9.out.bel (.int .i64 k.id) (.int .i64 k.time) (.int .i64 k.next) (.slice A9 k.held.length c9) (.slice B9 k.marks.length d9) (.slice C9 k.inbox.length e9))
      have HG := Lib.hid (OwnK.put6 hO (by omega) (by omega) HD.out)
      clear hO HT4 HK
      clear b0 b1 b2 b3 b4 b5 g0 g1 g2 g3 g4 g5
      obtain ⟨r0, r1, r2, r3, r4, r5, f0, f1, f2, f3, f4, f5⟩ := res_cells HT9.out.res
      go_wp2
      have x0 := HC.out.cell 0
      have x1 := HC.out.cell 1
      have x2 := HC.out.cell 2
      have x3 := HC.out.cell 3
      have x4 := HC.out.cell 4
      have x5 := HC.out.cell 5
      refine bodyPost_ret (v := .tuple #[kpV k.id k.time k.next (.slice A9 k.held.length c9) (.slice B9 k.marks.length d9) (.slice C9 k.inbox.length e9), .bool false]) (by simp [results, Tryz.results15, go_sem, x0, x1, x2, x3, x4, x5]) rfl ⟨k, false, _, _, _, rfl, HP.out, HZZ.out, HG.out⟩
end Go.Proofs.YtjmmojjjopjdpaaGreatDoor.kp

/-
  Contract of impl.KeepStart.
-/
namespace Go.Proofs.YtjmmojjjopjdpaaGreatDoor.kp
open Go.ChangeShapes Go.WideShapes Go.ChangeAt Go.RowKit
open Go.Proofs.YtjmmojjjopjdpaaGreatDoor.wd Go.Proofs.YtjmmojjjopjdpaaGreatDoor.ow Go.Proofs.YtjmmojjjopjdpaaGreatDoor.rl Go.Proofs.YtjmmojjjopjdpaaGreatDoor.ok Go.Proofs.YtjmmojjjopjdpaaGreatDoor.nb Go.Proofs.YtjmmojjjopjdpaaGreatDoor.li

set_option maxRecDepth 100000 in
theorem istart_any (id : Int) (w : World) : Calls Tryz.prog 16 #[.int .i64 id] w (KeepPost w (startK id)) := by
  have H1 := Lib.hid (fun V => outside_any id 0 3 V)
  have k0 := Blk.new w 29 #[.int .i64 0, .int .i64 0, .int .i64 0, .slice none 0 0, .slice none 0 0, .slice none 0 0]
  have B0 := (Below.refl w.heap.size w).alloc (Nat.le_refl _) (.cells #[.int .i64 0, .int .i64 0, .int .i64 0, .slice none 0 0, .slice none 0 0, .slice none 0 0] 29)
  cases hb : inB id 0 3 with
  | false =>
    have HE := Lib.hid (show startK id = zeroK by unfold startK; rw [hb]; rfl)
    rw [hb] at H1
    go_enter Tryz.func16, Tryz.ntmps16
    go_wp2_with fail
    generalize w.alloc (.cells #[.int .i64 0, .int .i64 0, .int .i64 0, .slice none 0 0, .slice none 0 0, .slice none 0 0] 29) = V at k0 B0 ⊢
    refine (limited_any _ _).mono ?_
    rintro e w1 ⟨rfl, b1⟩
    have k1 := k0.below b1 k0.lt
    have B1 := B0.trans (b1.mono B0.size)
    clear k0 B0 b1
    go_wp2_with fail
    refine (H1.out _).mono ?_
    rintro e w2 ⟨rfl, b2⟩
    have k2 := k1.below b2 k1.lt
    have B2 := B1.trans (b2.mono B1.size)
    obtain ⟨r0, r1, r2, r3, r4, r5, f0, f1, f2, f3, f4, f5⟩ := res_cells k2
    have HC := Lib.hid (put6_blk (a' := .int .i64 0) (b' := .int .i64 0) (c' := .int .i64 0) (d' := .slice none 0 0) (e' := .slice none 0 0) (f' := .slice none 0 0) k2)
    have HD := Lib.hid (put6_below (B := w.heap.size) (R := w.heap.size) (Nat.le_refl _) B2 (.int .i64 0) (.int .i64 0) (.int .i64 0) (.slice none 0 0) (.slice none 0 0) (.slice none 0 0))
    clear k1 B1 b2 k2 B2
    go_wp2
    have x0 := HC.out.cell 0
    have x1 := HC.out.cell 1
    have x2 := HC.out.cell 2
    have x3 := HC.out.cell 3
    have x4 := HC.out.cell 4
    have x5 := HC.out.cell 5
    refine bodyPost_ret (v := kpV 0 0 0 (.slice none 0 0) (.slice none 0 0) (.slice none 0 0)) (by simp [results, Tryz.results16, go_sem, x0, x1, x2, x3, x4, x5]) rfl ⟨_, _, _, by rw [HE.out] <;> rfl, ?_⟩
    rw [HE.out]
    exact nil_own HD.out rfl rfl rfl
  | true =>
    have HE := Lib.hid (show startK id = ⟨id, 0, 1, [], [], []⟩ by unfold startK; rw [hb]; rfl)
    rw [hb] at H1
    go_enter Tryz.func16, Tryz.ntmps16
    go_wp2_with fail
    generalize w.alloc (.cells #[.int .i64 0, .int .i64 0, .int .i64 0, .slice none 0 0, .slice none 0 0, .slice none 0 0] 29) = V at k0 B0 ⊢
    refine (limited_any _ _).mono ?_
    rintro e w1 ⟨rfl, b1⟩
    have k1 := k0.below b1 k0.lt
    have B1 := B0.trans (b1.mono B0.size)
    clear k0 B0 b1
    go_wp2_with fail
    refine (H1.out _).mono ?_
    rintro e w2 ⟨rfl, b2⟩
    have k2 := k1.below b2 k1.lt
    have B2 := B1.trans (b2.mono B1.size)
    obtain ⟨r0, r1, r2, r3, r4, r5, f0, f1, f2, f3, f4, f5⟩ := res_cells k2
    have HC := Lib.hid (put6_blk (a' := .int .i64 id) (b' := .int .i64 0) (c' := .int .i64 1) (d' := .slice none 0 0) (e' := .slice none 0 0) (f' := .slice none 0 0) k2)
    have HD := Lib.hid (put6_below (B := w.heap.size) (R := w.heap.size) (Nat.le_refl _) B2 (.int .i64 id) (.int .i64 0) (.int .i64 1) (.slice none 0 0) (.slice none 0 0) (.slice none 0 0))
    clear k1 B1 b2 k2 B2
    go_wp2
    have x0 := HC.out.cell 0
    have x1 := HC.out.cell 1
    have x2 := HC.out.cell 2
    have x3 := HC.out.cell 3
    have x4 := HC.out.cell 4
    have x5 := HC.out.cell 5
    refine bodyPost_ret (v := kpV id 0 1 (.slice none 0 0) (.slice none 0 0) (.slice none 0 0)) (by simp [results, Tryz.results16, go_sem, x0, x1, x2, x3, x4, x5]) rfl ⟨_, _, _, by rw [HE.out] <;> rfl, ?_⟩
    rw [HE.out]
    exact nil_own HD.out rfl rfl rfl
end Go.Proofs.YtjmmojjjopjdpaaGreatDoor.kp

