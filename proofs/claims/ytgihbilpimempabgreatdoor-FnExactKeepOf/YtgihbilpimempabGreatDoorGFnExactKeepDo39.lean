/-
  Merged texts: IRec3, IChg, ICatch.
-/
import Derived.Test.YtgihbilpimempabGreatDoorGFnExactKeepDo38
import Derived.Test.YtgihbilpimempabGreatDoorGFnExactKeepDo25
import Derived.Test.YtgihbilpimempabGreatDoorGFnExactKeepDo33
import Derived.Test.YtgihbilpimempabGreatDoorGFnExactKeepDo34
import Derived.Test.YtgihbilpimempabGreatDoorGFnExactKeepDo35
import Derived.Test.YtgihbilpimempabGreatDoorGFnExactKeepDo36
import Derived.Test.YtgihbilpimempabGreatDoorGFnExactKeepDo29
import Derived.Defers
import Derived.Recover
import Derived.Laws.Pointers
/-
  Contracts of impl.recordOf and impl.readRecord.
-/
namespace Go.Proofs.YtgihbilpimempabGreatDoor.kp
open Go.ChangeShapes Go.WideShapes Go.ChangeAt Go.RowKit
open Go.Proofs.YtgihbilpimempabGreatDoor.nb Go.Proofs.YtgihbilpimempabGreatDoor.ok Go.Proofs.YtgihbilpimempabGreatDoor.wd Go.Proofs.YtgihbilpimempabGreatDoor.dc

def OfP (w : World) (a b : List UInt8) (e : Ending) (w' : World) : Prop := Below w.heap.size w w' ∧ ((∃ r, RO a b (some r) ∧ rcI r ∧ e = .returned (rcV r)) ∨ (RO a b none ∧ e = Imp))
theorem mkR_i64 (b : List UInt8) : i64M (mkR b) := ⟨atoi_i64 _, atoi_i64 _, atoi_i64 _⟩
theorem str_kw (l : List UInt8) : str l = ⟨⟨l⟩⟩ := rfl

set_option maxRecDepth 100000 in
set_option maxHeartbeats 800000 in
theorem of_time (b : List UInt8) (hs : b.length ≤ 1048576) (w : World) (hErr : Errs w) : Calls Tryz.prog 106 #[.string ⟨#[116, 105, 109, 101]⟩, .string (str b)] w (OfP w kwTime b) := by
  have HR := Lib.hid (rnum_any b hs w hErr)
  have HO := Lib.hid (ro_time b)
  have HI := Lib.hid (show rcI (.time (atoiV (word b).1)) from atoi_i64 _)
  have HV := Lib.hid (show rcV (.time (atoiV (word b).1)) = .iface 130 (.agg #[.int .i64 (rdV b 0)]) from rfl)
  generalize str b = s at HR ⊢
  go_enter Tryz.func106, Tryz.ntmps106
  go_wp2_with fail
  refine HR.out.mono ?_
  rintro e w2 ⟨rfl, hB2⟩
  have HB2 := Lib.hid hB2
  clear hB2 HR
  generalize rdV b 0 = v at HV
  go_wp2
  go_ret
  exact ⟨HB2.out, .inl ⟨_, HO.out, HI.out, congrArg Ending.returned HV.out.symm⟩⟩

set_option maxRecDepth 100000 in
set_option maxHeartbeats 800000 in
theorem of_next (b : List UInt8) (hs : b.length ≤ 1048576) (w : World) (hErr : Errs w) : Calls Tryz.prog 106 #[.string ⟨#[110, 101, 120, 116]⟩, .string (str b)] w (OfP w kwNext b) := by
  have HR := Lib.hid (rnum_any b hs w hErr)
  have HO := Lib.hid (ro_next b)
  have HI := Lib.hid (show rcI (.next (atoiV (word b).1)) from atoi_i64 _)
  have HV := Lib.hid (show rcV (.next (atoiV (word b).1)) = .iface 134 (.agg #[.int .i64 (rdV b 0)]) from rfl)
  generalize str b = s at HR ⊢
  go_enter Tryz.func106, Tryz.ntmps106
  go_wp2_with fail
  refine HR.out.mono ?_
  rintro e w2 ⟨rfl, hB2⟩
  have HB2 := Lib.hid hB2
  clear hB2 HR
  generalize rdV b 0 = v at HV
  go_wp2
  go_ret
  exact ⟨HB2.out, .inl ⟨_, HO.out, HI.out, congrArg Ending.returned HV.out.symm⟩⟩

set_option maxRecDepth 100000 in
set_option maxHeartbeats 800000 in
theorem of_own (b : List UInt8) (hs : b.length ≤ 1048576) (w : World) (hTab : Tab w) (hErr : Errs w) : Calls Tryz.prog 106 #[.string ⟨#[111, 119, 110]⟩, .string (str b)] w (OfP w kwOwn b) := by
  have HR := Lib.hid (rnote_any b hs w hTab hErr)
  have HO := Lib.hid (fun (y : Nt) (h : RD (str b) true y.f y.n y.t y.u y.s) => ro_own h)
  have HN := Lib.hid (fun (y : Nt) (h : RD (str b) false y.f y.n y.t y.u y.s) => ro_own_no h)
  unfold RNote at HR
  generalize str b = s at HR HO HN ⊢
  go_enter Tryz.func106, Tryz.ntmps106
  go_wp2_with fail
  refine HR.out.mono ?_
  rintro e w2 (⟨y, rfl, hrd, hB2⟩ | ⟨rfl, ⟨y, hrd⟩, hB2⟩)
  · have HB2 := Lib.hid hB2
    have HO2 := Lib.hid (HO.out y hrd)
    have HV := Lib.hid (show rcV (.own y) = .iface 136 (ntV y) from rfl)
    unfold ntV note at HV ⊢
    clear hB2 HR HO HN hrd
    go_wp2
    go_ret
    exact ⟨HB2.out, .inl ⟨_, HO2.out, trivial, congrArg Ending.returned HV.out.symm⟩⟩
  · have HB2 := Lib.hid hB2
    have HN2 := Lib.hid (HN.out y hrd)
    clear hB2 HR HO HN hrd
    go_wp2
    exact ⟨rfl, HB2.out, .inr ⟨HN2.out, rfl⟩⟩

set_option maxRecDepth 100000 in
set_option maxHeartbeats 800000 in
theorem of_take (b : List UInt8) (hs : b.length ≤ 1048576) (w : World) (hTab : Tab w) (hErr : Errs w) : Calls Tryz.prog 106 #[.string ⟨#[116, 97, 107, 101]⟩, .string (str b)] w (OfP w kwTake b) := by
  have HR := Lib.hid (rnote_any b hs w hTab hErr)
  have HO := Lib.hid (fun (y : Nt) (h : RD (str b) true y.f y.n y.t y.u y.s) => ro_take h)
  have HN := Lib.hid (fun (y : Nt) (h : RD (str b) false y.f y.n y.t y.u y.s) => ro_take_no h)
  unfold RNote at HR
  generalize str b = s at HR HO HN ⊢
  go_enter Tryz.func106, Tryz.ntmps106
  go_wp2_with fail
  refine HR.out.mono ?_
  rintro e w2 (⟨y, rfl, hrd, hB2⟩ | ⟨rfl, ⟨y, hrd⟩, hB2⟩)
  · have HB2 := Lib.hid hB2
    have HO2 := Lib.hid (HO.out y hrd)
    have HV := Lib.hid (show rcV (.take y) = .iface 138 (ntV y) from rfl)
    unfold ntV note at HV ⊢
    clear hB2 HR HO HN hrd
    go_wp2
    go_ret
    exact ⟨HB2.out, .inl ⟨_, HO2.out, trivial, congrArg Ending.returned HV.out.symm⟩⟩
  · have HB2 := Lib.hid hB2
    have HN2 := Lib.hid (HN.out y hrd)
    clear hB2 HR HO HN hrd
    go_wp2
    exact ⟨rfl, HB2.out, .inr ⟨HN2.out, rfl⟩⟩

set_option maxRecDepth 100000 in
set_option maxHeartbeats 800000 in
theorem of_held (b : List UInt8) (hs : b.length ≤ 1048576) (w : World) (hTab : Tab w) (hErr : Errs w) : Calls Tryz.prog 106 #[.string ⟨#[104, 101, 108, 100]⟩, .string (str b)] w (OfP w kwHeld b) := by
  have HR := Lib.hid (rnote_any b hs w hTab hErr)
  have HO := Lib.hid (fun (y : Nt) (h : RD (str b) true y.f y.n y.t y.u y.s) => ro_held h)
  have HN := Lib.hid (fun (y : Nt) (h : RD (str b) false y.f y.n y.t y.u y.s) => ro_held_no h)
  unfold RNote at HR
  generalize str b = s at HR HO HN ⊢
  go_enter Tryz.func106, Tryz.ntmps106
  go_wp2_with fail
  refine HR.out.mono ?_
  rintro e w2 (⟨y, rfl, hrd, hB2⟩ | ⟨rfl, ⟨y, hrd⟩, hB2⟩)
  · have HB2 := Lib.hid hB2
    have HO2 := Lib.hid (HO.out y hrd)
    have HV := Lib.hid (show rcV (.held y) = .iface 144 (ntV y) from rfl)
    unfold ntV note at HV ⊢
    clear hB2 HR HO HN hrd
    go_wp2
    go_ret
    exact ⟨HB2.out, .inl ⟨_, HO2.out, trivial, congrArg Ending.returned HV.out.symm⟩⟩
  · have HB2 := Lib.hid hB2
    have HN2 := Lib.hid (HN.out y hrd)
    clear hB2 HR HO HN hrd
    go_wp2
    exact ⟨rfl, HB2.out, .inr ⟨HN2.out, rfl⟩⟩

set_option maxRecDepth 100000 in
set_option maxHeartbeats 800000 in
theorem of_inbox (b : List UInt8) (hs : b.length ≤ 1048576) (w : World) (hTab : Tab w) (hErr : Errs w) : Calls Tryz.prog 106 #[.string ⟨#[105, 110, 98, 111, 120]⟩, .string (str b)] w (OfP w kwInbox b) := by
  have HR := Lib.hid (rnote_any b hs w hTab hErr)
  have HO := Lib.hid (fun (y : Nt) (h : RD (str b) true y.f y.n y.t y.u y.s) => ro_inbox h)
  have HN := Lib.hid (fun (y : Nt) (h : RD (str b) false y.f y.n y.t y.u y.s) => ro_inbox_no h)
  unfold RNote at HR
  generalize str b = s at HR HO HN ⊢
  go_enter Tryz.func106, Tryz.ntmps106
  go_wp2_with fail
  refine HR.out.mono ?_
  rintro e w2 (⟨y, rfl, hrd, hB2⟩ | ⟨rfl, ⟨y, hrd⟩, hB2⟩)
  · have HB2 := Lib.hid hB2
    have HO2 := Lib.hid (HO.out y hrd)
    have HV := Lib.hid (show rcV (.inbox y) = .iface 145 (ntV y) from rfl)
    unfold ntV note at HV ⊢
    clear hB2 HR HO HN hrd
    go_wp2
    go_ret
    exact ⟨HB2.out, .inl ⟨_, HO2.out, trivial, congrArg Ending.returned HV.out.symm⟩⟩
  · have HB2 := Lib.hid hB2
    have HN2 := Lib.hid (HN.out y hrd)
    clear hB2 HR HO HN hrd
    go_wp2
    exact ⟨rfl, HB2.out, .inr ⟨HN2.out, rfl⟩⟩

set_option maxRecDepth 100000 in
set_option maxHeartbeats 800000 in
theorem of_lets (b : List UInt8) (hs : b.length ≤ 1048576) (w : World) (hErr : Errs w) : Calls Tryz.prog 106 #[.string ⟨#[108, 101, 116]⟩, .string (str b)] w (OfP w kwLet b) := by
  have HR := Lib.hid (rmark_any b hs w hErr)
  have HO := Lib.hid (ro_let b)
  have HI := Lib.hid (show rcI (.lets (mkR b)) from mkR_i64 b)
  generalize mkR b = m at HR HO HI
  have HV := Lib.hid (show rcV (.lets m) = .iface 140 (mkV m) from rfl)
  unfold mkV mark at HR HV
  generalize str b = s at HR ⊢
  go_enter Tryz.func106, Tryz.ntmps106
  go_wp2_with fail
  refine HR.out.mono ?_
  rintro e w2 ⟨rfl, hB2⟩
  have HB2 := Lib.hid hB2
  clear hB2 HR
  go_wp2
  go_ret
  exact ⟨HB2.out, .inl ⟨_, HO.out, HI.out, congrArg Ending.returned HV.out.symm⟩⟩

set_option maxRecDepth 100000 in
set_option maxHeartbeats 800000 in
theorem of_eat (b : List UInt8) (hs : b.length ≤ 1048576) (w : World) (hErr : Errs w) : Calls Tryz.prog 106 #[.string ⟨#[101, 97, 116]⟩, .string (str b)] w (OfP w kwEat b) := by
  have HR := Lib.hid (rmark_any b hs w hErr)
  have HO := Lib.hid (ro_eat b)
  have HI := Lib.hid (show rcI (.eat (mkR b)) from mkR_i64 b)
  generalize mkR b = m at HR HO HI
  have HV := Lib.hid (show rcV (.eat m) = .iface 142 (mkV m) from rfl)
  unfold mkV mark at HR HV
  generalize str b = s at HR ⊢
  go_enter Tryz.func106, Tryz.ntmps106
  go_wp2_with fail
  refine HR.out.mono ?_
  rintro e w2 ⟨rfl, hB2⟩
  have HB2 := Lib.hid hB2
  clear hB2 HR
  go_wp2
  go_ret
  exact ⟨HB2.out, .inl ⟨_, HO.out, HI.out, congrArg Ending.returned HV.out.symm⟩⟩

set_option maxRecDepth 100000 in
set_option maxHeartbeats 800000 in
theorem of_mark (b : List UInt8) (hs : b.length ≤ 1048576) (w : World) (hErr : Errs w) : Calls Tryz.prog 106 #[.string ⟨#[109, 97, 114, 107]⟩, .string (str b)] w (OfP w kwMark b) := by
  have HR := Lib.hid (rmark_any b hs w hErr)
  have HO := Lib.hid (ro_mark b)
  have HI := Lib.hid (show rcI (.mark (mkR b)) from mkR_i64 b)
  generalize mkR b = m at HR HO HI
  have HV := Lib.hid (show rcV (.mark m) = .iface 143 (mkV m) from rfl)
  unfold mkV mark at HR HV
  generalize str b = s at HR ⊢
  go_enter Tryz.func106, Tryz.ntmps106
  go_wp2_with fail
  refine HR.out.mono ?_
  rintro e w2 ⟨rfl, hB2⟩
  have HB2 := Lib.hid hB2
  clear hB2 HR
  go_wp2
  go_ret
  exact ⟨HB2.out, .inl ⟨_, HO.out, HI.out, congrArg Ending.returned HV.out.symm⟩⟩

set_option maxRecDepth 100000 in
set_option maxHeartbeats 800000 in
theorem of_none (l b : List UInt8) (w : World) (hw : ∀ r : Rc, kw r ≠ (word l).1) : Calls Tryz.prog 106 #[.string (str (word l).1), .string (str b)] w (OfP w (word l).1 b) := by
  have wTime := word_not (hw (.time 0)) (show kw (.time 0) = [116, 105, 109, 101] from rfl)
  have wNext := word_not (hw (.next 0)) (show kw (.next 0) = [110, 101, 120, 116] from rfl)
  have wOwn := word_not (hw (.own ⟨0, 0, 0, 0, ⟨#[]⟩⟩)) (show kw (.own ⟨0, 0, 0, 0, ⟨#[]⟩⟩) = [111, 119, 110] from rfl)
  have wTake := word_not (hw (.take ⟨0, 0, 0, 0, ⟨#[]⟩⟩)) (show kw (.take ⟨0, 0, 0, 0, ⟨#[]⟩⟩) = [116, 97, 107, 101] from rfl)
  have wHeld := word_not (hw (.held ⟨0, 0, 0, 0, ⟨#[]⟩⟩)) (show kw (.held ⟨0, 0, 0, 0, ⟨#[]⟩⟩) = [104, 101, 108, 100] from rfl)
  have wInbox := word_not (hw (.inbox ⟨0, 0, 0, 0, ⟨#[]⟩⟩)) (show kw (.inbox ⟨0, 0, 0, 0, ⟨#[]⟩⟩) = [105, 110, 98, 111, 120] from rfl)
  have wLet := word_not (hw (.lets ⟨0, 0, 0⟩)) (show kw (.lets ⟨0, 0, 0⟩) = [108, 101, 116] from rfl)
  have wEat := word_not (hw (.eat ⟨0, 0, 0⟩)) (show kw (.eat ⟨0, 0, 0⟩) = [101, 97, 116] from rfl)
  have wMark := word_not (hw (.mark ⟨0, 0, 0⟩)) (show kw (.mark ⟨0, 0, 0⟩) = [109, 97, 114, 107] from rfl)
  have HO := Lib.hid (ro_other (b := b) hw)
  clear hw
  generalize str (word l).1 = wd at wTime wNext wOwn wTake wHeld wInbox wLet wEat wMark ⊢
  generalize str b = s
  go_enter Tryz.func106, Tryz.ntmps106
  go_wp2
  exact ⟨rfl, Below.refl _ _, .inr ⟨HO.out, rfl⟩⟩

theorem recordOf_any (l b : List UInt8) (hs : b.length ≤ 1048576) (w : World) (hTab : Tab w) (hErr : Errs w) : Calls Tryz.prog 106 #[.string (str (word l).1), .string (str b)] w (OfP w (word l).1 b) := by
  by_cases h0 : (word l).1 = kwTime
  · rw [h0]; exact of_time b hs w hErr
  by_cases h1 : (word l).1 = kwNext
  · rw [h1]; exact of_next b hs w hErr
  by_cases h2 : (word l).1 = kwOwn
  · rw [h2]; exact of_own b hs w hTab hErr
  by_cases h3 : (word l).1 = kwTake
  · rw [h3]; exact of_take b hs w hTab hErr
  by_cases h4 : (word l).1 = kwHeld
  · rw [h4]; exact of_held b hs w hTab hErr
  by_cases h5 : (word l).1 = kwInbox
  · rw [h5]; exact of_inbox b hs w hTab hErr
  by_cases h6 : (word l).1 = kwLet
  · rw [h6]; exact of_lets b hs w hErr
  by_cases h7 : (word l).1 = kwEat
  · rw [h7]; exact of_eat b hs w hErr
  by_cases h8 : (word l).1 = kwMark
  · rw [h8]; exact of_mark b hs w hErr
  refine of_none l b w fun r e => ?_
  cases r
  · exact h0 e.symm
  · exact h1 e.symm
  · exact h2 e.symm
  · exact h3 e.symm
  · exact h4 e.symm
  · exact h5 e.symm
  · exact h6 e.symm
  · exact h7 e.symm
  · exact h8 e.symm

def RrP (w : World) (l : List UInt8) (e : Ending) (w' : World) : Prop := Below w.heap.size w w' ∧ ((∃ r, RR l (some r) ∧ e = .returned (rcV r)) ∨ (RR l none ∧ e = Imp))

set_option maxRecDepth 100000 in
set_option maxHeartbeats 800000 in
theorem readRecord_any (l : List UInt8) (hs : l.length ≤ 1048576) (w : World) (hTab : Tab w) (hErr : Errs w) : Calls Tryz.prog 62 #[.string (str l)] w (RrP w l) := by
  have hwl := word_len l
  have HW := Lib.hid (fun W => cut_any (str l) (by rw [str_size]; omega) W)
  unfold CutPost at HW
  rw [data_str] at HW
  have HR := Lib.hid (fun V h1 h2 => recordOf_any l (word l).2 (by omega) V h1 h2)
  unfold OfP at HR
  have H1 := Lib.hid (fun r (h : RO (word l).1 (word l).2 (some r)) (e : l = txL r) => rr_some h e)
  have H2 := Lib.hid (fun (h : RO (word l).1 (word l).2 none) => rr_none h)
  have H3 := Lib.hid (fun r (h : RO (word l).1 (word l).2 (some r)) (e : l ≠ txL r) => rr_other h e)
  have HX := Lib.hid (fun r (h : RO (word l).1 (word l).2 (some r)) => (show ntIn r from h.1))
  have HM := Lib.hid mText
  have HC := Lib.hid callRc
  have hsl : (str l).size ≤ maxLen := by rw [str_size]; unfold maxLen; omega
  clear hwl
  generalize RO (word l).1 (word l).2 = ro at HR H1 H2 H3 HX
  generalize str (word l).1 = s1 at HW HR
  generalize str (word l).2 = s2 at HW HR
  go_enter Tryz.func62, Tryz.ntmps62
  go_wp2_with fail
  refine (HW.out _).mono ?_
  rintro e w1 ⟨fb, rfl, hB1⟩
  have HB1 := Lib.hid hB1
  have HT1 := Lib.hid (hTab.later hB1)
  have HE1 := Lib.hid (hErr.later hB1)
  clear hB1 HW hTab hErr
  go_wp2_with fail
  refine (HR.out _ HT1.out HE1.out).mono ?_
  rintro e w2 ⟨hB2, ⟨r, hro, hri, rfl⟩ | ⟨hro, rfl⟩⟩
  case inr =>
    have HB2 := Lib.hid (HB1.out.trans (hB2.mono HB1.out.size))
    have HQ := Lib.hid (H2.out hro)
    clear hB2 hro HR H1 H2 H3 HX
    go_wp2
    exact ⟨rfl, HB2.out, .inr ⟨HQ.out, rfl⟩⟩
  have hni := HX.out r hro
  have HT2 := Lib.hid (HT1.out.later hB2)
  have HB2 := Lib.hid (HB1.out.trans (hB2.mono HB1.out.size))
  have HX2 := Lib.hid (text_any r hni hri w2 HT2.out)
  unfold StrPost at HX2
  have hlx := txL_len hni hri
  have hm := fun V => HM.out r V
  have HV := Lib.hid (show rcV r = .iface (rcT r) (rcP r) from rfl)
  by_cases e1 : l = txL r
  · have HQ := Lib.hid (H1.out r hro e1)
    have hq : ((str (txL r)).toList == (str l).toList) = true := by rw [← e1]; exact beq_self_eq_true _
    clear e1 hro hri HR H1 H2 H3 HX hB2 hni HM
    generalize str (txL r) = tx at HX2 hlx hq
    generalize str l = sl at hq hsl ⊢
    have hcf := fun V => HC.out r V
    rw [HV.out]
    clear HC
    generalize rcT r = tt at hm HV ⊢
    generalize rcP r = pp at hm HX2 hcf HV ⊢
    generalize rcFn r = ff at hm HX2 hcf
    go_wp2_with fail
    refine HX2.out.mono ?_
    rintro e w3 ⟨rfl, hB3⟩
    have HB3 := Lib.hid (HB2.out.trans (hB3.mono HB2.out.size))
    clear hB3 HX2 hm hcf
    go_wp2_with fail
    refine (require_t _).mono ?_
    rintro e w4 ⟨rfl, rfl⟩
    go_wp2
    go_ret
    exact ⟨HB3.out, .inl ⟨r, HQ.out, congrArg Ending.returned HV.out.symm⟩⟩
  · have HQ := Lib.hid (H3.out r hro e1)
    have hq : ((str (txL r)).toList == (str l).toList) = false := toList_ne (fun e => e1 (str_inj e).symm)
    clear e1 hro hri HR H1 H2 H3 HX hB2 hni HM
    generalize str (txL r) = tx at HX2 hlx hq
    generalize str l = sl at hq hsl ⊢
    have hcf := fun V => HC.out r V
    rw [HV.out]
    clear HC HV
    generalize rcT r = tt at hm ⊢
    generalize rcP r = pp at hm HX2 hcf ⊢
    generalize rcFn r = ff at hm HX2 hcf
    go_wp2_with fail
    refine HX2.out.mono ?_
    rintro e w3 ⟨rfl, hB3⟩
    have HB3 := Lib.hid (HB2.out.trans (hB3.mono HB2.out.size))
    clear hB3 HX2 hm hcf
    go_wp2_with fail
    refine (require_f _).mono ?_
    rintro e w4 ⟨rfl, rfl⟩
    go_wp2
    exact ⟨rfl, HB3.out, .inr ⟨HQ.out, rfl⟩⟩
end Go.Proofs.YtgihbilpimempabGreatDoor.kp

/-
  Contract of (*impl.Keep).change: whatever the record.
-/
namespace Go.Proofs.YtgihbilpimempabGreatDoor.kp
open Go.ChangeShapes Go.WideShapes Go.ChangeAt Go.RowKit
open Go.Proofs.YtgihbilpimempabGreatDoor.wd Go.Proofs.YtgihbilpimempabGreatDoor.ow Go.Proofs.YtgihbilpimempabGreatDoor.rl Go.Proofs.YtgihbilpimempabGreatDoor.ok Go.Proofs.YtgihbilpimempabGreatDoor.nb Go.Proofs.YtgihbilpimempabGreatDoor.nx

theorem change_any (B : Nat) (W : World) (g q : Nat) (k : Kp) (a b c : Value) (r : Rc) (h : MK B W g k a b c) (hk : okK k = true) (hn : ntIn r) (hr : q < W.heap.size) (hng : q ≠ g) (hro : Off q a b c) :
    Calls Tryz.prog 61 #[.pointer (some ⟨g, 0, none⟩), rcV r] W (ChPost B W g q (applyS k r)) := by
  have hz := (sz_ok hk).up (show 12 ≤ 14 by omega)
  cases r with
  | time v => exact chg_time B W g q k a b c v h hz hr hng hro
  | next v => exact chg_next B W g q k a b c v h hz hr hng hro
  | own x => exact chg_own B W g q k a b c x h hz hr hng hro hk hn
  | take x => exact chg_take B W g q k a b c x h hz hr hng hro hn
  | held x => exact chg_held B W g q k a b c x h hz hr hng hro
  | inbox x => exact chg_inbox B W g q k a b c x h hz hr hng hro
  | lets m => exact chg_lets B W g q k a b c m h hz hr hng hro
  | eat m => exact chg_eat B W g q k a b c m h hz hr hng hro
  | mark m => exact chg_mark B W g q k a b c m h hz hr hng hro
end Go.Proofs.YtgihbilpimempabGreatDoor.kp

/-
  Contract of the function that impl.apply defers, in both modes.
-/
namespace Go.Proofs.YtgihbilpimempabGreatDoor.kp
open Go.ChangeShapes Go.WideShapes Go.ChangeAt Go.RowKit
open Go.Proofs.YtgihbilpimempabGreatDoor.wd

theorem ta_imp (w : World) : (Instr.typeAssert (.iface 91 (.agg #[])) 20 91 true).run Tryz.prog w = .ok (.tuple #[.agg #[], .bool true]) w := by kernel_rfl
theorem ta_nil (w : World) : (Instr.typeAssert .nilIface 20 91 true).run Tryz.prog w = .ok (.tuple #[.agg #[], .bool false]) w := by kernel_rfl

theorem alloc_cell {w : World} {p : Addr} {v : Value} (hp : p.block < w.heap.size) (hc : w.cell? p = some v) (o : Obj) : (w.alloc o).cell? p = some v :=
  (((Below.refl w.heap.size w).alloc (Nat.le_refl _) o).cell hp).trans hc
theorem alloc_frozen {w : World} {p : Addr} (hp : p.block < w.heap.size) (hz : w.frozen? p = false) (o : Obj) : (w.alloc o).frozen? p = false := by
  rw [World.frozen?_alloc_old w o p (by omega)]; exact hz

theorem catch_p (p : Addr) (x : Bool) (w : World) (hc : w.cell? p = some (.bool x)) (hz : w.frozen? p = false) (hp : p.block < w.heap.size) :
    CallsD Tryz.prog 60 #[.pointer (some p)] (.panicking [{ v := .iface 91 (.agg #[]), recovered := false }]) w fun e u' w' =>
      e = .returned (.tuple #[]) ∧ u' = .panicking [{ v := .iface 91 (.agg #[]), recovered := true }] ∧ w' = (w.alloc (.cells #[] 91)).setCell p (.bool false) := by
  have h1 := ta_imp
  have c1 := alloc_cell hp hc (.cells #[] 91)
  have z1 := alloc_frozen hp hz (.cells #[] 91)
  refine callsD_of_wpS Tryz.func60 rfl fun c₀ cs hu => ?_
  apply wpS_seq
  apply wpS_region
  simp [wpOpsS, go_sem, recoverD, hu, Tryz.ntmps60, Exit.thenS, h1]
  generalize w.alloc (.cells #[] 91) = V at c1 z1 ⊢
  apply wpS_seq
  apply wpS_region
  simp [wpOpsS, go_sem, Exit.thenS]
  refine wpS_cond (t := true) (by simp [Act.eval, Array.replicate]) ?_
  simp only [if_true]
  apply wpS_region
  simp [wpOpsS, go_sem, c1, z1, bodyPostS, results, Tryz.results60]

theorem catch_i (p : Addr) (w : World) :
    CallsD Tryz.prog 60 #[.pointer (some p)] .returning w fun e u' w' => e = .returned (.tuple #[]) ∧ u' = .returning ∧ w' = w.alloc (.cells #[] 91) := by
  have h1 := ta_nil
  refine callsD_of_wpS Tryz.func60 rfl fun c₀ cs hu => ?_
  apply wpS_seq
  apply wpS_region
  simp [wpOpsS, go_sem, recoverD, hu, Tryz.ntmps60, Exit.thenS, h1]
  generalize w.alloc (.cells #[] 91) = V
  apply wpS_seq
  apply wpS_region
  simp [wpOpsS, go_sem, Exit.thenS]
  refine wpS_cond (t := false) (by simp [Act.eval, Array.replicate]) ?_
  simp only [Bool.false_eq_true, if_false]
  refine wpS_of_wp (wp_skip ?_)
  cases c₀
  simp_all [bodyPostS, results, Tryz.results60]
end Go.Proofs.YtgihbilpimempabGreatDoor.kp

