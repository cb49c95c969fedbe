/-
  Contracts of (*impl.frameCursor).readSum, readEnd and of impl.FrameUnpack.
-/
import Derived.Test.YtgihbilpimempaaDoorFrUn3
namespace Go.Proofs.YtgihbilpimempaaDoor.fr
open Go.ChangeShapes Go.WideShapes Go.ChangeAt Go.RowKit
open Go.Proofs.YtgihbilpimempaaDoor.nb Go.Proofs.YtgihbilpimempaaDoor.wd Go.Proofs.YtgihbilpimempaaDoor.cp Go.Proofs.YtgihbilpimempaaDoor.ow

/-- the cursor, whatever fault it has; whether it has one -/
def CuF (w : World) (b : Nat) (A : Option Addr) (c : Nat) (l : List UInt8) (i : Nat) (fine : Bool) : Prop :=
  ∃ flt, Blk w b 49 #[.slice A l.length c, .int .i64 ((min i l.length : Nat) : Int), flt] ∧ (fine = true ∧ flt = .nilIface ∨ fine = false ∧ ∃ t p, flt = .iface t p)
theorem Cu.toF {w : World} {b : Nat} {A : Option Addr} {c : Nat} {l : List UInt8} {i : Nat} (h : Cu w b A c l i) : CuF w b A c l i (decide (i ≤ l.length)) := by
  obtain ⟨flt, hb, hf⟩ := h
  refine ⟨flt, hb, ?_⟩
  rcases hf with ⟨h1, h2⟩ | ⟨h1, h2⟩
  · exact .inl ⟨decide_eq_true h1, h2⟩
  · exact .inr ⟨decide_eq_false (by omega), h2⟩
/-- 'fail' at a cursor that has a fault or has none -/
theorem fail_any (w : World) (b : Nat) (A : Option Addr) (c : Nat) (l : List UInt8) (i : Nat) (fine : Bool) (t : TypeId) (p : Value) (h : CuF w b A c l i fine) :
    Calls Tryd.prog 54 #[.pointer (some ⟨b, 0, none⟩), .iface t p] w (fun e w' => e = .returned (.tuple #[]) ∧ CuF w' b A c l i false ∧ But w.heap.size b w w') := by
  obtain ⟨flt, hb, hf⟩ := h
  rcases hf with ⟨_, e⟩ | ⟨_, t', p', e⟩
  · subst e
    exact (fail_set w b _ _ t p hb).mono fun _ _ ⟨h1, h2, h3, _⟩ => ⟨h1, ⟨_, h2, .inr ⟨rfl, _, _, rfl⟩⟩, h3⟩
  · subst e
    exact (fail_keep w b _ _ t t' p p' hb).mono fun _ _ ⟨h1, h2, h3, _⟩ => ⟨h1, ⟨_, h2, .inr ⟨rfl, _, _, rfl⟩⟩, h3⟩

def SumPost (w : World) (b : Nat) (A : Option Addr) (c : Nat) (l : List UInt8) (i : Nat) (e : Ending) (w' : World) : Prop :=
  e = .returned (.tuple #[]) ∧ CuF w' b A c l (i + 2) (decide (i + 2 ≤ l.length) && chk l i) ∧ But w.heap.size b w w'

set_option maxRecDepth 100000 in
set_option maxHeartbeats 1000000 in
theorem readSum_any (w : World) (b : Nat) (A : Option Addr) (c : Nat) (l : List UInt8) (i : Nat) (h : Cu w b A c l i) (hr : RowU b w A l) (hE : FErr b w) (hl : l.length ≤ 1048576) (hlc : l.length ≤ c) (hc : c ≤ maxLen) (hi : 1 ≤ i) :
    Calls Tryd.prog 33 #[.pointer (some ⟨b, 0, none⟩)] w (SumPost w b A c l i) := by
  unfold maxLen at hc
  have hbw := h.at
  obtain ⟨flt, hb, hf⟩ := h
  obtain ⟨c0, c1, c2⟩ := three hb
  have HC : Hid (Cu w b A c l i) := ⟨flt, hb, hf⟩
  have hk1 : ((min i l.length : Nat) : Int) ≤ (l.length : Int) := by omega
  have hk2 : ((min i l.length : Nat) : Int) ≤ (c : Int) := by omega
  have hk0 : (0 : Int) ≤ ((min i l.length : Nat) : Int) := by omega
  have htk : (l.take (min i l.length)).length = min i l.length := by rw [List.length_take]; omega
  -- the bytes ahead, as the sum reads them
  have hrow : RowB w A (l.take (min i l.length)) := fun hp => by
    rw [htk] at hp
    obtain ⟨g, o, e, hg, hcell⟩ := hr (by omega)
    refine ⟨g, o, e, by omega, fun j hj => ?_⟩
    rw [htk] at hj
    rw [hcell j (by omega)]
    unfold vl
    rw [List.getD_eq_getElem?_getD, List.getD_eq_getElem?_getD, List.getElem?_take_of_lt hj]
  have HSum := Lib.hid (fun n => (isum_any (w.drewN n) A c (l.take (min i l.length)) (hrow.drewN n) (by rw [htk]; unfold maxLen; omega)).mono (R' := fun e w' => e = .returned (.int .i64 (smL (l.take (min i l.length)))) ∧ w' = w.drewN n) fun _ _ h => ⟨h.1, h.2.symm⟩)
  rw [htk] at HSum
  have hE0 := Lib.hid hE
  have HR := Lib.hid hr
  go_enter Tryd.func33, Tryd.ntmps33
  clear hrow hf hb hr hE
  have HQ := Lib.hid (sm_take l (min i l.length) (by omega))
  generalize hm : min i l.length = m at c1 hk0 hk1 hk2 htk HSum HQ
  have HMm := Lib.hid hm
  clear hm htk
  generalize smL (l.take m) = q at HSum HQ
  go_upto_region 0 with (fail)
  go_quiet ((go_at_call 28; exact Calls.quiet_of_same (HSum.out _)))
  have hC1 : Cu (w.drewN nq) b A c l i := HC.out
  have HE1 : Hid (FErr b (w.drewN nq)) := hE0.out
  have HPr := Lib.hid (pair_any (w.drewN nq) b A c l i hC1 HR.out hE0.out hl hbw)
  have HB1 : Hid (But w.heap.size b w (w.drewN nq)) := (But.refl _ _ _).drewN nq
  have HS1 : Hid ((w.drewN nq).heap.size = w.heap.size) := rfl
  clear c0 c1 c2 hC1 HSum hE0 HR HC
  generalize w.drewN nq = W1 at HPr HB1 HS1 HE1 ⊢
  go_wp2_with fail
  refine HPr.out.mono ?_
  rintro e W2 ⟨rfl, hC2, hB2, hs2⟩
  have hlow : Below b W1 W2 := hB2.low (by rw [HS1.out]; exact hbw)
  have hE2 := HE1.out.below hlow
  obtain ⟨e0, p0, hg0⟩ := hE2.2 0 (by omega)
  have HB2 := Lib.hid (HB1.out.trans (hB2.less (by rw [HS1.out]; exact Nat.le_refl _)))
  have hCF := hC2.toF
  have HFail := Lib.hid (fail_any W2 b A c l (i + 2) _ e0 p0 hCF)
  have HCF := Lib.hid hCF
  have HS2 : Hid (W2.heap.size = w.heap.size) := hs2.trans HS1.out
  -- are the two bytes the sum?
  have hq : i ≤ l.length → (q = sm l i) := fun h => by rw [HQ.out, ← HMm.out]; congr 1; omega
  by_cases hlen : i + 2 ≤ l.length
  · have hq' := hq (by omega)
    by_cases hp : vl l i * 256 + vl l (i + 1) = q
    · have HCk := Lib.hid (show (decide (i + 2 ≤ l.length) && chk l i) = decide (i + 2 ≤ l.length) by
        have : chk l i = true := decide_eq_true (by rw [hp, hq'])
        rw [this, Bool.and_true])
      have hne : (vl l i * 256 + vl l (i + 1) != q) = false := by rw [hp]; simp
      clear hC2 hB2 hlow hE2 hCF hq hq' hp HPr hs2 hg0 HFail
      generalize vl l i * 256 + vl l (i + 1) = X at hne
      go_wp2
      go_end0
      exact ⟨rfl, by rw [HCk.out]; exact HCF.out, HB2.out⟩
    · have HCk := Lib.hid (show (decide (i + 2 ≤ l.length) && chk l i) = false by
        have : chk l i = false := decide_eq_false (by rw [← hq']; exact hp)
        rw [this, Bool.and_false])
      have hne : (vl l i * 256 + vl l (i + 1) != q) = true := by simpa using hp
      clear hC2 hB2 hlow hE2 hCF hq hq' hp HPr hs2 HCF
      generalize vl l i * 256 + vl l (i + 1) = X at hne
      go_wp2_with fail
      refine HFail.out.mono ?_
      rintro e W3 ⟨rfl, hC3, hB3⟩
      have HB3 := Lib.hid (HB2.out.trans (hB3.less (by rw [HS2.out]; exact Nat.le_refl _)))
      have HC3 := Lib.hid hC3
      clear hB3 hC3 HFail hg0
      go_wp2
      go_end0
      exact ⟨rfl, by rw [HCk.out]; exact HC3.out, HB3.out⟩
  · have HCk := Lib.hid (show (decide (i + 2 ≤ l.length) && chk l i) = false by rw [decide_eq_false hlen, Bool.false_and])
    have HCk2 := Lib.hid (show decide (i + 2 ≤ l.length) = false from decide_eq_false hlen)
    clear hC2 hB2 hlow hE2 hCF hq HPr hs2
    by_cases hp : vl l i * 256 + vl l (i + 1) = q
    · have hne : (vl l i * 256 + vl l (i + 1) != q) = false := by rw [hp]; simp
      clear hp HFail hg0
      generalize vl l i * 256 + vl l (i + 1) = X at hne
      go_wp2
      go_end0
      exact ⟨rfl, by rw [HCk.out, ← HCk2.out]; exact HCF.out, HB2.out⟩
    · have hne : (vl l i * 256 + vl l (i + 1) != q) = true := by simpa using hp
      clear hp HCF
      generalize vl l i * 256 + vl l (i + 1) = X at hne
      go_wp2_with fail
      refine HFail.out.mono ?_
      rintro e W3 ⟨rfl, hC3, hB3⟩
      have HB3 := Lib.hid (HB2.out.trans (hB3.less (by rw [HS2.out]; exact Nat.le_refl _)))
      have HC3 := Lib.hid hC3
      clear hB3 hC3 HFail hg0
      go_wp2
      go_end0
      exact ⟨rfl, by rw [HCk.out]; exact HC3.out, HB3.out⟩

def EndPost (w : World) (b : Nat) (A : Option Addr) (c : Nat) (l : List UInt8) (i : Nat) (fine : Bool) (e : Ending) (w' : World) : Prop :=
  e = .returned (.tuple #[]) ∧ CuF w' b A c l i (fine && decide (l.length ≤ i)) ∧ But w.heap.size b w w'

set_option maxRecDepth 100000 in
set_option maxHeartbeats 1000000 in
theorem readEnd_any (w : World) (b : Nat) (A : Option Addr) (c : Nat) (l : List UInt8) (i : Nat) (fine : Bool) (h : CuF w b A c l i fine) (hE : FErr b w) (hl : l.length ≤ 1048576) :
    Calls Tryd.prog 34 #[.pointer (some ⟨b, 0, none⟩)] w (EndPost w b A c l i fine) := by
  have HC := Lib.hid h
  obtain ⟨flt, hb, _⟩ := h
  obtain ⟨c0, c1, c2⟩ := three hb
  have hbl := hb.lt
  obtain ⟨e1, p1, hg1⟩ := hE.2 1 (by omega)
  have HF := Lib.hid (fun V (hV : CuF V b A c l i fine) => fail_any V b A c l i fine e1 p1 hV)
  have hl' : (l.length : Int) ≤ 1048576 := by omega
  clear hb hE
  generalize hm : min i l.length = m at c1
  have HMm := Lib.hid hm
  go_enter Tryd.func34, Tryd.ntmps34
  go_upto_region 0 with (fail)
  by_cases hi : i < l.length
  · have hlt : (m : Int) < (l.length : Int) := by omega
    have HCk := Lib.hid (show (fine && decide (l.length ≤ i)) = false by rw [decide_eq_false (by omega), Bool.and_false])
    clear hm
    go_quiet (fail)
    have hC1 : Hid (CuF (w.drewN nq) b A c l i fine) := HC.out
    have HB1 : Hid (But w.heap.size b w (w.drewN nq)) := (But.refl _ _ _).drewN nq
    have HS1 : Hid ((w.drewN nq).heap.size = w.heap.size) := rfl
    have g1 : (w.drewN nq).cell? ⟨1, 0, none⟩ = some (.iface e1 p1) := hg1
    clear c0 c1 c2 HC hg1
    generalize w.drewN nq = W1 at hC1 HB1 HS1 g1 ⊢
    go_wp2_with fail
    refine (HF.out _ hC1.out).mono ?_
    rintro e W3 ⟨rfl, hC3, hB3⟩
    have HB3 := Lib.hid (HB1.out.trans (hB3.less (by rw [HS1.out]; exact Nat.le_refl _)))
    have HC3 := Lib.hid hC3
    clear hB3 hC3 HF g1 hC1
    go_wp2
    go_end0
    exact ⟨rfl, by rw [HCk.out]; exact HC3.out, HB3.out⟩
  · have hlt : ¬ (m : Int) < (l.length : Int) := by omega
    have hlt' : decide ((m : Int) < (l.length : Int)) = false := decide_eq_false hlt
    have HCk := Lib.hid (show (fine && decide (l.length ≤ i)) = fine by rw [decide_eq_true (by omega), Bool.and_true])
    clear hm HF hg1
    go_quiet (fail)
    have hC1 : Hid (CuF (w.drewN nq) b A c l i fine) := HC.out
    have HB1 : Hid (But w.heap.size b w (w.drewN nq)) := (But.refl _ _ _).drewN nq
    clear c0 c1 c2 HC
    go_wp2
    go_end0
    exact ⟨rfl, by rw [HCk.out]; exact hC1.out, HB1.out⟩

theorem CuF.far {w : World} {b : Nat} {A : Option Addr} {c : Nat} {l : List UInt8} {i : Nat} {fine : Bool} (h : CuF w b A c l i fine) (o : Obj) : CuF (w.alloc o) b A c l i fine := by
  obtain ⟨flt, hb, hf⟩ := h
  exact ⟨flt, hb.alloc o, hf⟩

def UnPost (w : World) (l : List UInt8) (e : Ending) (w' : World) : Prop := e = .returned (.tuple #[frv (unp l), .bool (isF l)]) ∧ Below w.heap.size w w'
theorem Below.ten {B : Nat} {w W : World} (h : Below B w W) {R : Nat} (hR : B ≤ R) (a0 a1 a2 a3 a4 a5 a6 a7 a8 a9 : Value) : Below B w ((((((((((W.setCell ⟨R, 0, none⟩ a0).setCell ⟨R, 1, none⟩ a1).setCell ⟨R, 2, none⟩ a2).setCell ⟨R, 3, none⟩ a3).setCell ⟨R, 4, none⟩ a4).setCell ⟨R, 5, none⟩ a5).setCell ⟨R, 6, none⟩ a6).setCell ⟨R, 7, none⟩ a7).setCell ⟨R, 8, none⟩ a8).setCell ⟨R, 9, none⟩ a9) := put10 h hR a0 a1 a2 a3 a4 a5 a6 a7 a8 a9
theorem But.under {B b : Nat} {w w' : World} (h : But B b w w') (hb : w.heap.size ≤ b) (hB : w.heap.size ≤ B) : Below w.heap.size w w' := ⟨h.1, h.2.1, h.2.2.1, h.2.2.2.1, fun k hk => h.2.2.2.2 k (by omega) (by omega)⟩

set_option maxRecDepth 100000 in
set_option maxHeartbeats 2000000 in
theorem iunp_any (w : World) (A : Option Addr) (c : Nat) (l : List UInt8) (hr : RowB w A l) (hE : FErr w.heap.size w) (hl : l.length ≤ 1048576) (hlc : l.length ≤ c) (hc : c ≤ maxLen) :
    Calls Tryd.prog 13 #[.slice A l.length c] w (UnPost w l) := by
  -- the result's box, the cursor
  have hZ := (Blk.new w 24 zeroF).alloc (.cells #[.slice A l.length c, .int .i64 0, .nilIface] 49)
  have hb := Blk.new (w.alloc (.cells zeroF 24)) 49 #[.slice A l.length c, .int .i64 0, .nilIface]
  have e1 : (w.alloc (.cells zeroF 24)).heap.size = w.heap.size + 1 := by simp
  rw [e1] at hb
  have hB0 : Below w.heap.size w ((w.alloc (.cells zeroF 24)).alloc (.cells #[.slice A l.length c, .int .i64 0, .nilIface] 49)) := ((Below.refl _ _).alloc (Nat.le_refl _) _).alloc (by simp) _
  have hrow0 : RowU (w.heap.size + 1) ((w.alloc (.cells zeroF 24)).alloc (.cells #[.slice A l.length c, .int .i64 0, .nilIface] 49)) A l := ((RowU.of hr).below hB0).less (by omega)
  have herr0 : FErr (w.heap.size + 1) ((w.alloc (.cells zeroF 24)).alloc (.cells #[.slice A l.length c, .int .i64 0, .nilIface] 49)) := (hE.below hB0).less (by omega)
  clear e1
  go_enter Tryd.func13, Tryd.ntmps13
  go_wp2_with fail
  generalize (w.alloc (.cells zeroF 24)).alloc (.cells #[.slice A l.length c, .int .i64 0, .nilIface] 49) = W0 at hZ hb hB0 hrow0 herr0 ⊢
  have hC0 : Cu W0 (w.heap.size + 1) A c l 0 := ⟨.nilIface, by simpa using hb, .inl ⟨by omega, rfl⟩⟩
  refine (readFrame_any W0 (w.heap.size + 1) A c l hC0 hrow0 herr0 hl).mono ?_
  rintro e W1 ⟨rfl, hC1, hT1⟩
  have hbl := hb.lt
  have hw0 := hB0.size
  have hF1 := Blk.new W1 24 (fcs (rdF l))
  have hBa : Below W1.heap.size W1 (W1.alloc (.cells (fcs (rdF l)) 24)) := (Below.refl _ _).alloc (Nat.le_refl _) _
  have hsa : (W1.alloc (.cells (fcs (rdF l)) 24)).heap.size = W1.heap.size + 1 := by simp
  have hz1 := hT1.2.2.2.1
  have hlow1 := hT1.low hbl
  have HZ2 := Lib.hid ((hT1.blk hZ (by omega) (by omega)).alloc (.cells (fcs (rdF l)) 24))
  have hC2 := hC1.alloc (.cells (fcs (rdF l)) 24)
  have hB2 : Below w.heap.size w (W1.alloc (.cells (fcs (rdF l)) 24)) := (hT1.below hB0 (by omega) hbl).trans (hBa.mono (by omega))
  have hlow2 : Below (w.heap.size + 1) W0 (W1.alloc (.cells (fcs (rdF l)) 24)) := hlow1.trans (hBa.mono (by omega))
  have hrow2 := hrow0.below hlow2
  have herr2 := herr0.below hlow2
  have hxs := rdF_size l
  have HOk := Lib.hid (fun V => ifok_any (rdF l) V (by unfold maxLen; omega))
  have HA := Lib.hid (fun h1 h2 => fine_unp (l := l) h1 h2)
  have HN := Lib.hid (fun h => fine_no (l := l) h)
  have HCn := Lib.hid (cntF_len l)
  have hcn : 1 ≤ cntF l := by unfold cntF; split <;> omega
  have HFine : Hid (fineF l = (decide (cntF l + 2 ≤ l.length) && chk l (cntF l) && decide (l.length ≤ cntF l + 2))) := by
    show _ = _
    unfold fineF
    rw [← cntF_len l]
    by_cases h : l.length = cntF l + 2
    · rw [decide_eq_true h, decide_eq_true (show cntF l + 2 ≤ l.length by omega), decide_eq_true (show l.length ≤ cntF l + 2 by omega), Bool.and_true]
    · rw [decide_eq_false h, Bool.false_and]
      rcases Nat.lt_or_ge l.length (cntF l + 2) with h1 | h1
      · rw [decide_eq_false (show ¬ cntF l + 2 ≤ l.length by omega)]; rfl
      · rw [decide_eq_false (show ¬ l.length ≤ cntF l + 2 by omega), Bool.and_false]
  clear hZ hb hB0 hrow0 herr0 hC0 hC1 hT1 hlow1 hBa hr hE hlow2
  unfold frv at HOk
  unfold frv
  obtain ⟨F, hFe⟩ : ∃ F, F = rdF l := ⟨_, rfl⟩
  rw [← hFe] at HOk HA HN HZ2 hC2 hB2 hrow2 herr2 hF1 hsa
  rw [← hFe]
  have HFe := Lib.hid hFe
  clear hFe hxs
  obtain ⟨k, s, d, f, n, t, u, z, m, x⟩ := F
  simp only at HOk ⊢
  go_wp2_with fail
  generalize W1.alloc (.cells (fcs ⟨k, s, d, f, n, t, u, z, m, x⟩) 24) = W2 at hF1 herr2 hrow2 hB2 hC2 HZ2 hsa ⊢
  have HSum := Lib.hid (readSum_any W2 (w.heap.size + 1) A c l (cntF l) hC2 hrow2 herr2 hl hlc hc hcn)
  have HF2 := Lib.hid hF1
  have HB2 := Lib.hid hB2
  have HRow2 := Lib.hid hrow2
  have HErr2 := Lib.hid herr2
  have hzl := hF1.lt
  clear hF1 herr2 hrow2 hB2 hC2 hsa
  refine HSum.out.mono ?_
  rintro e W3 ⟨rfl, hC3, hT3⟩
  have hlow3 : Below (w.heap.size + 1) W2 W3 := hT3.low (by omega)
  have HF3 := Lib.hid (hT3.blk HF2.out hzl (by omega))
  have HZ3 := Lib.hid (hT3.blk HZ2.out HZ2.out.lt (by omega))
  have HB3 := Lib.hid (hT3.below HB2.out (by omega) (by omega))
  have HEnd := Lib.hid (readEnd_any W3 (w.heap.size + 1) A c l (cntF l + 2) _ hC3 (HErr2.out.below hlow3) hl)
  have hz3 := hT3.2.2.2.1
  clear hC3 hT3 hlow3 HSum HF2 HZ2 HB2 HRow2 HErr2
  go_wp2_with fail
  refine HEnd.out.mono ?_
  rintro e W4 ⟨rfl, hC4, hT4⟩
  rw [← HFine.out] at hC4
  have HF4 := Lib.hid (hT4.blk HF3.out HF3.out.lt (by omega))
  have HZ4 := Lib.hid (hT4.blk HZ3.out HZ3.out.lt (by omega))
  have HB4 := Lib.hid (hT4.below HB3.out (by omega) (by omega))
  obtain ⟨flt, hCb, hCf⟩ := hC4
  have q2 := hCb.cell 2
  simp only [List.getElem?_toArray, List.getElem?_cons_succ, List.getElem?_cons_zero] at q2
  have hz4 := hT4.2.2.2.1
  obtain ⟨z0, z1, z2, z3, z4, z5, z6, z7, z8, z9, hzw⟩ := ten HZ4.out
  obtain ⟨g0, g1, g2, g3, g4, g5, g6, g7, g8, g9⟩ := ten_frozen HZ4.out
  clear hT4 HEnd HF3 HZ3 HB3 hCb HFine HCn
  rcases hCf with ⟨hfi, rfl⟩ | ⟨hfi, tf, pf, rfl⟩
  · obtain ⟨c0, c1, c2, c3, c4, c5, c6, c7, c8, c9, _⟩ := ten HF4.out
    simp only at c0 c1 c2 c3 c4 c5 c6 c7 c8 c9
    go_wp2_with fail
    refine (HOk.out _).mono ?_
    rintro e W5 ⟨rfl, hB5⟩
    have HF5 := Lib.hid (HF4.out.below hB5 HF4.out.lt)
    have HZ5 := Lib.hid (HZ4.out.below hB5 HZ4.out.lt)
    have HB5 := Lib.hid (HB4.out.trans (hB5.mono HB4.out.size))
    clear c0 c1 c2 c3 c4 c5 c6 c7 c8 c9 z0 z1 z2 z3 z4 z5 z6 z7 z8 z9 g0 g1 g2 g3 g4 g5 g6 g7 g8 g9 q2 HF4 HZ4 HB4 hB5 HOk
    obtain ⟨c0, c1, c2, c3, c4, c5, c6, c7, c8, c9, _⟩ := ten HF5.out
    simp only at c0 c1 c2 c3 c4 c5 c6 c7 c8 c9
    obtain ⟨z0, z1, z2, z3, z4, z5, z6, z7, z8, z9, hzw5⟩ := ten HZ5.out
    obtain ⟨g0, g1, g2, g3, g4, g5, g6, g7, g8, g9⟩ := ten_frozen HZ5.out
    cases hok : okF ⟨k, s, d, f, n, t, u, z, m, x⟩ with
    | true =>
      obtain ⟨r1, r2⟩ := HA.out hfi hok
      have R1 := Lib.hid r1
      have R2 := Lib.hid r2
      clear hok hfi r1 r2 HA HN HFe HF5 HZ5
      go_wp2
      refine bodyPost_ret (v := .tuple #[frv ⟨k, s, d, f, n, t, u, z, m, x⟩, .bool true]) (by simp [results, Tryd.results13, go_sem, frv, *]) rfl ⟨by rw [R1.out, R2.out], ?_⟩
      exact Below.ten HB5.out (Nat.le_refl _) _ _ _ _ _ _ _ _ _ _
    | false =>
      obtain ⟨r1, r2⟩ := HN.out (.inr hok)
      have R1 := Lib.hid r1
      have R2 := Lib.hid r2
      clear hok hfi r1 r2 HA HN HFe HF5 HZ5 c0 c1 c2 c3 c4 c5 c6 c7 c8 c9
      go_wp2
      refine bodyPost_ret (v := .tuple #[frv fr0, .bool false]) (by simp [results, Tryd.results13, go_sem, frv, fr0, *]) rfl ⟨by rw [R1.out, R2.out], ?_⟩
      exact Below.ten HB5.out (Nat.le_refl _) _ _ _ _ _ _ _ _ _ _
  · obtain ⟨r1, r2⟩ := HN.out (.inl hfi)
    have R1 := Lib.hid r1
    have R2 := Lib.hid r2
    clear hfi r1 r2 HA HN HFe HF4 HZ4 HOk
    go_wp2
    refine bodyPost_ret (v := .tuple #[frv fr0, .bool false]) (by simp [results, Tryd.results13, go_sem, frv, fr0, *]) rfl ⟨by rw [R1.out, R2.out], ?_⟩
    exact Below.ten HB4.out (Nat.le_refl _) _ _ _ _ _ _ _ _ _ _
end Go.Proofs.YtgihbilpimempaaDoor.fr
