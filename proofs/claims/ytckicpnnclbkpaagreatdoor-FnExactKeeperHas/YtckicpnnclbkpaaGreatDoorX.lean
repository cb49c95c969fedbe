/-
  What the frame of the laws needs beside.
-/
import Derived.Test.YtckicpnnclbkpaaGreatDoorGFnExactKeeperOk7
import Derived.Test.YtckicpnnclbkpaaGreatDoorRows
import Derived.Lib.LaidTab
import Derived.Stop.LaidErr
import Derived.Stop.Joined
import Derived.LaidMore
import Derived.LaidHandle
import Derived.MakeChecks
import Derived.ProofKit
import Derived.Deep.Slices
import Derived.Deep.Fields
import Derived.ChangeSame
import Derived.OpenShut
import Derived.Below
import Derived.Test.YtckicpnnclbkpaaGreatDoorGFnExactKeeperOk8
namespace Go.Proofs.YtckicpnnclbkpaaGreatDoor.dc
open Go.ChangeShapes Go.WideShapes Go.ChangeAt Go.RowKit
theorem gP : Tryz.prog.globalNamed "internal/strconv.uint64pow10" = some 4 := by kernel_rfl
theorem gPT : (Tryz.prog.globals[4]?).map (·.type) = some 315 := by kernel_rfl
theorem cU : Tryz.prog.cellsOf 293 = 1 := by kernel_rfl
theorem cT : Tryz.prog.cellsOf 315 = 20 := by kernel_rfl
theorem gS : Tryz.prog.globalNamed "strconv.ErrSyntax" = some 2 := by kernel_rfl
theorem gST : (Tryz.prog.globals[2]?).map (·.type) = some 128 := by kernel_rfl
theorem gR : Tryz.prog.globalNamed "strconv.ErrRange" = some 3 := by kernel_rfl
theorem gRT : (Tryz.prog.globals[3]?).map (·.type) = some 128 := by kernel_rfl
theorem rT : (Tryz.prog.cutTypes.find? (·.1 == "internal/reflectlite.rtype")).map (·.2) = some 221 := by kernel_rfl
theorem oneRow : ((List.range 353).filter fun t => Tryz.prog.rowNamed t [101, 114, 114, 111, 114]) = [128] := by kernel_rfl
theorem nTypes : Tryz.prog.types.size = 353 := by kernel_rfl
theorem cE : Tryz.prog.cellsOf 313 = 1 := by kernel_rfl
theorem cS : Tryz.prog.cellsOf 9 = 1 := by kernel_rfl
theorem star : "*" ++ "errors.errorString" = "*errors.errorString" := by decide
theorem rowE (u : TypeId) (h : Tryz.prog.typeName? 3 u = some "*errors.errorString") : u = 311 :=
 typeName_ptr_named (nm := "errors.errorString") (by rw [star]; kernel_rfl) (by kernel_rfl) (by decide) u (by rw [star]; exact h)
theorem pow_eq : (Rows.laid_internal_strconv_uint64pow10 : DataW Unit) = Lib.tabData .u64 Lib.pow10Tab := by kernel_rfl
theorem tab_of {W : World} {r : List (String × DataW Unit)} (h : laidMet Tryz.prog (("internal/strconv.uint64pow10", Rows.laid_internal_strconv_uint64pow10) :: r) W) : Tab W := by
 rw [pow_eq] at h
 exact Lib.tabIs_of_head gP gPT Tryz.underlying315 Tryz.underlying293 cU cT h
theorem of_list6 {W : World} (h : laidMetH Tryz.prog list6 W) : sh.Env W := by
 have h' : laidMet Tryz.prog list5 W ∧ handlesMet Tryz.prog [("errors.errorType", Rows.laid_errors_errorType)] W := h
 obtain ⟨h, hh⟩ := h'
 obtain ⟨a0, s0, hv0, _, _, _⟩ := laid_sentinel h.tail.tail.tail gR gRT Tryz.underlying128 rowE Tryz.underlying311 Tryz.underlying313 rfl rfl Tryz.underlying9 cE cS
 obtain ⟨a1, s1, hv1, _, _, _⟩ := laid_sentinel h.tail.tail.tail.tail gS gST Tryz.underlying128 rowE Tryz.underlying311 Tryz.underlying313 rfl rfl Tryz.underlying9 cE cS
 refine ⟨tab_of h.tail.tail, ⟨⟨_, _, hv1⟩, _, _, hv0⟩, ?_⟩
 obtain ⟨name, u, ty, e1, e2, e3, e4, e5⟩ := hh _ (List.mem_singleton.2 rfl)
 have en : name = [101, 114, 114, 111, 114] := (Option.some.inj e1).symm
 subst en
 obtain rfl := Option.some.inj (rT.symm.trans e2)
 have hm : ty ∈ (List.range 353).filter fun t => Tryz.prog.rowNamed t [101, 114, 114, 111, 114] := List.mem_filter.2 ⟨List.mem_range.2 (by rw [← nTypes]; exact e3), e4⟩
 rw [oneRow] at hm
 obtain rfl := List.mem_singleton.1 hm
 have ht : typeHandle Tryz.prog 128 = .pointer (some ⟨7, 128, none⟩) := by kernel_rfl
 rw [ht] at e5
 unfold as.ErrT
 simpa using World.var?_cell gH e5 0
theorem met6 (os : Os) (args : Array Value) : laidMetH Tryz.prog list6 ((World.doorLaid Tryz.prog 400 os).forCall (fun _ _ => 0) ⟨#[], args, []⟩).memory :=
 laidMetH_of_parts3 (fuel := 8) (laidMet_of_run' 8 (by kernel_rfl) (by kernel_rfl)) (by kernel_rfl) (by kernel_rfl)
end Go.Proofs.YtckicpnnclbkpaaGreatDoor.dc
namespace Go.Proofs.YtckicpnnclbkpaaGreatDoor.kp
open Go.ChangeShapes Go.WideShapes Go.ChangeAt Go.RowKit Go.Deep
open Go.Proofs.YtckicpnnclbkpaaGreatDoor.wd Go.Proofs.YtckicpnnclbkpaaGreatDoor.rl
theorem grow_list {α : Type} {P : Nat → α → Prop} (n : Nat) (h : ∀ i, i < n → ∃ m, P i m) : ∃ l : List α, l.length = n ∧ ∀ i m, l[i]? = some m → P i m := by
 induction n with
 | zero => exact ⟨[], rfl, fun i m hm => by simp at hm⟩
 | succ n ih =>
  obtain ⟨l, hl, hP⟩ := ih (fun i hi => h i (by omega))
  obtain ⟨m, hm⟩ := h n (by omega)
  refine ⟨l ++ [m], by simp [hl], fun i m' hm' => ?_⟩
  by_cases e : i < l.length
  ·rw [List.getElem?_append_left e] at hm'; exact hP i m' hm'
  ·rw [List.getElem?_append_right (by omega)] at hm'
   have hi : i - l.length = 0 := by
    rcases Nat.eq_zero_or_pos (i - l.length) with h | h
    ·exact h
    ·rw [List.getElem?_eq_none (by simp; omega)] at hm'; cases hm'
   rw [hi] at hm'
   simp at hm'
   subst hm'
   obtain rfl : i = n := by omega
   exact hm
section
variable {H : Type} {enc : TypeId × Value → H} {w : World} {base b0 : Nat} {r : Reach} {spare : Nat → Bool} {held : Bool}
theorem rows_in {α : Type} {S : Shape α} (hS : 0 < S.n) {a : Addr} {len cap : Nat} {Q : α → Prop} (hm : cap ≤ maxLen) (hl : len ≤ cap)
  (h : ∀ i, i < len → ∃ x, (∀ j u, (S.f x)[j]? = some u → w.cell? (a.add (i * S.n + j)) = some u) ∧ Q x) :
  ∃ l : List α, InR S w (.slice (some a) len cap) l ∧ ∀ x ∈ l, Q x := by
 obtain ⟨l, hll, hP⟩ := grow_list len h
 refine ⟨l, ⟨some a, cap, by rw [hll], by omega, fun hn => ?_⟩, fun x hx => ?_⟩
 ·have hx0 := List.getElem?_eq_getElem hn
  have hu : (S.f l[0])[0]? = some ((S.f l[0])[0]'(by rw [S.len]; exact hS)) := List.getElem?_eq_getElem _
  have h0 := (hP 0 _ hx0).1 0 _ hu
  obtain ⟨g, o, spot⟩ := a
  have hspot : spot = none := by simpa [Addr.add] using World.cell?_spot h0
  subst hspot
  have e : ∀ j, (⟨g, o, none⟩ : Addr).add j = ⟨g, o + j, none⟩ := fun j => by unfold Addr.add; split <;> simp_all
  refine ⟨g, o, rfl, ?_, fun i x hx j u hu => ?_⟩
  ·rcases Nat.lt_or_ge g w.heap.size with hlt | hge
   ·exact hlt
   ·rw [e] at h0
    have : w.heap[g]? = none := Array.getElem?_eq_none hge
    simp [World.cell?, this] at h0
  ·have := (hP i x hx).1 j u hu
   rw [e, ← Nat.add_assoc] at this
   exact this
 ·obtain ⟨i, hi, rfl⟩ := List.mem_iff_getElem.mp hx
  exact (hP i _ (List.getElem?_eq_getElem hi)).2
end
end Go.Proofs.YtckicpnnclbkpaaGreatDoor.kp
namespace Go.Proofs.YtckicpnnclbkpaaGreatDoor.hf
open Go.ChangeShapes Go.WideShapes Go.ChangeAt Go.RowKit Go.Deep
open Go.Proofs.YtckicpnnclbkpaaGreatDoor.wd Go.Proofs.YtckicpnnclbkpaaGreatDoor.ow Go.Proofs.YtckicpnnclbkpaaGreatDoor.rl Go.Proofs.YtckicpnnclbkpaaGreatDoor.ok Go.Proofs.YtckicpnnclbkpaaGreatDoor.kp
section
variable {w w' : World} {v : Value} {l : List Hf}
end
theorem cells_h : Tryz.prog.cellsOf 88 = 6 := by kernel_rfl
theorem cells_x : Tryz.prog.cellsOf 147 = 2 := by kernel_rfl
theorem cells_kr : Tryz.prog.cellsOf 26 = 5 := by kernel_rfl
section
variable {H : Type} {enc : TypeId × Value → H} {w : World} {base b0 : Nat} {r : Reach} {spare : Nat → Bool} {held : Bool}
set_option maxRecDepth 100000 in
theorem mbs_in {fuel : Nat} {c : Value} {x : DataW H × List MemPlace} (h : DataW.trod enc Tryz.prog w base spare held fuel 86 [c] = some x) : ∃ l : List Mb, InR mbS w c l ∧ ∀ x ∈ l, x.2.size ≤ maxLen := by
 rcases open_slice Tryz.underlying86 h with ⟨hcs, _⟩ | ⟨a, len, cap, m, n, D, Pl, hcs, hb, hl, hm, hmm, hx, hi⟩
 ·injection hcs with hcs _
  subst hcs
  exact ⟨[], ⟨none, 0, rfl, by simp, fun h => absurd h (by simp)⟩, fun x hx => by simp at hx⟩
 ·injection hcs with hcs _
  subst hcs
  have hlm : len ≤ m := by rw [hmm]; split <;> omega
  refine rows_in (S := mbS) (by decide) hm hl (fun i hilt => ?_)
  obtain ⟨cs', hc, ht⟩ := hi i (by omega)
  rw [cells_x] at hc
  obtain ⟨_, hcl, hat⟩ := World.cells?_some hc
  obtain ⟨xs, n', _, _, _, hl5, hg⟩ := DataW.trod_struct Tryz.underlying147 ht
  match cs', hcl with
  | [c0, c1], _ =>
   have h0 := hg 0 _ rfl
   have h1 := hg 1 _ rfl
   have j0 : DataW.trod enc Tryz.prog w base spare held n' 3 [c0] = xs[0]? := h0
   have j1 : DataW.trod enc Tryz.prog w base spare held n' 9 [c1] = xs[1]? := h1
   have hl5' : xs.length = 2 := hl5
   rw [List.getElem?_eq_getElem (by omega)] at j0 j1
   obtain ⟨i0, e0, _, _⟩ := DataW.trod_int Tryz.underlying3 j0
   obtain ⟨s, e1, _, hs⟩ := DataW.trod_string Tryz.underlying9 j1
   simp at e0 e1
   subst e0; subst e1
   refine ⟨(i0, s), fun j u hu => ?_, hs⟩
   have hj : j < 2 := (List.getElem?_eq_some_iff.1 hu).1
   have := hat j hj
   rw [Go.Deep.add_add] at this
   rw [show mbS.n = 2 from rfl, this]
   exact hu
set_option maxRecDepth 100000 in
theorem halves_in {fuel : Nat} {c : Value} {x : DataW H × List MemPlace} (h : DataW.trod enc Tryz.prog w base spare held fuel 24 [c] = some x) : ∃ l : List Hf, InH w c l := by
 have key : ∃ lr : List Hr, InR hrS w c lr ∧ ∀ r ∈ lr, ∃ got : List Mb, InR mbS w r.v got ∧ ∀ m ∈ got, m.2.size ≤ maxLen := by
  rcases open_slice Tryz.underlying24 h with ⟨hcs, _⟩ | ⟨a, len, cap, m, n, D, Pl, hcs, hb, hl, hm, hmm, hx, hi⟩
  ·injection hcs with hcs _
   subst hcs
   exact ⟨[], ⟨none, 0, rfl, by simp, fun h => absurd h (by simp)⟩, fun x hx => by simp at hx⟩
  ·injection hcs with hcs _
   subst hcs
   have hlm : len ≤ m := by rw [hmm]; split <;> omega
   refine rows_in (S := hrS) (by decide) hm hl (fun i hilt => ?_)
   obtain ⟨cs', hc, ht⟩ := hi i (by omega)
   rw [cells_h] at hc
   obtain ⟨_, hcl, hat⟩ := World.cells?_some hc
   obtain ⟨xs, n', _, _, _, hl5, hg⟩ := DataW.trod_struct Tryz.underlying88 ht
   match cs', hcl with
   | [c0, c1, c2, c3, c4, c5], _ =>
    have h0 := hg 0 _ rfl
    have h1 := hg 1 _ rfl
    have h2 := hg 2 _ rfl
    have h3 := hg 3 _ rfl
    have h4 := hg 4 _ rfl
    have h5 := hg 5 _ rfl
    have j0 : DataW.trod enc Tryz.prog w base spare held n' 3 [c0] = xs[0]? := h0
    have j1 : DataW.trod enc Tryz.prog w base spare held n' 3 [c1] = xs[1]? := h1
    have j2 : DataW.trod enc Tryz.prog w base spare held n' 3 [c2] = xs[2]? := h2
    have j3 : DataW.trod enc Tryz.prog w base spare held n' 3 [c3] = xs[3]? := h3
    have j4 : DataW.trod enc Tryz.prog w base spare held n' 3 [c4] = xs[4]? := h4
    have j5 : DataW.trod enc Tryz.prog w base spare held n' 86 [c5] = xs[5]? := h5
    have hl5' : xs.length = 6 := hl5
    rw [List.getElem?_eq_getElem (by omega)] at j0 j1 j2 j3 j4 j5
    obtain ⟨i0, e0, _, _⟩ := DataW.trod_int Tryz.underlying3 j0
    obtain ⟨i1, e1, _, _⟩ := DataW.trod_int Tryz.underlying3 j1
    obtain ⟨i2, e2, _, _⟩ := DataW.trod_int Tryz.underlying3 j2
    obtain ⟨i3, e3, _, _⟩ := DataW.trod_int Tryz.underlying3 j3
    obtain ⟨i4, e4, _, _⟩ := DataW.trod_int Tryz.underlying3 j4
    obtain ⟨got, hgot, hz⟩ := mbs_in j5
    have hgot' := hgot
    obtain ⟨A, cc, e5, _⟩ := hgot'
    simp at e0 e1 e2 e3 e4
    subst e0; subst e1; subst e2; subst e3; subst e4; subst e5
    refine ⟨⟨i0, i1, i2, i3, i4, A, got.length, cc⟩, fun j u hu => ?_, got, hgot, hz⟩
    have hj : j < 6 := (List.getElem?_eq_some_iff.1 hu).1
    have := hat j hj
    rw [Go.Deep.add_add] at this
    rw [show hrS.n = 6 from rfl, this]
    exact hu
 obtain ⟨lr, h1, h2⟩ := key
 obtain ⟨l, hl, hP⟩ := grow_list (P := fun i (h : Hf) => ∀ r, lr[i]? = some r → Nums6 r h ∧ InR mbS w r.v h.got ∧ ∀ m ∈ h.got, m.2.size ≤ maxLen) lr.length (fun i hi => by
  obtain ⟨got, g1, g2⟩ := h2 lr[i] (List.getElem_mem hi)
  refine ⟨⟨lr[i].f, lr[i].n, lr[i].t, lr[i].u, lr[i].z, got⟩, fun r hr => ?_⟩
  rw [List.getElem?_eq_getElem hi] at hr
  injection hr with hr
  subst hr
  exact ⟨⟨rfl, rfl, rfl, rfl, rfl⟩, g1, g2⟩)
 refine ⟨l, lr, h1, hl.symm, fun i r x hr hx => ⟨(hP i x hx r hr).1, (hP i x hx r hr).2.1⟩, fun x hx => ?_⟩
 obtain ⟨i, hi, rfl⟩ := List.mem_iff_getElem.mp hx
 exact (hP i _ (List.getElem?_eq_getElem hi) lr[i] (List.getElem?_eq_getElem (by omega))).2.2
set_option maxRecDepth 100000 in
theorem keeper_in {v : Value} {d : DataW H} {p : List MemPlace} (hv : Value.okWide Tryz.prog w r b0 26 v) (h : DataW.Trod enc Tryz.prog w base spare held 26 v d p) :
  ∃ (id : Int) (up : Bool) (s : ByteArray) (f : Int) (hv : Value) (l : List Hf), v = .agg #[.int .i64 id, .bool up, .string s, .int .i64 f, hv] ∧ s.size ≤ maxLen ∧ InH w hv l := by
 obtain ⟨cs, rfl, hsz⟩ := okWide_struct Tryz.underlying26 hv
 obtain ⟨l⟩ := cs
 match l, hsz.trans cells_kr with
 | [c0, c1, c2, c3, c4], _ =>
  obtain ⟨fuel, hf⟩ := h
  obtain ⟨xs, n, _, _, _, hl6, hg⟩ := DataW.trod_struct Tryz.underlying26 hf
  have h0 := hg 0 _ rfl
  have h1 := hg 1 _ rfl
  have h2 := hg 2 _ rfl
  have h3 := hg 3 _ rfl
  simp only [Value.cells] at h0 h1 h2 h3
  have j0 : DataW.trod enc Tryz.prog w base spare held n 3 [c0] = xs[0]? := h0
  have j1 : DataW.trod enc Tryz.prog w base spare held n 4 [c1] = xs[1]? := h1
  have j2 : DataW.trod enc Tryz.prog w base spare held n 23 [c2, c3] = xs[2]? := h2
  have j3 : DataW.trod enc Tryz.prog w base spare held n 24 [c4] = xs[3]? := h3
  have hl6' : xs.length = 4 := hl6
  rw [List.getElem?_eq_getElem (by omega)] at j0 j1 j2 j3
  obtain ⟨i0, e0, _, _⟩ := DataW.trod_int Tryz.underlying3 j0
  obtain ⟨b1, e1, _⟩ := DataW.trod_bool Tryz.underlying4 j1
  obtain ⟨ys, n2, _, _, _, hl7, hg2⟩ := DataW.trod_struct Tryz.underlying23 j2
  have k0 := hg2 0 _ rfl
  have k1 := hg2 1 _ rfl
  have m0 : DataW.trod enc Tryz.prog w base spare held n2 9 [c2] = ys[0]? := k0
  have m1 : DataW.trod enc Tryz.prog w base spare held n2 3 [c3] = ys[1]? := k1
  have hl7' : ys.length = 2 := hl7
  rw [List.getElem?_eq_getElem (by omega)] at m0 m1
  obtain ⟨s, e2, _, hs⟩ := DataW.trod_string Tryz.underlying9 m0
  obtain ⟨i3, e3, _, _⟩ := DataW.trod_int Tryz.underlying3 m1
  simp at e0 e1 e2 e3
  subst e0; subst e1; subst e2; subst e3
  obtain ⟨l, hl⟩ := halves_in j3
  exact ⟨i0, b1, s, i3, c4, l, rfl, hs, hl⟩
end
end Go.Proofs.YtckicpnnclbkpaaGreatDoor.hf
