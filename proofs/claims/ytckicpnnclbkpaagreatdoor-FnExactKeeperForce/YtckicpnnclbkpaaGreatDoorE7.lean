/-
  Merged texts: IShOk, Laid6, RecL, KeepPlain, KeepRec, KeepIn, NoteIn, KeepSz, KeepTo, EqNote, KeepEq.
-/
import Derived.Test.YtckicpnnclbkpaaGreatDoorE6
import Derived.Lib.LaidTab
import Derived.Stop.LaidErr
import Derived.Stop.Joined
import Derived.LaidMore
import Derived.LaidHandle
import Derived.MakeChecks
import Derived.Laws.AppendOwnNone
import Derived.BigFrame
import Derived.Deep.AppendLies
import Derived.Deep.Slices
import Derived.Deep.Fields
import Derived.ChangeSame
import Derived.OpenShut
namespace Go.Proofs.YtckicpnnclbkpaaGreatDoor.sh
open Go.ChangeShapes Go.WideShapes Go.ChangeAt Go.RowKit
open nb ok wd dc
structure Env (w : World) : Prop where
 tab : Tab w
 errs : Errs w
 errT : as.ErrT w
theorem Env.later {V V' : World} (h : Env V) (hb : Below V.heap.size V V') : Env V' := ⟨h.tab.later hb, h.errs.later hb, h.errT.later hb⟩
theorem complete_any (s : ByteArray) (hs : s.size ≤ 8388608) (w : World) (h : Env w) :
  Calls Tryz.prog 85 #[.string s] w (BoolPost w (en s.data.toList == s.size)) := by
 have H := Lib.hid (iread_any s hs w h.tab h.errs h.errT)
 unfold ReadPost at H
 generalize hn : en s.data.toList = n at H
 clear hn
 go_enter Tryz.func85, Tryz.ntmps85
 go_wp2_with fail
 refine H.out.mono ?_
 rintro e w1 ⟨v, rfl, hO⟩
 have hB := hO.2
 clear hO H
 go_wp2
 go_ret
 refine ⟨?_, hB⟩
 by_cases e1 : n = s.size
 ·subst e1; simp
 ·have k1 : ((n : Int) == (s.size : Int)) = false := by rw [beq_eq_false_iff_ne]; omega
  have k2 : (n == s.size) = false := by simpa using e1
  rw [k2]
  simp
  omega
set_option maxRecDepth 100000 in
set_option maxHeartbeats 1000000 in
theorem iok_any (s : ByteArray) (f : Int) (w : World) (h : Env w) :
  Calls Tryz.prog 63 #[shv s f] w (BoolPost w (okSh s f)) := by
 have hB0 := (Below.refl w.heap.size w).alloc (Nat.le_refl _) (.cells #[.string s, .int .i64 f] 29)
 by_cases h1 : 2400 < s.size
 ·have HR := Lib.hid (okSh_f (s := s) (f := f) (by unfold okL; rw [← Lib.size_eq]; omega))
  have h1' : (2400 : Int) < s.size := by omega
  go_enter Tryz.func63, Tryz.ntmps63
  go_wp2
  go_ret
  exact ⟨by rw [HR.out]; rfl, hB0⟩
 have h1' : ¬ (2400 : Int) < s.size := by omega
 by_cases h2 : f < 0
 ·have HR := Lib.hid (okSh_f (s := s) (f := f) (by unfold okL; omega))
  go_enter Tryz.func63, Tryz.ntmps63
  go_wp2
  go_ret
  exact ⟨by rw [HR.out]; rfl, hB0⟩
 by_cases h3 : (s.size : Int) < f
 ·have HR := Lib.hid (okSh_f (s := s) (f := f) (by unfold okL; rw [← Lib.size_eq]; omega))
  go_enter Tryz.func63, Tryz.ntmps63
  go_wp2
  go_ret
  exact ⟨by rw [HR.out]; rfl, hB0⟩
 obtain ⟨m, rfl⟩ := Int.eq_ofNat_of_zero_le (Int.not_lt.1 h2)
 have hm : m ≤ s.size := by omega
 have b0 : (0 : Int) ≤ (m : Int) := by omega
 have b1 : (m : Int) ≤ (s.size : Int) := by omega
 have HA := Lib.hid (fun W hE => complete_any s (by omega) W hE)
 have HB := Lib.hid (fun W hE => complete_any (s.extract 0 m) (by rw [ByteArray.size_extract]; omega) W hE)
 rw [ext_take, show (s.extract 0 m).size = m by rw [ByteArray.size_extract]; omega] at HB
 have HR := Lib.hid (okSh_nat (s := s) (m := m) (by omega) hm)
 generalize (en s.data.toList == s.size) = p1 at HA HR
 generalize (en (s.data.toList.take m) == m) = p2 at HB HR
 have hZ := Blk.new w 29 #[.string s, .int .i64 m]
 go_enter Tryz.func63, Tryz.ntmps63
 go_wp2_with fail
 refine (HA.out _ (h.later hB0)).mono ?_
 rintro e w2 ⟨rfl, hB⟩
 have hZ2 := hZ.below hB hZ.lt
 have hB2 := hB0.trans (hB.mono hB0.size)
 have hE2 := Lib.hid (h.later hB2)
 have c0 := hZ2.cell 0
 have c1 := hZ2.cell 1
 simp only [List.getElem?_toArray, List.getElem?_cons_zero, List.getElem?_cons_succ] at c0 c1
 clear hB HA hZ hZ2
 cases p1 with
 | false =>
  go_wp2
  go_ret
  exact ⟨by rw [HR.out]; rfl, hB2⟩
 | true =>
  go_wp2_with fail
  refine (HB.out _ hE2.out).mono ?_
  rintro e w3 ⟨rfl, hB⟩
  have HB3 := Lib.hid (hB2.trans (hB.mono hB2.size))
  clear hB HB hB2 hB0
  go_wp2
  go_ret
  exact ⟨by rw [HR.out, Bool.true_and]; rfl, HB3.out⟩
end Go.Proofs.YtckicpnnclbkpaaGreatDoor.sh

namespace Go.Proofs.YtckicpnnclbkpaaGreatDoor.dc
open Go.ChangeShapes Go.WideShapes Go.ChangeAt Go.RowKit
theorem gP : Tryz.prog.globalNamed "internal/strconv.uint64pow10" = some 4 := by kernel_rfl
theorem gPT : (Tryz.prog.globals[4]?).map (·.type) = some 315 := by kernel_rfl
theorem cU : Tryz.prog.cellsOf 293 = 1 := by kernel_rfl
theorem cT : Tryz.prog.cellsOf 315 = 20 := by kernel_rfl
theorem gS : Tryz.prog.globalNamed "strconv.ErrSyntax" = some 2 := by kernel_rfl
theorem gST : (Tryz.prog.globals[2]?).map (·.type) = some 128 := by kernel_rfl
theorem gR : Tryz.prog.globalNamed "strconv.ErrRange" = some 3 := by kernel_rfl
theorem gRT : (Tryz.prog.globals[3]?).map (·.type) = some 128 := by kernel_rfl
theorem gH : Tryz.prog.globalNamed "errors.errorType" = some 0 := by kernel_rfl
theorem rT : (Tryz.prog.cutTypes.find? (·.1 == "internal/reflectlite.rtype")).map (·.2) = some 221 := by kernel_rfl
theorem oneRow : ((List.range 353).filter fun t => Tryz.prog.rowNamed t [101, 114, 114, 111, 114]) = [128] := by kernel_rfl
theorem nTypes : Tryz.prog.types.size = 353 := by kernel_rfl
theorem cE : Tryz.prog.cellsOf 313 = 1 := by kernel_rfl
theorem cS : Tryz.prog.cellsOf 9 = 1 := by kernel_rfl
theorem star : "*" ++ "errors.errorString" = "*errors.errorString" := by decide
theorem rowE (u : TypeId) (h : Tryz.prog.typeName? 3 u = some "*errors.errorString") : u = 311 :=
 typeName_ptr_named (nm := "errors.errorString") (by rw [star]; kernel_rfl) (by kernel_rfl) (by decide) u (by rw [star]; exact h)
theorem pow_eq : (Rows.laid_internal_strconv_uint64pow10 : DataW Unit) = Lib.tabData .u64 Lib.pow10Tab := by kernel_rfl
def list5 : List (String × DataW Unit) := [("math/bits.deBruijn32tab", Rows.laid_math_bits_deBruijn32tab), ("math/bits.deBruijn64tab", Rows.laid_math_bits_deBruijn64tab), ("internal/strconv.uint64pow10", Rows.laid_internal_strconv_uint64pow10), ("strconv.ErrRange", Rows.laid_strconv_ErrRange), ("strconv.ErrSyntax", Rows.laid_strconv_ErrSyntax)]
def list6 : List (String × DataW Unit) := [("math/bits.deBruijn32tab", Rows.laid_math_bits_deBruijn32tab), ("math/bits.deBruijn64tab", Rows.laid_math_bits_deBruijn64tab), ("internal/strconv.uint64pow10", Rows.laid_internal_strconv_uint64pow10), ("errors.errorType", Rows.laid_errors_errorType), ("strconv.ErrRange", Rows.laid_strconv_ErrRange), ("strconv.ErrSyntax", Rows.laid_strconv_ErrSyntax)]
theorem tab_of {W : World} {r : List (String × DataW Unit)} (h : laidMet Tryz.prog (("internal/strconv.uint64pow10", Rows.laid_internal_strconv_uint64pow10) :: r) W) : Tab W := by
 rw [pow_eq] at h
 exact Lib.tabIs_of_head gP gPT Tryz.underlying315 Tryz.underlying293 cU cT h
theorem of_list6 {W : World} (h : laidMetH Tryz.prog list6 W) : sh.Env W := by
 have h' : laidMet Tryz.prog list5 W ∧ handlesMet Tryz.prog [("errors.errorType", Rows.laid_errors_errorType)] W := h
 obtain ⟨h, hh⟩ := h'
 obtain ⟨a0, s0, hv0, _, _, _⟩ := laid_sentinel h.tail.tail.tail gR gRT Tryz.underlying128 rowE Tryz.underlying311 Tryz.underlying313 rfl rfl Tryz.underlying9 cE cS
 obtain ⟨a1, s1, hv1, _, _, _⟩ := laid_sentinel h.tail.tail.tail.tail gS gST Tryz.underlying128 rowE Tryz.underlying311 Tryz.underlying313 rfl rfl Tryz.underlying9 cE cS
 refine ⟨tab_of h.tail.tail, ⟨⟨_, _, hv1⟩, _, _, hv0⟩, ?_⟩
 obtain ⟨name, u, ty, e1, e2, e3, e4, e5⟩ := hh _ (List.mem_singleton.2 rfl)
 have en : name = [101, 114, 114, 111, 114] := (Option.some.inj e1).symm
 subst en
 obtain rfl := Option.some.inj (rT.symm.trans e2)
 have hm : ty ∈ (List.range 353).filter fun t => Tryz.prog.rowNamed t [101, 114, 114, 111, 114] := List.mem_filter.2 ⟨List.mem_range.2 (by rw [← nTypes]; exact e3), e4⟩
 rw [oneRow] at hm
 obtain rfl := List.mem_singleton.1 hm
 have ht : typeHandle Tryz.prog 128 = .pointer (some ⟨7, 128, none⟩) := by kernel_rfl
 rw [ht] at e5
 unfold as.ErrT
 simpa using World.var?_cell gH e5 0
theorem met6 (os : Os) (args : Array Value) : laidMetH Tryz.prog list6 ((World.doorLaid Tryz.prog 400 os).forCall (fun _ _ => 0) ⟨#[], args, []⟩).memory :=
 laidMetH_of_parts3 (fuel := 8) (laidMet_of_run' 8 (by kernel_rfl) (by kernel_rfl)) (by kernel_rfl) (by kernel_rfl)
end Go.Proofs.YtckicpnnclbkpaaGreatDoor.dc

namespace Go.Proofs.YtckicpnnclbkpaaGreatDoor.rl
open Go.ChangeShapes Go.WideShapes Go.ChangeAt Go.RowKit
open wd cp ow
structure Shape (α : Type) where
 n : Nat
 f : α → List Value
 len : ∀ x, (f x).length = n
 one : ∀ x, ∀ u ∈ f x, u.oneCell' = true
theorem flat_at {α β : Type} {f : α → List β} {n : Nat} (hf : ∀ x, (f x).length = n) : ∀ (l : List α) (i : Nat) (x : α), l[i]? = some x → ∀ j, j < n → (l.flatMap f)[i * n + j]? = (f x)[j]?
 | [], _, _, h, _, _ => by simp at h
 | a :: l, 0, x, h, j, hj => by
  simp at h
  subst h
  rw [List.flatMap_cons, Nat.zero_mul, Nat.zero_add, List.getElem?_append_left (by rw [hf]; exact hj)]
 | a :: l, i + 1, x, h, j, hj => by
  simp at h
  rw [List.flatMap_cons, List.getElem?_append_right (by rw [hf, Nat.succ_mul]; omega), hf, show (i + 1) * n + j - n = i * n + j by rw [Nat.succ_mul]; omega]
  exact flat_at hf l i x h j hj
theorem flat_len {α β : Type} {f : α → List β} {n : Nat} (hf : ∀ x, (f x).length = n) (l : List α) : (l.flatMap f).length = l.length * n := by
 induction l with
 | nil => simp
 | cons a l ih => rw [List.flatMap_cons, List.length_append, hf, ih, List.length_cons, Nat.succ_mul]; omega
theorem flat_ones {α : Type} (S : Shape α) (l : List α) : ∀ u ∈ l.flatMap S.f, u.oneCell' = true := fun u hu => by
 obtain ⟨m, _, hm⟩ := List.mem_flatMap.mp hu
 exact S.one m u hm
theorem flat_of {α : Type} (S : Shape α) {cur : List Value} {l : List α} (hs : cur.length = l.length * S.n) (h : ∀ i x, l[i]? = some x → ∀ j u, (S.f x)[j]? = some u → cur[i * S.n + j]? = some u) : cur = l.flatMap S.f := by
 apply List.ext_getElem?
 intro j
 by_cases hj : j < l.length * S.n
 ·have hpos : 0 < S.n := by
   rcases Nat.eq_zero_or_pos S.n with e | e
   ·rw [e, Nat.mul_zero] at hj; omega
   ·exact e
  have hi : j / S.n < l.length := (Nat.div_lt_iff_lt_mul hpos).2 hj
  have hx : l[j / S.n]? = some l[j / S.n] := List.getElem?_eq_getElem hi
  have hr : j % S.n < S.n := Nat.mod_lt _ hpos
  have e : j / S.n * S.n + j % S.n = j := by rw [Nat.mul_comm]; exact Nat.div_add_mod _ _
  have hu : (S.f l[j / S.n])[j % S.n]? = some ((S.f l[j / S.n])[j % S.n]'(by rw [S.len]; exact hr)) := List.getElem?_eq_getElem _
  have h1 := h _ _ hx _ _ hu
  have h2 := flat_at S.len l _ _ hx _ hr
  rw [e] at h1 h2
  rw [h1, h2, hu]
 ·rw [List.getElem?_eq_none (by omega), List.getElem?_eq_none (by rw [flat_len S.len]; omega)]
def OwnR {α : Type} (S : Shape α) (t : TypeId) (w0 w : World) (v : Value) (l : List α) : Prop := w.ownsRow w0.heap.size t S.n v l.length (l.flatMap S.f) ∧ Below w0.heap.size w0 w
def SeesR {α : Type} (S : Shape α) (w : World) (v : Value) (l : List α) : Prop :=
 ∃ A c, v = .slice A l.length c ∧ ((A = none ∧ c = 0 ∧ l = []) ∨ ∃ g, A = some ⟨g, 0, none⟩ ∧ g < w.heap.size ∧ ∀ i x, l[i]? = some x → ∀ j u, (S.f x)[j]? = some u → w.cell? ⟨g, i * S.n + j, none⟩ = some u)
section
variable {α : Type} {S : Shape α} {t : TypeId} {w0 w w1 : World} {v v1 : Value} {l l1 : List α} {o : Obj}
theorem OwnR.nil (w : World) : OwnR S t w w (.slice none 0 0) [] := ⟨World.ownsRow_nil _ _ _ _, Below.refl _ _⟩
theorem OwnR.empty (w : World) : OwnR S t w (w.alloc (.cells #[] t)) (.slice (some ⟨w.heap.size, 0, none⟩) 0 0) [] :=
 ⟨World.ownsRow_lit w #[] 0 (Nat.le_refl _) (by unfold maxLen; omega) (by simp), (Below.refl _ _).alloc (Nat.le_refl _) _⟩
theorem OwnR.later (h : OwnR S t w0 w v l) (hb : Below w.heap.size w w1) : OwnR S t w0 w1 v l := by
 refine ⟨h.1.kept (row := none) ⟨hb.os, hb.tape, hb.output, hb.size, fun i hi _ => hb.block i hi⟩ ?_, h.2.trans (hb.mono h.2.size)⟩
 cases hv : v.ownBlock with
 | none => exact .inl rfl
 | some k => exact .inr (by simp)
theorem OwnR.from_ (h : OwnR S t w w1 v l) (hb : Below w0.heap.size w0 w) : OwnR S t w0 w1 v l := by
 refine ⟨⟨h.1.1, ?_⟩, hb.trans (h.2.mono hb.size)⟩
 have := hb.size
 rcases h.1.2 with h' | ⟨g, cap, cur, h1, h2, h3⟩
 ·exact .inl h'
 ·exact .inr ⟨g, cap, cur, h1, by omega, h3⟩
theorem OwnR.drewN (h : OwnR S t w0 w v l) (q : Nat) : OwnR S t w0 (w.drewN q) v l := ⟨h.1, below_drewN' h.2 q⟩
theorem OwnR.lt (h : OwnR S t w0 w v l) {k : Nat} (hk : v.ownBlock = some k) : w0.heap.size ≤ k ∧ k < w.heap.size := h.1.lt k hk
theorem OwnR.sees (h : OwnR S t w0 w v l) : SeesR S w v l := by
 rcases h.1.2 with ⟨rfl, hn⟩ | ⟨g, cap, cur, rfl, hb, hh, hn, hm, hs, ht⟩
 ·exact ⟨none, 0, by rw [hn], .inl ⟨rfl, rfl, List.eq_nil_of_length_eq_zero hn⟩⟩
 ·refine ⟨_, cap, rfl, .inr ⟨g, rfl, (h.1.lt g rfl).2, fun i x hx j u hu => ?_⟩⟩
  have hj : j < S.n := by have := (List.getElem?_eq_some_iff.1 hu).1; rwa [S.len] at this
  have hf := flat_at S.len l i x hx j hj
  rw [hu] at hf
  have hi := (List.getElem?_eq_some_iff.1 hf).1
  rw [World.ownsRow.cellAt (g := g) (cap := cap) h.1 _ (by rwa [flat_len S.len] at hi), hf]
theorem SeesR.later (h : SeesR S w v l) (hB : Below w.heap.size w w1) : SeesR S w1 v l := by
 obtain ⟨A, c, rfl, hc⟩ := h
 refine ⟨A, c, rfl, ?_⟩
 rcases hc with hc | ⟨g, rfl, hg, hcell⟩
 ·exact .inl hc
 ·exact .inr ⟨g, rfl, Nat.lt_of_lt_of_le hg hB.size, fun i x hx j u hu => (hB.cell (p := ⟨g, _, none⟩) hg).trans (hcell i x hx j u hu)⟩
theorem SeesR.drewN (h : SeesR S w v l) (q : Nat) : SeesR S (w.drewN q) v l := h
theorem sees_nil (w : World) : SeesR S w (.slice none 0 0) [] := ⟨none, 0, rfl, .inl ⟨rfl, rfl, rfl⟩⟩
theorem SeesR.at (h : SeesR S w v l) {i : Nat} {x : α} (hx : l[i]? = some x) :
  ∃ g c, v = .slice (some ⟨g, 0, none⟩) l.length c ∧ g < w.heap.size ∧ i < l.length ∧ ∀ j u, (S.f x)[j]? = some u → w.cell? ⟨g, i * S.n + j, none⟩ = some u := by
 obtain ⟨A, c, rfl, hc⟩ := h
 have hi := (List.getElem?_eq_some_iff.mp hx).1
 rcases hc with ⟨_, _, rfl⟩ | ⟨g, rfl, hlt, hr⟩
 ·simp at hx
 ·exact ⟨g, c, rfl, hlt, hi, hr i x hx⟩
theorem OwnR.far {u : Value} {w' w2 : World} (h : OwnR S t w0 w v l) (hb : Below w.heap.size w w') (hg : w'.grownBy w2 u.ownBlock) (hu : ∀ k, u.ownBlock = some k → w.heap.size ≤ k) : OwnR S t w0 w2 v l := by
 refine ⟨(h.later hb).1.kept hg ?_, (h.later hb).2.trans ⟨hg.os, hg.tape, hg.output, hg.size, fun k hk => hg.block k (by have := h.2.size; have := hb.size; omega) (fun e => by have := hu k e.symm; have := h.2.size; omega)⟩⟩
 cases hv : v.ownBlock with
 | none => exact .inl rfl
 | some k =>
  refine .inr (fun e => ?_)
  have h1 := (h.lt hv).2
  have h2 := hu k e.symm
  omega
theorem OwnR.grew (h : OwnR S t w0 w v l) (h1 : w1.ownsRow w0.heap.size t S.n v1 l1.length (l1.flatMap S.f)) (hg : w.grownBy w1 v.ownBlock) : OwnR S t w0 w1 v1 l1 :=
 ⟨h1, h.2.trans ⟨hg.os, hg.tape, hg.output, hg.size, fun k hk => hg.block k (Nat.lt_of_lt_of_le hk h.2.size) (fun e => by have := (h.lt e.symm).1; omega)⟩⟩
theorem OwnR.alloc (h : OwnR S t w0 w v l) (o : Obj) : OwnR S t w0 (w.alloc o) v l := h.later ((Below.refl _ _).alloc (Nat.le_refl _) o)
end
def PartR {α : Type} (S : Shape α) (w : World) (A : Option Addr) (c : Nat) (l : List α) : Prop :=
 (A = none ∧ c = 0 ∧ l = []) ∨ ∃ g o, A = some ⟨g, o, none⟩ ∧ ∀ j u, (l.flatMap S.f)[j]? = some u → w.cell? ⟨g, o + j, none⟩ = some u
theorem flat_get {α : Type} (S : Shape α) : ∀ (l : List α) (j : Nat) (u : Value), (l.flatMap S.f)[j]? = some u → ∃ i x k, l[i]? = some x ∧ (S.f x)[k]? = some u ∧ j = i * S.n + k
 | [], j, u, h => by simp at h
 | a :: l, j, u, h => by
  rw [List.flatMap_cons] at h
  by_cases hj : j < S.n
  ·rw [List.getElem?_append_left (by rw [S.len]; exact hj)] at h
   exact ⟨0, a, j, rfl, h, by omega⟩
  ·rw [List.getElem?_append_right (by rw [S.len]; omega), S.len] at h
   obtain ⟨i, x, k, h1, h2, h3⟩ := flat_get S l _ u h
   exact ⟨i + 1, x, k, h1, h2, by rw [Nat.succ_mul]; omega⟩
theorem SeesR.part {α : Type} {S : Shape α} {w : World} {A : Option Addr} {n c : Nat} {l : List α} (h : SeesR S w (.slice A n c) l) : PartR S w A c l := by
 obtain ⟨A', c', e, hc⟩ := h
 injection e with e1 e2 e3
 subst e1; subst e3
 rcases hc with hc | ⟨g, rfl, hg, hcell⟩
 ·exact .inl hc
 ·refine .inr ⟨g, 0, rfl, fun j u hu => ?_⟩
  obtain ⟨i, x, k, h1, h2, rfl⟩ := flat_get S l j u hu
  rw [Nat.zero_add]
  exact hcell i x h1 k u h2
theorem wp_append_recs {α : Type} (S : Shape α) (hS : 0 < S.n) {w : World} {o : Oper} {a : Act} {K : Act → World → Prop} {Q : Exit → Act → World → Prop} (s x : Operand) (t : TypeId)
  (ho : o.op = .call { callee := .builtin .append, args := #[s, x], argTypes := #[t, t] })
  (base : Nat) (e : TypeId) (i : TypeInfo) (z : Value) (bytes : Nat) (ht : Tryz.prog.underlying t = some (.slice e)) (hi : Tryz.prog.info? e = some i) (hz : i.zero = some z)
  (hsize : i.size = S.n) (hby : i.bytes = bytes) (hzs : z.cells.size = S.n)
  (v : Value) (n : Nat) (xs : List Value) (hs : a.eval s = v) (hown : w.ownsRow base e S.n v n xs)
  (A : Option Addr) (m c : Nat) (l : List α) (hx : a.eval x = .slice A m c) (hm : m = l.length) (hP : PartR S w A c l)
  (h63 : n + l.length ≤ maxLen) (hbytes : (n + l.length) * bytes ≤ 140737488355328) (hbase : base ≤ w.heap.size)
  (h : ∀ v' w', w'.ownsRow base e S.n v' (n + l.length) (xs ++ l.flatMap S.f) → w.grownBy w' v.ownBlock → K (a.put o.dst v') w') : o.wp Tryz.prog a w K Q := by
 subst hm
 rcases hP with ⟨rfl, rfl, rfl⟩ | ⟨g, off, rfl, hc⟩
 ·have hrun := run_append_owned_none (P := Tryz.prog) (w := w) base t o.type e i S.n ht hi v n xs hown
  have hk := h v w (by simpa using hown) ⟨rfl, rfl, rfl, Nat.le_refl _, fun _ _ _ => rfl⟩
  unfold Oper.wp
  simp at hx
  simp [execOp, ho, resolve, invoke, builtin, hs, hx, hrun, Result.andThen]
  exact hk
 ·exact wp_append_own w s x t ho base e i z S.n bytes ht hi hz hsize hby hzs hS v n xs hs hown ⟨g, off, none⟩ l.length c (l.flatMap S.f) hx (by rw [flat_len S.len]) (fun j u hu => by
   have hadd : (⟨g, off, none⟩ : Addr).add j = ⟨g, off + j, none⟩ := by unfold Addr.add; split <;> simp_all
   rw [hadd]; exact hc j u hu) (flat_ones S l) h63 hbytes hbase (fun v' w' h1 h2 _ => h v' w' h1 h2)
theorem wpList_append_recs {α : Type} (S : Shape α) (hS : 0 < S.n) {w : World} {ops : Array Oper} {rest : List Oper} {o : Oper} {a : Act} {Q : Exit → Act → World → Prop} (hw : Region.wanted o (yielded ops a.tmps) = true) (s x : Operand) (t : TypeId)
  (ho : o.op = .call { callee := .builtin .append, args := #[s, x], argTypes := #[t, t] })
  (base : Nat) (e : TypeId) (i : TypeInfo) (z : Value) (bytes : Nat) (ht : Tryz.prog.underlying t = some (.slice e)) (hi : Tryz.prog.info? e = some i) (hz : i.zero = some z)
  (hsize : i.size = S.n) (hby : i.bytes = bytes) (hzs : z.cells.size = S.n)
  (v : Value) (n : Nat) (xs : List Value) (hs : a.eval s = v) (hown : w.ownsRow base e S.n v n xs)
  (A : Option Addr) (m c : Nat) (l : List α) (hx : a.eval x = .slice A m c) (hm : m = l.length) (hP : PartR S w A c l)
  (h63 : n + l.length ≤ maxLen) (hbytes : (n + l.length) * bytes ≤ 140737488355328) (hbase : base ≤ w.heap.size)
  (h : ∀ v' w', w'.ownsRow base e S.n v' (n + l.length) (xs ++ l.flatMap S.f) → w.grownBy w' v.ownBlock → wpList Tryz.prog ops Q rest (a.put o.dst v') w') : wpList Tryz.prog ops Q (o :: rest) a w := by
 unfold wpList
 rw [if_pos hw]
 exact .inl (wp_append_recs S hS s x t ho base e i z bytes ht hi hz hsize hby hzs v n xs hs hown A m c l hx hm hP h63 hbytes hbase h)
def Fill {α : Type} (S : Shape α) (t : TypeId) (g n : Nat) (l : List α) (k : Nat) (w : World) : Prop :=
 ∃ cur, Blk w g t cur ∧ cur.size = n * S.n ∧ ∀ i x, i < k → l[i]? = some x → ∀ j u, (S.f x)[j]? = some u → cur[i * S.n + j]? = some u
def putAll (w : World) (g o : Nat) : List Value → World
 | [] => w
 | u :: us => putAll (w.setCell ⟨g, o, none⟩ u) g (o + 1) us
theorem putAll_blk {w : World} {g : Nat} {t : TypeId} : ∀ {cur : Array Value} (us : List Value) (o : Nat), Blk w g t cur → ∃ cur', Blk (putAll w g o us) g t cur' ∧ cur'.size = cur.size ∧ (∀ j, j < o ∨ o + us.length ≤ j → cur'[j]? = cur[j]?) ∧ (o + us.length ≤ cur.size → ∀ j u, us[j]? = some u → cur'[o + j]? = some u)
 | cur, [], o, h => ⟨cur, h, rfl, fun _ _ => rfl, fun _ j u hu => by simp at hu⟩
 | cur, x :: us, o, h => by
  have h1 := h.put o x
  obtain ⟨cur', a1, a2, a3, a4⟩ := putAll_blk (w := w.setCell ⟨g, o, none⟩ x) us (o + 1) h1
  refine ⟨cur', a1, by simpa using a2, fun j hj => ?_, fun hs j u hu => ?_⟩
  ·rw [a3 j (by simp at hj; omega), Array.getElem?_setIfInBounds, if_neg (by simp at hj; omega)]
  ·cases j with
   | zero =>
    simp at hu
    subst hu
    rw [a3 _ (by omega), Nat.add_zero, Array.getElem?_setIfInBounds, if_pos rfl, if_pos (by simp at hs; omega)]
   | succ j =>
    have := a4 (by simp at hs ⊢; omega) j u (by simpa using hu)
    rw [show o + (j + 1) = o + 1 + j by omega]
    exact this
theorem putAll_below {B g : Nat} (hg : B ≤ g) : ∀ (us : List Value) (o : Nat) {w0 w : World}, Below B w0 w → Below B w0 (putAll w g o us)
 | [], _, _, _, h => h
 | u :: us, o, _, _, h => putAll_below hg us (o + 1) (h.setCell (p := ⟨g, o, none⟩) hg u)
section
variable {α : Type} {S : Shape α} {t : TypeId} {g n k : Nat} {l : List α} {w w' w0 : World}
theorem Fill.later (h : Fill S t g n l k w) (hB : Below w.heap.size w w') : Fill S t g n l k w' := by
 obtain ⟨cur, h1, h2, h3⟩ := h
 exact ⟨cur, h1.below hB h1.lt, h2, h3⟩
theorem Fill.put (h : Fill S t g n l k w) (hk : k < n) {x : α} (hx : l[k]? = some x) : Fill S t g n l (k + 1) (putAll w g (k * S.n) (S.f x)) := by
 obtain ⟨cur, h1, h2, h3⟩ := h
 have hm : (k + 1) * S.n ≤ n * S.n := Nat.mul_le_mul_right _ hk
 rw [Nat.succ_mul] at hm
 obtain ⟨cur', a1, a2, a3, a4⟩ := putAll_blk (S.f x) (k * S.n) h1
 refine ⟨cur', a1, by omega, fun i y hi hy j u hu => ?_⟩
 have hj : j < S.n := by have := (List.getElem?_eq_some_iff.1 hu).1; rwa [S.len] at this
 by_cases e : i = k
 ·subst e
  rw [hx] at hy
  injection hy with hy
  subst hy
  exact a4 (by rw [S.len]; omega) j u hu
 ·have hlt : (i + 1) * S.n ≤ k * S.n := Nat.mul_le_mul_right _ (by omega)
  rw [Nat.succ_mul] at hlt
  rw [a3 _ (.inl (by omega))]
  exact h3 i y (by omega) hy j u hu
theorem Fill.cell (h : Fill S t g n l k w) (hk : k < n) {j : Nat} (hj : j < S.n) : (∃ x, w.cell? ⟨g, k * S.n + j, none⟩ = some x) ∧ w.frozen? ⟨g, k * S.n + j, none⟩ = false := by
 obtain ⟨cur, h1, h2, h3⟩ := h
 have hm : (k + 1) * S.n ≤ n * S.n := Nat.mul_le_mul_right _ hk
 rw [Nat.succ_mul] at hm
 refine ⟨⟨cur[k * S.n + j]'(by omega), ?_⟩, h1.frozen _⟩
 rw [h1.cell]; exact Array.getElem?_eq_getElem (by omega)
theorem Fill.own (h : Fill S t g l.length l l.length w) (hg : w0.heap.size ≤ g) (hB : Below w0.heap.size w0 w) (hl : l.length ≤ maxLen) : OwnR S t w0 w (.slice (some ⟨g, 0, none⟩) l.length l.length) l := by
 obtain ⟨cur, h1, h2, h3⟩ := h
 have hf : cur.toList = l.flatMap S.f := flat_of S (by simpa using h2) (fun i x hx j u hu => by
  have := h3 i x (List.getElem?_eq_some_iff.mp hx).1 hx j u hu
  simpa using this)
 refine ⟨⟨by rw [flat_len S.len], .inr ⟨g, l.length, cur, rfl, hg, h1, Nat.le_refl _, hl, by omega, ?_⟩⟩, hB⟩
 rw [hf, List.take_of_length_le (by rw [flat_len S.len]; exact Nat.le_refl _)]
end
end Go.Proofs.YtckicpnnclbkpaaGreatDoor.rl

namespace Go.Proofs.YtckicpnnclbkpaaGreatDoor.kp
open nb ok
structure Nt where
 f : Int
 n : Int
 t : Int
 u : Int
 s : ByteArray
structure Mk where
 f : Int
 n : Int
 u : Int
structure Kp where
 id : Int
 time : Int
 next : Int
 held : List Nt
 marks : List Mk
 inbox : List Nt
def okNt (x : Nt) : Bool := okN x.f x.n x.t x.u x.s
def okMk (x : Mk) : Bool := inB x.f 0 3 && inB x.n 1 99 && inB x.u 1 999
def less (f n f' n' : Int) : Bool := decide (f < f' ∨ f = f' ∧ n < n')
def allI (k : Nat) (p : Nat → Bool) : Bool := (List.range k).all p
theorem allI_succ (k : Nat) (p : Nat → Bool) : allI (k + 1) p = (allI k p && p k) := by unfold allI; rw [List.range_succ, List.all_append]; simp
theorem allI_on {k : Nat} {p : Nat → Bool} (h : allI k p = true) (hp : p k = true) : allI (k + 1) p = true := by rw [allI_succ, h, hp]; rfl
theorem allI_iff {k : Nat} {p : Nat → Bool} : allI k p = true ↔ ∀ i, i < k → p i = true := by unfold allI; rw [List.all_eq_true]; simp
theorem allI_bad {n k : Nat} {p : Nat → Bool} (hk : k < n) (hp : p k = false) : allI n p = false := by
 cases h : allI n p with
 | false => rfl
 | true => rw [allI_iff] at h; rw [h k hk] at hp; cases hp
def ordN (l : List Nt) (i : Nat) : Bool :=
 match l[i]? with
 | none => true
 | some x => okNt x && (match i with
  | 0 => true
  | j + 1 => match l[j]? with
   | none => true
   | some y => less y.f y.n x.f x.n)
def ordM (l : List Mk) (i : Nat) : Bool :=
 match l[i]? with
 | none => true
 | some x => okMk x && (match i with
  | 0 => true
  | j + 1 => match l[j]? with
   | none => true
   | some y => less y.f y.n x.f x.n)
def okNts (l : List Nt) (most : Nat) : Bool := decide (l.length ≤ most) && allI l.length (ordN l)
def okMks (l : List Mk) : Bool := decide (l.length ≤ 12) && allI l.length (ordM l)
theorem ordN_zero {l : List Nt} {x : Nt} (h : l[0]? = some x) : ordN l 0 = okNt x := by simp [ordN, h]
theorem ordN_succ {l : List Nt} {i : Nat} {x y : Nt} (h : l[i + 1]? = some x) (h' : l[i]? = some y) : ordN l (i + 1) = (okNt x && less y.f y.n x.f x.n) := by simp [ordN, h, h']
theorem ordM_zero {l : List Mk} {x : Mk} (h : l[0]? = some x) : ordM l 0 = okMk x := by simp [ordM, h]
theorem ordM_succ {l : List Mk} {i : Nat} {x y : Mk} (h : l[i + 1]? = some x) (h' : l[i]? = some y) : ordM l (i + 1) = (okMk x && less y.f y.n x.f x.n) := by simp [ordM, h, h']
def ixN (l : List Nt) (f n : Int) : Int := match l.findIdx? (fun x => x.f == f && x.n == n) with
 | some i => (i : Nat)
 | none => -1
def ixM (l : List Mk) (f n : Int) : Int := match l.findIdx? (fun x => x.f == f && x.n == n) with
 | some i => (i : Nat)
 | none => -1
def hasN (l : List Nt) (f n : Int) : Bool := l.any fun x => x.f == f && x.n == n
def hasM (l : List Mk) (f n : Int) : Bool := l.any fun x => x.f == f && x.n == n
def way (x : Nt) (id : Int) : Bool := decide (x.f ≤ id ∧ id < x.t ∨ x.t < id ∧ id ≤ x.f)
def heldOk (k : Kp) (x : Nt) : Bool := decide (k.time < x.u) && way x k.id && !(x.f == k.id && decide (k.next ≤ x.n)) && !hasM k.marks x.f x.n
def markOk (k : Kp) (x : Mk) : Bool := decide (k.time < x.u) && !(x.f == k.id && decide (k.next ≤ x.n))
def inOk (k : Kp) (x : Nt) : Bool := (x.t == k.id) && !(x.f == k.id && decide (k.next ≤ x.n)) && !(decide (k.time < x.u) && !hasM k.marks x.f x.n)
def okK (k : Kp) : Bool := inB k.id 0 3 && inB k.time 0 999 && inB k.next 1 100 && okNts k.held 6 && okMks k.marks && okNts k.inbox 6 && k.held.all (heldOk k) && k.marks.all (markOk k) && k.inbox.all (inOk k)
end Go.Proofs.YtckicpnnclbkpaaGreatDoor.kp

namespace Go.Proofs.YtckicpnnclbkpaaGreatDoor.kp
open Go.ChangeShapes Go.WideShapes Go.ChangeAt Go.RowKit
open wd ow rl ok
def ntF (x : Nt) : List Value := [.int .i64 x.f, .int .i64 x.n, .int .i64 x.t, .int .i64 x.u, .string x.s]
def mkF (x : Mk) : List Value := [.int .i64 x.f, .int .i64 x.n, .int .i64 x.u]
def ntS : Shape Nt := ⟨5, ntF, fun _ => rfl, fun x u hu => by simp [ntF] at hu; rcases hu with rfl | rfl | rfl | rfl | rfl <;> rfl⟩
def mkS : Shape Mk := ⟨3, mkF, fun _ => rfl, fun x u hu => by simp [mkF] at hu; rcases hu with rfl | rfl | rfl <;> rfl⟩
def mark (f n u : Int) : Value := .agg #[.int .i64 f, .int .i64 n, .int .i64 u]
def ntV (x : Nt) : Value := note x.f x.n x.t x.u x.s
def mkV (x : Mk) : Value := mark x.f x.n x.u
abbrev kpV (id time next : Int) (vh vm vi : Value) : Value := .agg #[.int .i64 id, .int .i64 time, .int .i64 next, vh, vm, vi]
abbrev SeesN (w : World) (v : Value) (l : List Nt) : Prop := SeesR ntS w v l
abbrev SeesMk (w : World) (v : Value) (l : List Mk) : Prop := SeesR mkS w v l
theorem note_at {w : World} {v : Value} {l : List Nt} (h : SeesN w v l) {i : Nat} {x : Nt} (hx : l[i]? = some x) :
  ∃ g c, v = .slice (some ⟨g, 0, none⟩) l.length c ∧ g < w.heap.size ∧ i < l.length ∧ w.cell? ⟨g, i * 5, none⟩ = some (.int .i64 x.f) ∧ w.cell? ⟨g, i * 5 + 1, none⟩ = some (.int .i64 x.n) ∧ w.cell? ⟨g, i * 5 + 2, none⟩ = some (.int .i64 x.t) ∧ w.cell? ⟨g, i * 5 + 3, none⟩ = some (.int .i64 x.u) ∧ w.cell? ⟨g, i * 5 + 4, none⟩ = some (.string x.s) := by
 obtain ⟨g, c, e, hg, hi, hc⟩ := h.at hx
 exact ⟨g, c, e, hg, hi, hc 0 _ rfl, hc 1 _ rfl, hc 2 _ rfl, hc 3 _ rfl, hc 4 _ rfl⟩
theorem mark_at {w : World} {v : Value} {l : List Mk} (h : SeesMk w v l) {i : Nat} {x : Mk} (hx : l[i]? = some x) :
  ∃ g c, v = .slice (some ⟨g, 0, none⟩) l.length c ∧ g < w.heap.size ∧ i < l.length ∧ w.cell? ⟨g, i * 3, none⟩ = some (.int .i64 x.f) ∧ w.cell? ⟨g, i * 3 + 1, none⟩ = some (.int .i64 x.n) ∧ w.cell? ⟨g, i * 3 + 2, none⟩ = some (.int .i64 x.u) := by
 obtain ⟨g, c, e, hg, hi, hc⟩ := h.at hx
 exact ⟨g, c, e, hg, hi, hc 0 _ rfl, hc 1 _ rfl, hc 2 _ rfl⟩
structure SeesK (w : World) (k : Kp) (vh vm vi : Value) : Prop where
 held : SeesN w vh k.held
 marks : SeesMk w vm k.marks
 inbox : SeesN w vi k.inbox
theorem SeesK.later {w w' : World} {k : Kp} {vh vm vi : Value} (h : SeesK w k vh vm vi) (hB : Below w.heap.size w w') : SeesK w' k vh vm vi := ⟨h.held.later hB, h.marks.later hB, h.inbox.later hB⟩
theorem SeesK.drewN {w : World} {k : Kp} {vh vm vi : Value} (h : SeesK w k vh vm vi) (q : Nat) : SeesK (w.drewN q) k vh vm vi := ⟨h.held, h.marks, h.inbox⟩
theorem infoNote : (Tryz.prog.info? 105).map (fun i => (i.zero, i.size, i.bytes)) = some (some (.agg #[.int .i64 0, .int .i64 0, .int .i64 0, .int .i64 0, .string ⟨#[]⟩]), 5, 48) := by kernel_rfl
theorem infoMark : (Tryz.prog.info? 108).map (fun i => (i.zero, i.size, i.bytes)) = some (some (.agg #[.int .i64 0, .int .i64 0, .int .i64 0]), 3, 24) := by kernel_rfl
end Go.Proofs.YtckicpnnclbkpaaGreatDoor.kp

namespace Go.Proofs.YtckicpnnclbkpaaGreatDoor.kp
open Go.ChangeShapes Go.WideShapes Go.ChangeAt Go.RowKit Go.Deep
open wd rl
def InR {α : Type} (S : Shape α) (w : World) (v : Value) (l : List α) : Prop :=
 ∃ A c, v = .slice A l.length c ∧ l.length ≤ maxLen ∧ (0 < l.length → ∃ g o, A = some ⟨g, o, none⟩ ∧ g < w.heap.size ∧ ∀ i x, l[i]? = some x → ∀ j u, (S.f x)[j]? = some u → w.cell? ⟨g, o + i * S.n + j, none⟩ = some u)
theorem InR.later {α : Type} {S : Shape α} {w w' : World} {v : Value} {l : List α} (h : InR S w v l) (hB : Below w.heap.size w w') : InR S w' v l := by
 obtain ⟨A, c, rfl, h1, hc⟩ := h
 refine ⟨A, c, rfl, h1, fun hn => ?_⟩
 obtain ⟨g, o, rfl, hg, hcell⟩ := hc hn
 exact ⟨g, o, rfl, Nat.lt_of_lt_of_le hg hB.size, fun i x hx j u hu => (hB.cell (p := ⟨g, _, none⟩) hg).trans (hcell i x hx j u hu)⟩
theorem InR.at {α : Type} {S : Shape α} {w : World} {v : Value} {l : List α} (h : InR S w v l) {i : Nat} {x : α} (hx : l[i]? = some x) :
  ∃ g o c, v = .slice (some ⟨g, o, none⟩) l.length c ∧ g < w.heap.size ∧ i < l.length ∧ ∀ j u, (S.f x)[j]? = some u → w.cell? ⟨g, o + i * S.n + j, none⟩ = some u := by
 obtain ⟨A, c, rfl, _, hc⟩ := h
 have hi := (List.getElem?_eq_some_iff.mp hx).1
 obtain ⟨g, o, rfl, hlt, hr⟩ := hc (by omega)
 exact ⟨g, o, c, rfl, hlt, hi, hr i x hx⟩
structure InK (w : World) (k : Kp) (vh vm vi : Value) : Prop where
 held : InR ntS w vh k.held
 marks : InR mkS w vm k.marks
 inbox : InR ntS w vi k.inbox
 heldS : ∀ x ∈ k.held, x.s.size ≤ maxLen
 inboxS : ∀ x ∈ k.inbox, x.s.size ≤ maxLen
theorem InK.later {w w' : World} {k : Kp} {vh vm vi : Value} (h : InK w k vh vm vi) (hB : Below w.heap.size w w') : InK w' k vh vm vi := ⟨h.held.later hB, h.marks.later hB, h.inbox.later hB, h.heldS, h.inboxS⟩
theorem grow_list {α : Type} {P : Nat → α → Prop} (n : Nat) (h : ∀ i, i < n → ∃ m, P i m) : ∃ l : List α, l.length = n ∧ ∀ i m, l[i]? = some m → P i m := by
 induction n with
 | zero => exact ⟨[], rfl, fun i m hm => by simp at hm⟩
 | succ n ih =>
  obtain ⟨l, hl, hP⟩ := ih (fun i hi => h i (by omega))
  obtain ⟨m, hm⟩ := h n (by omega)
  refine ⟨l ++ [m], by simp [hl], fun i m' hm' => ?_⟩
  by_cases e : i < l.length
  ·rw [List.getElem?_append_left e] at hm'; exact hP i m' hm'
  ·rw [List.getElem?_append_right (by omega)] at hm'
   have hi : i - l.length = 0 := by
    rcases Nat.eq_zero_or_pos (i - l.length) with h | h
    ·exact h
    ·rw [List.getElem?_eq_none (by simp; omega)] at hm'; cases hm'
   rw [hi] at hm'
   simp at hm'
   subst hm'
   obtain rfl : i = n := by omega
   exact hm
section
variable {H : Type} {enc : TypeId × Value → H} {w : World} {base b0 : Nat} {r : Reach} {spare : Nat → Bool} {held : Bool}
theorem rows_in {α : Type} {S : Shape α} (hS : 0 < S.n) {a : Addr} {len cap : Nat} {Q : α → Prop} (hm : cap ≤ maxLen) (hl : len ≤ cap)
  (h : ∀ i, i < len → ∃ x, (∀ j u, (S.f x)[j]? = some u → w.cell? (a.add (i * S.n + j)) = some u) ∧ Q x) :
  ∃ l : List α, InR S w (.slice (some a) len cap) l ∧ ∀ x ∈ l, Q x := by
 obtain ⟨l, hll, hP⟩ := grow_list len h
 refine ⟨l, ⟨some a, cap, by rw [hll], by omega, fun hn => ?_⟩, fun x hx => ?_⟩
 ·have hx0 := List.getElem?_eq_getElem hn
  have hu : (S.f l[0])[0]? = some ((S.f l[0])[0]'(by rw [S.len]; exact hS)) := List.getElem?_eq_getElem _
  have h0 := (hP 0 _ hx0).1 0 _ hu
  obtain ⟨g, o, spot⟩ := a
  have hspot : spot = none := by simpa [Addr.add] using World.cell?_spot h0
  subst hspot
  have e : ∀ j, (⟨g, o, none⟩ : Addr).add j = ⟨g, o + j, none⟩ := fun j => by unfold Addr.add; split <;> simp_all
  refine ⟨g, o, rfl, ?_, fun i x hx j u hu => ?_⟩
  ·rcases Nat.lt_or_ge g w.heap.size with hlt | hge
   ·exact hlt
   ·rw [e] at h0
    have : w.heap[g]? = none := Array.getElem?_eq_none hge
    simp [World.cell?, this] at h0
  ·have := (hP i x hx).1 j u hu
   rw [e, ← Nat.add_assoc] at this
   exact this
 ·obtain ⟨i, hi, rfl⟩ := List.mem_iff_getElem.mp hx
  exact (hP i _ (List.getElem?_eq_getElem hi)).2
end
end Go.Proofs.YtckicpnnclbkpaaGreatDoor.kp

namespace Go.Proofs.YtckicpnnclbkpaaGreatDoor.ok
open Go.ChangeShapes Go.WideShapes Go.ChangeAt Go.RowKit Go.Deep
open nb
end Go.Proofs.YtckicpnnclbkpaaGreatDoor.ok

namespace Go.Proofs.YtckicpnnclbkpaaGreatDoor.kp
open Go.ChangeShapes Go.WideShapes Go.ChangeAt Go.RowKit
open wd ow rl ok
def SizesPost (w : World) (room : Int) (n : Nat) (e : Ending) (w' : World) : Prop := ∃ r : Int, e = .returned (.int .i64 r) ∧ -1 ≤ r ∧ r ≤ room ∧ (0 ≤ r → n ≤ 1048576) ∧ Below w.heap.size w w'
end Go.Proofs.YtckicpnnclbkpaaGreatDoor.kp

namespace Go.Proofs.YtckicpnnclbkpaaGreatDoor.kp
open Go.ChangeShapes Go.WideShapes Go.ChangeAt Go.RowKit
open wd ow rl ok
def ListN (w : World) (l : List Nt) (e : Ending) (w' : World) : Prop := ∃ v, e = .returned v ∧ OwnR ntS 105 w w' v l
def ListM (w : World) (l : List Mk) (e : Ending) (w' : World) : Prop := ∃ v, e = .returned v ∧ OwnR mkS 108 w w' v l
def MarkPost (w : World) (f n u : Int) (e : Ending) (w' : World) : Prop := e = .returned (mark f n u) ∧ Below w.heap.size w w'
theorem fill_new {α : Type} {S : Shape α} {t : TypeId} {w w1 : World} {l : List α} {xs : List Value} (hown : w1.ownsRow w.heap.size t S.n (.slice (some ⟨w.heap.size, 0, none⟩) l.length l.length) l.length xs) (hgrow : w.grownBy w1 none) :
  Fill S t w.heap.size l.length l 0 w1 ∧ Below w.heap.size w w1 := by
 refine ⟨?_, hgrow.os, hgrow.tape, hgrow.output, hgrow.size, fun k hk => hgrow.block k hk (by simp)⟩
 rcases hown.2 with ⟨e, _⟩ | ⟨g, cap, cur, e, _, hh, _, _, hs, _⟩
 ·cases e
 ·injection e with e1 e2 e3
  injection e1 with e1
  injection e1 with e1
  subst e1
  exact ⟨cur, hh, by rw [hs, ← e3], fun i m hi => absurd hi (by omega)⟩
end Go.Proofs.YtckicpnnclbkpaaGreatDoor.kp

namespace Go.Proofs.YtckicpnnclbkpaaGreatDoor.ok
open Go.ChangeShapes Go.WideShapes Go.ChangeAt Go.RowKit
open nb
end Go.Proofs.YtckicpnnclbkpaaGreatDoor.ok

namespace Go.Proofs.YtckicpnnclbkpaaGreatDoor.kp
open Go.ChangeShapes Go.WideShapes Go.ChangeAt Go.RowKit
open wd ow rl ok
def YesPost (w : World) (e : Ending) (w' : World) : Prop := e = .returned (.bool true) ∧ Below w.heap.size w w'
def Few (k : Kp) : Prop := k.held.length ≤ 1048576 ∧ k.marks.length ≤ 1048576 ∧ k.inbox.length ≤ 1048576
structure EqB (w V : World) (k : Kp) (a b c a' b' c' : Value) : Prop where
 one : Blk V w.heap.size 39 #[.int .i64 k.id, .int .i64 k.time, .int .i64 k.next, a, b, c]
 two : Blk V (w.heap.size + 1) 39 #[.int .i64 k.id, .int .i64 k.time, .int .i64 k.next, a', b', c']
 bel : Below w.heap.size w V
theorem EqB.new (w : World) (k : Kp) (a b c a' b' c' : Value) : EqB w ((w.alloc (.cells #[.int .i64 k.id, .int .i64 k.time, .int .i64 k.next, a, b, c] 39)).alloc (.cells #[.int .i64 k.id, .int .i64 k.time, .int .i64 k.next, a', b', c'] 39)) k a b c a' b' c' := by
 have k1 := Blk.new (w.alloc (.cells #[.int .i64 k.id, .int .i64 k.time, .int .i64 k.next, a, b, c] 39)) 39 #[.int .i64 k.id, .int .i64 k.time, .int .i64 k.next, a', b', c']
 simp only [World.size_alloc] at k1
 exact ⟨(Blk.new w _ _).alloc _, k1, ((Below.refl _ w).alloc (Nat.le_refl _) _).alloc (by simp) _⟩
theorem EqB.later {w V V' : World} {k : Kp} {a b c a' b' c' : Value} (h : EqB w V k a b c a' b' c') (hb : Below V.heap.size V V') : EqB w V' k a b c a' b' c' := ⟨h.one.below hb h.one.lt, h.two.below hb h.two.lt, h.bel.trans (hb.mono h.bel.size)⟩
theorem EqB.cells {w V : World} {k : Kp} {a b c a' b' c' : Value} (h : EqB w V k a b c a' b' c') : V.cell? ⟨w.heap.size, 3, none⟩ = some a ∧ V.cell? ⟨w.heap.size, 4, none⟩ = some b ∧ V.cell? ⟨w.heap.size, 5, none⟩ = some c ∧ V.cell? ⟨w.heap.size + 1, 3, none⟩ = some a' ∧ V.cell? ⟨w.heap.size + 1, 4, none⟩ = some b' ∧ V.cell? ⟨w.heap.size + 1, 5, none⟩ = some c' :=
 ⟨h.one.cell 3, h.one.cell 4, h.one.cell 5, h.two.cell 3, h.two.cell 4, h.two.cell 5⟩
end Go.Proofs.YtckicpnnclbkpaaGreatDoor.kp

