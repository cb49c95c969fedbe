/-
  Merged texts: Env, Laid, Pick, Draw0, CutPlain, Own, Draw2.
-/
import Derived.Test.YtjmmojjjopjdpaaGreatDoorGFnKeepOf1
import Derived.Test.YtjmmojjjopjdpaaGreatDoorShelf
import Derived.Test.YtjmmojjjopjdpaaGreatDoorRows
import Derived.Lib.AppendIntMem
import Derived.Lib.AtoiErrMem
import Derived.Lib.LaidTab
import Derived.Stop.LaidErr
import Derived.Stop.Joined
import Derived.LaidMore
import Derived.LaidHandle
import Derived.MakeChecks
import Derived.ProofKit
import Derived.WalkKit
import Derived.Lib.Hide
import Derived.Deep.QuietTactic
import Derived.BigQuiet
import Derived.Laws.BitsAllLaws
import Derived.Below
import Derived.Lib.Strings
import Derived.Deep.MidRow
import Derived.OwnWalk
import Derived.WalkSpells
import Derived.Laws.IdiomStrings
import Derived.Laws.Concat
/-
  What the library's variables hold, carried over calls that turn nothing old; strconv.Itoa and strconv.Atoi in our words.
-/
namespace Go.Proofs.YtjmmojjjopjdpaaGreatDoor.dc
open Go.ChangeShapes Go.WideShapes Go.ChangeAt Go.RowKit
open Go.Proofs.YtjmmojjjopjdpaaGreatDoor.nb Go.Proofs.YtjmmojjjopjdpaaGreatDoor.ok Go.Proofs.YtjmmojjjopjdpaaGreatDoor.wd

def Tab (w : World) : Prop := Lib.TabIs Tryz.prog w "internal/strconv.uint64pow10" .u64 Lib.pow10Tab
theorem Tab.later {w w' : World} (h : Tab w) (hb : Below w.heap.size w w') : Tab w' := Lib.tabBelow_of_tabIs h w' hb

theorem var_later {w w' : World} {n : String} {cs : Array Value} (h : w.var? Tryz.prog n = some cs) (hb : Below w.heap.size w w') : w'.var? Tryz.prog n = some cs := by
  unfold World.var? at *
  cases hg : Tryz.prog.globalNamed n with
  | none => simp [hg] at h
  | some g =>
    simp only [hg, Option.bind_some] at h ⊢
    have hlt : g < w.heap.size := by
      rcases Nat.lt_or_ge g w.heap.size with h' | h'
      · exact h'
      · rw [Array.getElem?_eq_none h'] at h; simp at h
    rw [hb.block g hlt]
    exact h

/-- the two errors of strconv are laid -/
def Errs (w : World) : Prop := (∃ tp p, w.var? Tryz.prog "strconv.ErrSyntax" = some #[.iface tp p]) ∧ ∃ tp p, w.var? Tryz.prog "strconv.ErrRange" = some #[.iface tp p]
theorem Errs.later {w w' : World} (h : Errs w) (hb : Below w.heap.size w w') : Errs w' := by
  obtain ⟨⟨a, b, c⟩, d, e, f⟩ := h
  exact ⟨⟨a, b, var_later c hb⟩, d, e, var_later f hb⟩

theorem below_grow (w : World) (k : Nat) (os : Array Obj) : Below w.heap.size w (Sort.grow (w.drewN k) os) :=
  ⟨rfl, rfl, rfl, by simp [Sort.grow, World.drewN], fun i hi => by
    show (w.heap ++ os)[i]? = w.heap[i]?
    rw [Array.getElem?_append_left hi]⟩

theorem itoa_any (n : Int) (h0 : 0 ≤ n) (h1 : n ≤ 999) (w : World) (h : Tab w) :
    Calls Tryz.prog 286 #[.int .i64 n] w (StrPost w (str (dl n))) := by
  refine (Tryz.strconv_Itoa n (by omega) (by omega) w h).mono ?_
  rintro e w' ⟨rfl, k, os, rfl⟩
  exact ⟨by rw [itoa_dl h0]; rfl, below_grow w k os⟩

/-- what Atoi answers, its error aside -/
def atoiV (l : List UInt8) : Int :=
  match Lib.atoiAll l with
  | .ok v => v
  | .range => Lib.atoiSat l
  | _ => 0
theorem atoiV_dl {n : Int} (h0 : 0 ≤ n) (h1 : n ≤ 999) : atoiV (dl n) = n := by unfold atoiV; rw [atoi_dl h0 h1]

def AtoiPost (w : World) (l : List UInt8) (e : Ending) (w' : World) : Prop := ∃ x, e = .returned (.tuple #[.int .i64 (atoiV l), x]) ∧ Below w.heap.size w w'

theorem atoi_any (s : ByteArray) (hs : s.size ≤ 8388608) (w : World) (h : Errs w) :
    Calls Tryz.prog 285 #[.string s] w (AtoiPost w s.data.toList) := by
  obtain ⟨⟨tp, p, hv⟩, tq, q, hr⟩ := h
  cases ha : Lib.atoiAll s.data.toList
  case ok v =>
    refine (Tryz.strconv_Atoi_ok s (by omega) v ha w).mono ?_
    rintro e w' ⟨rfl, hw⟩
    refine ⟨_, by unfold atoiV; rw [ha], ?_⟩
    rcases hw with rfl | ⟨t, rfl⟩
    · exact Below.refl _ _
    · exact Lib.bytesWorld_below _ _ _
  case range =>
    refine (Tryz.strconv_Atoi_range_var s (by omega) ha tq q w hr).mono ?_
    rintro e w' ⟨N, rfl, _, _, hB⟩
    exact ⟨_, by unfold atoiV; rw [ha], hB⟩
  -- what is left: the string is no numeral
  have hc := Any.strconv_Atoi_syntax_var Tryz.laysC172 s (by omega) ha tp p w hv
  refine Calls.mono (P := Tryz.prog) (f := 285) hc ?_
  rintro e w' ⟨N, rfl, _, _, hB⟩
  exact ⟨_, by unfold atoiV; rw [ha], hB⟩
end Go.Proofs.YtjmmojjjopjdpaaGreatDoor.dc

/-
  What a row's listed variables give: strconv's table of powers of ten; its two errors.
-/
namespace Go.Proofs.YtjmmojjjopjdpaaGreatDoor.dc
open Go.ChangeShapes Go.WideShapes Go.ChangeAt Go.RowKit

theorem gP : Tryz.prog.globalNamed "internal/strconv.uint64pow10" = some 10 := by kernel_rfl
theorem gPT : (Tryz.prog.globals[10]?).map (·.type) = some 432 := by kernel_rfl
theorem cU : Tryz.prog.cellsOf 290 = 1 := by kernel_rfl
theorem cT : Tryz.prog.cellsOf 432 = 20 := by kernel_rfl
theorem gS : Tryz.prog.globalNamed "strconv.ErrSyntax" = some 8 := by kernel_rfl
theorem gST : (Tryz.prog.globals[8]?).map (·.type) = some 137 := by kernel_rfl
theorem gR : Tryz.prog.globalNamed "strconv.ErrRange" = some 9 := by kernel_rfl
theorem gRT : (Tryz.prog.globals[9]?).map (·.type) = some 137 := by kernel_rfl
theorem cE : Tryz.prog.cellsOf 430 = 1 := by kernel_rfl
theorem cS : Tryz.prog.cellsOf 9 = 1 := by kernel_rfl
theorem star : "*" ++ "errors.errorString" = "*errors.errorString" := by decide
theorem rowE (u : TypeId) (h : Tryz.prog.typeName? 3 u = some "*errors.errorString") : u = 428 :=
  typeName_ptr_named (nm := "errors.errorString") (by rw [star]; kernel_rfl) (by kernel_rfl) (by decide) u (by rw [star]; exact h)

theorem pow_eq : (Rows.laid_internal_strconv_uint64pow10 : DataW Unit) = Lib.tabData .u64 Lib.pow10Tab := by kernel_rfl

def list3 : List (String × DataW Unit) := [("math/bits.deBruijn32tab", Rows.laid_math_bits_deBruijn32tab), ("math/bits.deBruijn64tab", Rows.laid_math_bits_deBruijn64tab), ("internal/strconv.uint64pow10", Rows.laid_internal_strconv_uint64pow10)]
def list5 : List (String × DataW Unit) := [("math/bits.deBruijn32tab", Rows.laid_math_bits_deBruijn32tab), ("math/bits.deBruijn64tab", Rows.laid_math_bits_deBruijn64tab), ("internal/strconv.uint64pow10", Rows.laid_internal_strconv_uint64pow10), ("strconv.ErrRange", Rows.laid_strconv_ErrRange), ("strconv.ErrSyntax", Rows.laid_strconv_ErrSyntax)]

theorem tab_of {W : World} {r : List (String × DataW Unit)} (h : laidMet Tryz.prog (("internal/strconv.uint64pow10", Rows.laid_internal_strconv_uint64pow10) :: r) W) : Tab W := by
  rw [pow_eq] at h
  exact Lib.tabIs_of_head gP gPT Tryz.underlying432 Tryz.underlying290 cU cT h
theorem of_list3 {W : World} (h : laidMetH Tryz.prog list3 W) : Tab W := by
  rw [MakeChecks.laidMetH_plain _ _ _ (by kernel_rfl)] at h
  exact tab_of h.tail.tail
theorem of_list5 {W : World} (h : laidMetH Tryz.prog list5 W) : Tab W ∧ Errs W := by
  rw [MakeChecks.laidMetH_plain _ _ _ (by kernel_rfl)] at h
  obtain ⟨a0, s0, hv0, _, _, _⟩ := laid_sentinel h.tail.tail.tail gR gRT Tryz.underlying137 rowE Tryz.underlying428 Tryz.underlying430 rfl rfl Tryz.underlying9 cE cS
  obtain ⟨a1, s1, hv1, _, _, _⟩ := laid_sentinel h.tail.tail.tail.tail gS gST Tryz.underlying137 rowE Tryz.underlying428 Tryz.underlying430 rfl rfl Tryz.underlying9 cE cS
  exact ⟨tab_of h.tail.tail, ⟨_, _, hv1⟩, _, _, hv0⟩

theorem met3 (os : Os) (args : Array Value) : laidMetH Tryz.prog list3 ((World.doorLaid Tryz.prog 400 os).forCall (fun _ _ => 0) ⟨#[], args, []⟩).memory :=
  laidMetH_of_parts3 (fuel := 8) (laidMet_of_run' 8 (by kernel_rfl) (by kernel_rfl)) (by kernel_rfl) (by kernel_rfl)
theorem met5 (os : Os) (args : Array Value) : laidMetH Tryz.prog list5 ((World.doorLaid Tryz.prog 400 os).forCall (fun _ _ => 0) ⟨#[], args, []⟩).memory :=
  laidMetH_of_parts3 (fuel := 8) (laidMet_of_run' 8 (by kernel_rfl) (by kernel_rfl)) (by kernel_rfl) (by kernel_rfl)
end Go.Proofs.YtjmmojjjopjdpaaGreatDoor.dc

/-
  Contracts of the reader of a code: spec.l6Open, (*spec.l6Rd).pick: a number from 0 to n-1, whatever the code.
-/
namespace Go.Proofs.YtjmmojjjopjdpaaGreatDoor.pk
open Go.ChangeShapes Go.WideShapes Go.ChangeAt Go.RowKit
open Go.Proofs.YtjmmojjjopjdpaaGreatDoor.wd

theorem xor_nonneg (x y : Int) (h0 : 0 ≤ x) (h1 : x < 4611686018427387904) (h2 : 0 ≤ y) (h3 : y < 4611686018427387904) : 0 ≤ bits .xor .i64 x y := by
  obtain ⟨a, rfl⟩ := Int.eq_ofNat_of_zero_le h0
  obtain ⟨b, rfl⟩ := Int.eq_ofNat_of_zero_le h2
  have hx : a ^^^ b < 2 ^ 62 := Nat.xor_lt_two_pow (by omega) (by omega)
  show 0 ≤ IntKind.i64.wrap ((BitVec.ofInt 64 (a : Int) ^^^ BitVec.ofInt 64 (b : Int)).toNat : Int)
  rw [BitVec.toNat_xor, ofInt_u64 a (by omega), ofInt_u64 b (by omega)]
  simp [IntKind.wrap, IntKind.bits, IntKind.signed]
  omega

/-- a reader: its code, how far it has come -/
def Rd (w : World) (b : Nat) (A : Option Addr) (len cap : Nat) (p : Int) : Prop :=
  Blk w b 151 #[.slice A len cap, .int .i64 p] ∧ Bytes w b A len ∧ len ≤ 2000 ∧ 0 ≤ p

def PickPost (w : World) (b : Nat) (p n : Int) (e : Ending) (w' : World) : Prop :=
  ∃ (v : Int) (k : Nat), e = .returned (.int .i64 v) ∧ 0 ≤ v ∧ v < n ∧ w' = (w.setCell ⟨b, 1, none⟩ (.int .i64 (p + 1))).drewN k

theorem pick_none (w : World) (b : Nat) (A : Option Addr) (cap : Nat) (p n : Int) (h : Rd w b A 0 cap p) (hp : p ≤ 1000000) (hn : 1 ≤ n) (hn' : n ≤ 100000) :
    Calls Tryz.prog 46 #[.pointer (some ⟨b, 0, none⟩), .int .i64 n] w (PickPost w b p n) := by
  obtain ⟨hB, hby, hl, h0⟩ := h
  have c0 := hB.cell 0
  have c1 := hB.cell 1
  have f1 := hB.frozen 1
  simp at c0 c1
  go_enter Tryz.func46, Tryz.ntmps46
  go_wp2
  go_ret
  exact ⟨0, 0, rfl, by omega, by omega, rfl⟩

theorem pick_near (w : World) (b : Nat) (A : Option Addr) (len cap : Nat) (p n : Int) (h : Rd w b A len cap p) (hp : p ≤ 1000000) (hn : 1 ≤ n) (hn' : n ≤ 100000) (hlt : p < len) :
    Calls Tryz.prog 46 #[.pointer (some ⟨b, 0, none⟩), .int .i64 n] w (PickPost w b p n) := by
  obtain ⟨hB, hby, hl, h0⟩ := h
  have c0 := hB.cell 0
  have c1 := hB.cell 1
  have f1 := hB.frozen 1
  simp at c0 c1
  obtain ⟨g, o, rfl, hg, hc⟩ := hby (by omega)
  obtain ⟨v, hv, v0, v1⟩ := hc p.toNat (by omega)
  clear hc hB hby
  have hne : ((len : Int) == 0) = false := by simp; omega
  have hgb : g ≠ b := by omega
  have H := Lib.hid hgb; clear hgb
  go_enter Tryz.func46, Tryz.ntmps46
  go_wp2
  go_ret
  exact ⟨v % n, 0, rfl, Int.emod_nonneg _ (by omega), Int.emod_lt_of_pos _ (by omega), rfl⟩

theorem pick_far (w : World) (b : Nat) (A : Option Addr) (len cap : Nat) (p n : Int) (h : Rd w b A len cap p) (hp : p ≤ 1000000) (hn : 1 ≤ n) (hn' : n ≤ 100000) (hlt : (len : Int) ≤ p) (hpos : 0 < len) :
    Calls Tryz.prog 46 #[.pointer (some ⟨b, 0, none⟩), .int .i64 n] w (PickPost w b p n) := by
  obtain ⟨hB, hby, hl, h0⟩ := h
  have c0 := hB.cell 0
  have c1 := hB.cell 1
  have f1 := hB.frozen 1
  simp at c0 c1
  obtain ⟨g, o, rfl, hg, hc⟩ := hby (by omega)
  have m0 : 0 ≤ p % len := Int.emod_nonneg p (by omega)
  have m1 : p % len < len := Int.emod_lt_of_pos p (by omega)
  have m2 : 0 ≤ (p * 7 + 3) % len := Int.emod_nonneg _ (by omega)
  have m3 : (p * 7 + 3) % len < len := Int.emod_lt_of_pos _ (by omega)
  have m4 : 0 ≤ p / len := Int.ediv_nonneg (by omega) (by omega)
  have m5 : p / len ≤ 1000000 := Int.le_trans (Int.ediv_le_self _ (by omega)) hp
  obtain ⟨v, hv, v0, v1⟩ := hc (p % len).toNat (by omega)
  obtain ⟨u, hu, u0, u1⟩ := hc ((p * 7 + 3) % len).toNat (by omega)
  clear hc hB hby
  have hx := xor_nonneg (v * 131 + u * 1117 + p * 29 + p / len * 53) ((v * 131 + u * 1117 + p * 29 + p / len * 53) / 64) (by omega) (by omega) (by omega) (by omega)
  have hne : ((len : Int) == 0) = false := by simp; omega
  have hgb : g ≠ b := by omega
  have H := Lib.hid hgb; clear hgb
  go_enter Tryz.func46, Tryz.ntmps46
  go_wp2
  go_quiet (fail)
  go_wp2
  go_ret
  exact ⟨_, nq, rfl, Int.emod_nonneg _ (by omega), Int.emod_lt_of_pos _ (by omega), rfl⟩

theorem pick_any (w : World) (b : Nat) (A : Option Addr) (len cap : Nat) (p n : Int) (h : Rd w b A len cap p) (hp : p ≤ 1000000) (hn : 1 ≤ n) (hn' : n ≤ 100000) :
    Calls Tryz.prog 46 #[.pointer (some ⟨b, 0, none⟩), .int .i64 n] w (PickPost w b p n) := by
  by_cases h1 : p < len
  · exact pick_near w b A len cap p n h hp hn hn' h1
  · rcases Nat.eq_zero_or_pos len with rfl | h2
    · exact pick_none w b A cap p n h hp hn hn'
    · exact pick_far w b A len cap p n h hp hn hn' (by omega) h2

/-- a reader that picked is a reader still, one place on -/
theorem Rd.on {w : World} {b : Nat} {A : Option Addr} {len cap : Nat} {p : Int} (h : Rd w b A len cap p) (k : Nat) :
    Rd ((w.setCell ⟨b, 1, none⟩ (.int .i64 (p + 1))).drewN k) b A len cap (p + 1) := by
  obtain ⟨hB, hby, hl, h0⟩ := h
  refine ⟨?_, ?_, hl, by omega⟩
  · have := (hB.put 1 (.int .i64 (p + 1))).drewN k
    simpa using this
  · refine hby.keep fun g o hg => ?_
    show (w.setCell ⟨b, 1, none⟩ (.int .i64 (p + 1))).cell? ⟨g, o, none⟩ = _
    exact World.cell?_setCell_other w _ _ _ (fun e => by injection e; omega)

/-- only block b has changed, and none has come -/
def Only (b : Nat) (w w' : World) : Prop := Below b w w' ∧ (∀ k, k ≠ b → w'.heap[k]? = w.heap[k]?) ∧ w'.heap.size = w.heap.size
theorem Only.trans {b : Nat} {w w' w'' : World} (h : Only b w w') (k : Only b w' w'') : Only b w w'' :=
  ⟨h.1.trans k.1, fun i hi => (k.2.1 i hi).trans (h.2.1 i hi), k.2.2.trans h.2.2⟩

def Picked (w : World) (b : Nat) (A : Option Addr) (len cap : Nat) (p n : Int) (e : Ending) (w' : World) : Prop :=
  ∃ v : Int, e = .returned (.int .i64 v) ∧ 0 ≤ v ∧ v < n ∧ Rd w' b A len cap (p + 1) ∧ Only b w w'

theorem picked (w : World) (b : Nat) (A : Option Addr) (len cap : Nat) (p n : Int) (h : Rd w b A len cap p) (hp : p ≤ 1000000) (hn : 1 ≤ n) (hn' : n ≤ 100000) :
    Calls Tryz.prog 46 #[.pointer (some ⟨b, 0, none⟩), .int .i64 n] w (Picked w b A len cap p n) := by
  refine (pick_any w b A len cap p n h hp hn hn').mono ?_
  rintro e w' ⟨v, k, rfl, v0, v1, rfl⟩
  have hb : Below b w (w.setCell ⟨b, 1, none⟩ (.int .i64 (p + 1))) := (Below.refl _ _).setCell (p := ⟨b, 1, none⟩) (Nat.le_refl _) _
  refine ⟨v, rfl, v0, v1, h.on k, ⟨⟨hb.os, hb.tape, hb.output, hb.size, hb.block⟩, fun i hi => ?_, ?_⟩⟩
  · exact Below.heap_setCell w _ _ i hi
  · show (w.setCell ⟨b, 1, none⟩ (.int .i64 (p + 1))).heap.size = _
    simp

/-- a code is opened: a new reader of it, of its first 2000 bytes at the most -/
def OpenPost (w : World) (A : Option Addr) (e : Ending) (w' : World) : Prop :=
  ∃ (len cap : Nat), e = .returned (.pointer (some ⟨w.heap.size, 0, none⟩)) ∧ Rd w' w.heap.size A len cap 0 ∧ Below w.heap.size w w' ∧ w'.heap.size = w.heap.size + 1

theorem open_any (w : World) (A : Option Addr) (len cap : Nat) (h : Bytes w w.heap.size A len) (hl : len ≤ cap) (hm : cap ≤ maxLen) :
    Calls Tryz.prog 45 #[.slice A len cap] w (OpenPost w A) := by
  unfold maxLen at hm
  by_cases h2 : 2000 < len
  · obtain ⟨g, o, rfl, hg, hc⟩ := h (by omega)
    have hb : Bytes w w.heap.size (some ⟨g, o, none⟩) 2000 := Bytes.take (n := len) (fun _ => ⟨g, o, rfl, hg, hc⟩) (by omega)
    have HB := Lib.hid hb
    clear hb h hc
    go_enter Tryz.func45, Tryz.ntmps45
    go_wp2
    go_ret
    refine ⟨2000, cap, rfl, ⟨Blk.new _ _ _, ?_, by omega, by omega⟩, (Below.refl _ _).alloc (Nat.le_refl _) _, by simp⟩
    exact HB.out.below ((Below.refl _ _).alloc (Nat.le_refl _) _)
  · have HB := Lib.hid h
    clear h
    go_enter Tryz.func45, Tryz.ntmps45
    go_wp2
    go_ret
    refine ⟨len, cap, rfl, ⟨Blk.new _ _ _, ?_, by omega, by omega⟩, (Below.refl _ _).alloc (Nat.le_refl _) _, by simp⟩
    exact HB.out.below ((Below.refl _ _).alloc (Nat.le_refl _) _)
end Go.Proofs.YtjmmojjjopjdpaaGreatDoor.pk

/-
  A slice of bytes that came in, in our words.
-/
namespace Go.Proofs.YtjmmojjjopjdpaaGreatDoor.dr
open Go.ChangeShapes Go.WideShapes Go.ChangeAt Go.RowKit
open Go.Proofs.YtjmmojjjopjdpaaGreatDoor.wd Go.Proofs.YtjmmojjjopjdpaaGreatDoor.pk

/-- what the shells say of a slice of bytes that came in, in our words -/
theorem bytes_of_row {w : World} {a : Option Addr} {len cap : Nat} {zs : List Int}
    (h : (a = none ∧ len = 0 ∧ cap = 0 ∧ zs = []) ∨ ∃ x, a = some x ∧ len ≤ cap ∧ cap ≤ maxLen ∧ zs.length = cap ∧ (∀ i, i < zs.length → w.cell? (x.add i) = some (.int .u8 (zs.getD i 0))) ∧ ∀ n ∈ zs, (Lit.int .u8 n).wf = true) :
    Bytes w w.heap.size a len ∧ len ≤ cap ∧ cap ≤ maxLen := by
  rcases h with ⟨rfl, rfl, rfl, rfl⟩ | ⟨x, rfl, hl, hm, hz, hc, hwf⟩
  · exact ⟨fun h => absurd h (by omega), Nat.le_refl _, by unfold maxLen; omega⟩
  · refine ⟨fun hn => ?_, hl, hm⟩
    obtain ⟨g, o, spot⟩ := x
    have h0 := hc 0 (by omega)
    have hspot : spot = none := by simpa [Addr.add] using World.cell?_spot h0
    subst hspot
    have e : ∀ j, (⟨g, o, none⟩ : Addr).add j = ⟨g, o + j, none⟩ := fun j => by
      unfold Addr.add; split <;> simp_all
    refine ⟨g, o, rfl, ?_, fun j hj => ?_⟩
    · rcases Nat.lt_or_ge g w.heap.size with hlt | hge
      · exact hlt
      · rw [e] at h0
        have : w.heap[g]? = none := Array.getElem?_eq_none hge
        simp [World.cell?, this] at h0
    · have hj' : j < zs.length := by omega
      have hcell := hc j hj'
      rw [e] at hcell
      have hd : zs.getD j 0 = zs[j] := by simp [List.getD, hj']
      have hw := hwf (zs.getD j 0) (hd ▸ List.getElem_mem hj')
      have hx : 0 ≤ zs.getD j 0 ∧ zs.getD j 0 ≤ 255 := by simpa [Lit.wf, IntKind.min, IntKind.max, IntKind.signed, IntKind.bits] using hw
      exact ⟨_, hcell, hx.1, hx.2⟩

theorem Bytes_later {w w1 : World} {A : Option Addr} {n : Nat} (h : Bytes w w.heap.size A n) (hb : Below w.heap.size w w1) : Bytes w1 w1.heap.size A n := fun hn => by
  obtain ⟨g, o, e, hg, hc⟩ := (h.below hb) hn
  exact ⟨g, o, e, Nat.lt_of_lt_of_le hg hb.size, hc⟩

end Go.Proofs.YtjmmojjjopjdpaaGreatDoor.dr

/-
  Plain mathematics of chapter 2: bytes of a text, blocks of four bytes, cuts. Nothing here speaks of a program.
-/
namespace Go.Proofs.YtjmmojjjopjdpaaGreatDoor.cp

/-- the byte of a text at a place; 0 behind its end -/
def by_ (t : ByteArray) (k : Nat) : UInt8 := if h : k < t.size then t[k] else 0
theorem by_in {t : ByteArray} {k : Nat} (h : k < t.size) : by_ t k = t[k] := dif_pos h
theorem by_out {t : ByteArray} {k : Nat} (h : t.size ≤ k) : by_ t k = 0 := dif_neg (by omega)

/-- a byte as the model has it -/
def bv (b : UInt8) : Value := .int .u8 b.toNat
theorem bv_one (l : List UInt8) : ∀ v ∈ l.map bv, v.oneCell' = true := by
  intro v hv
  obtain ⟨b, _, rfl⟩ := List.mem_map.1 hv
  rfl

/-- four bytes -/
structure Q where
  a : UInt8
  b : UInt8
  c : UInt8
  d : UInt8
theorem Q.ext' {p q : Q} (h1 : p.a = q.a) (h2 : p.b = q.b) (h3 : p.c = q.c) (h4 : p.d = q.d) : p = q := by
  cases p; cases q; simp_all
def Q.list (q : Q) : List UInt8 := [q.a, q.b, q.c, q.d]
def Q.str (q : Q) : ByteArray := ⟨q.list.toArray⟩
def Q.cells (q : Q) : Array Value := #[bv q.a, bv q.b, bv q.c, bv q.d]
def Q.xor (p q : Q) : Q := ⟨p.a ^^^ q.a, p.b ^^^ q.b, p.c ^^^ q.c, p.d ^^^ q.d⟩
def Q.zero : Q := ⟨0, 0, 0, 0⟩
theorem Q.str_size (q : Q) : q.str.size = 4 := rfl
theorem Q.list_len (q : Q) : q.list.length = 4 := rfl
theorem Q.cells_size (q : Q) : q.cells.size = 4 := rfl
theorem Q.cells_one (q : Q) : q.cells.all (·.oneCell') = true := all_oneCell_toArray (cs := q.list.map bv) (bv_one _)
theorem Q.cells_list (q : Q) : q.cells.toList = q.list.map bv := rfl
theorem Q.str_inj {p q : Q} (h : p.str = q.str) : p = q := by
  have h1 : p.list.toArray = q.list.toArray := congrArg ByteArray.data h
  have h2 : p.list = q.list := by simpa using congrArg Array.toList h1
  unfold Q.list at h2
  injection h2 with e1 h2
  injection h2 with e2 h2
  injection h2 with e3 h2
  injection h2 with e4 h2
  exact Q.ext' e1 e2 e3 e4
theorem Q.xor_comm (p q : Q) : p.xor q = q.xor p := Q.ext' (UInt8.xor_comm _ _) (UInt8.xor_comm _ _) (UInt8.xor_comm _ _) (UInt8.xor_comm _ _)
theorem Q.xor_assoc (p q r : Q) : (p.xor q).xor r = p.xor (q.xor r) := Q.ext' (UInt8.xor_assoc _ _ _) (UInt8.xor_assoc _ _ _) (UInt8.xor_assoc _ _ _) (UInt8.xor_assoc _ _ _)
theorem Q.xor_self (p : Q) : p.xor p = Q.zero := Q.ext' UInt8.xor_self UInt8.xor_self UInt8.xor_self UInt8.xor_self
theorem Q.xor_zero (p : Q) : p.xor Q.zero = p := Q.ext' UInt8.xor_zero UInt8.xor_zero UInt8.xor_zero UInt8.xor_zero
theorem Q.zero_xor (p : Q) : Q.zero.xor p = p := by rw [Q.xor_comm, Q.xor_zero]
theorem xor_bv (a b : UInt8) : bits .xor .u8 (a.toNat : Int) (b.toNat : Int) = ((a ^^^ b).toNat : Int) := by
  rw [u8_xor_nat _ _ a.toNat_lt b.toNat_lt, UInt8.toNat_xor]

/-- the bytes k, k+1 .. of a text, n of them -/
def bys (t : ByteArray) (k n : Nat) : List UInt8 := (List.range n).map fun j => by_ t (k + j)
theorem bys_len (t : ByteArray) (k n : Nat) : (bys t k n).length = n := by simp [bys]
theorem bys_snoc (t : ByteArray) (k n : Nat) : bys t k (n + 1) = bys t k n ++ [by_ t (k + n)] := by simp [bys, List.range_succ]
/-- block i of a text -/
def qb (t : ByteArray) (i : Nat) : Q := ⟨by_ t (4 * i), by_ t (4 * i + 1), by_ t (4 * i + 2), by_ t (4 * i + 3)⟩
theorem qb_list (t : ByteArray) (i : Nat) : (qb t i).list = bys t (4 * i) 4 := rfl
/-- into how many blocks a text is cut -/
def cutN (t : ByteArray) : Nat := if 1 ≤ t.size ∧ t.size ≤ 24 then (t.size + 3) / 4 else 0
theorem cutN_le (t : ByteArray) : cutN t ≤ 6 := by unfold cutN; split <;> omega
theorem cutN_in {t : ByteArray} (h0 : 1 ≤ t.size) (h1 : t.size ≤ 24) : cutN t = (t.size + 3) / 4 := if_pos ⟨h0, h1⟩
theorem cutN_out {t : ByteArray} (h : t.size < 1 ∨ 24 < t.size) : cutN t = 0 := if_neg (by omega)
/-- the first n blocks -/
def cutTo (t : ByteArray) (n : Nat) : List ByteArray := (List.range n).map fun i => (qb t i).str
theorem cutTo_snoc (t : ByteArray) (n : Nat) : cutTo t (n + 1) = cutTo t n ++ [(qb t n).str] := by simp [cutTo, List.range_succ]
theorem cutTo_len (t : ByteArray) (n : Nat) : (cutTo t n).length = n := by simp [cutTo]
theorem cutTo_at (t : ByteArray) {n i : Nat} (h : i < n) : (cutTo t n)[i]? = some (qb t i).str := by simp [cutTo, h]
def cut (t : ByteArray) : List ByteArray := cutTo t (cutN t)
theorem cut_len (t : ByteArray) : (cut t).length = cutN t := cutTo_len _ _
/-- the text that a program sees of a text: nothing of one that is too long -/
def fit (t : ByteArray) : ByteArray := if t.size ≤ 24 then t else ⟨#[]⟩

/-- a row of bytes, xored place by place -/
def xors (p q : ByteArray) (n : Nat) : List UInt8 := (List.range n).map fun j => by_ p j ^^^ by_ q j
theorem xors_len (p q : ByteArray) (n : Nat) : (xors p q n).length = n := by simp [xors]
theorem xors_snoc (p q : ByteArray) (n : Nat) : xors p q (n + 1) = xors p q n ++ [by_ p n ^^^ by_ q n] := by simp [xors, List.range_succ]
theorem xors_Q (p q : Q) : xors p.str q.str 4 = (p.xor q).list := rfl
end Go.Proofs.YtjmmojjjopjdpaaGreatDoor.cp

/-
  Words: a slice of the call's own, of any element of one cell; bytes of the call's own that become a text.
-/
namespace Go.Proofs.YtjmmojjjopjdpaaGreatDoor.ow
open Go.ChangeShapes Go.WideShapes Go.ChangeAt Go.RowKit
open Go.Proofs.YtjmmojjjopjdpaaGreatDoor.wd Go.Proofs.YtjmmojjjopjdpaaGreatDoor.cp

theorem infoByte : (Tryz.prog.info? 5).map (fun i => (i.zero, i.size, i.bytes)) = some (some (.int .u8 0), 1, 1) := by kernel_rfl
theorem infoStr : (Tryz.prog.info? 9).map (fun i => (i.zero, i.size, i.bytes)) = some (some (.string ⟨#[]⟩), 1, 16) := by kernel_rfl

/-- a slice of the call's own -/
def Own (t : TypeId) (w0 w : World) (v : Value) (xs : List Value) : Prop := w.ownsRow w0.heap.size t 1 v xs.length xs ∧ Below w0.heap.size w0 w
section
variable {t : TypeId} {w0 w w1 : World} {v v1 x : Value} {xs : List Value} {o : Obj}
theorem Own.nil (w : World) : Own t w w (.slice none 0 0) [] := ⟨World.ownsRow_nil _ _ _ _, Below.refl _ _⟩
theorem Own.empty (w : World) : Own t w (w.alloc (.cells #[] t)) (.slice (some ⟨w.heap.size, 0, none⟩) 0 0) [] :=
  ⟨World.ownsRow_lit w #[] 0 (Nat.le_refl _) (by unfold maxLen; omega) rfl, (Below.refl _ _).alloc (Nat.le_refl _) _⟩
theorem Own.empty_on (h : Below w0.heap.size w0 w) : Own t w0 (w.alloc (.cells #[] t)) (.slice (some ⟨w.heap.size, 0, none⟩) 0 0) [] :=
  ⟨World.ownsRow_lit w #[] 0 h.size (by unfold maxLen; omega) rfl, h.alloc h.size _⟩
theorem Own.more {n : Nat} (h : Own t w0 w v xs) (h1 : w1.ownsRow w0.heap.size t 1 v1 n (xs ++ [x])) (hg : (w.alloc o).grownBy w1 v.ownBlock) : Own t w0 w1 v1 (xs ++ [x]) := by
  obtain rfl : n = (xs ++ [x]).length := by have := h1.1; omega
  refine ⟨h1, ?_⟩
  have hs : (w.alloc o).heap.size = w.heap.size + 1 := by simp
  exact (h.2.alloc h.2.size o).grown hg (by have := h.2.size; omega) (fun k hk => (h.1.lt k hk).1)
theorem Own.later (h : Own t w0 w v xs) (hb : Below w.heap.size w w1) : Own t w0 w1 v xs := by
  refine ⟨h.1.kept (row := none) ⟨hb.os, hb.tape, hb.output, hb.size, fun i hi _ => hb.block i hi⟩ ?_, h.2.trans (hb.mono h.2.size)⟩
  cases hv : v.ownBlock with
  | none => exact .inl rfl
  | some k => exact .inr (by simp)
theorem Own.from_ (h : Own t w w1 v xs) (hb : Below w0.heap.size w0 w) : Own t w0 w1 v xs := by
  refine ⟨⟨h.1.1, ?_⟩, hb.trans (h.2.mono hb.size)⟩
  have := hb.size
  rcases h.1.2 with h' | ⟨g, cap, cur, h1, h2, h3⟩
  · exact .inl h'
  · exact .inr ⟨g, cap, cur, h1, by omega, h3⟩
theorem Own.lt (h : Own t w0 w v xs) {k : Nat} (hk : v.ownBlock = some k) : w0.heap.size ≤ k ∧ k < w.heap.size := h.1.lt k hk
theorem Own.drew (h : Own t w0 w v xs) : Own t w0 w.drew v xs := ⟨h.1, h.2.drew⟩
/-- as the walk reads it -/
theorem Own.form (h : Own t w0 w v xs) : ∃ A c, v = .slice A xs.length c ∧ (0 < xs.length → ∃ g, A = some ⟨g, 0, none⟩ ∧ w0.heap.size ≤ g ∧ g < w.heap.size ∧ ∀ i x, xs[i]? = some x → w.cell? ⟨g, i, none⟩ = some x) := by
  rcases h.1.2 with ⟨rfl, hn⟩ | ⟨g, cap, cur, rfl, hb, hh, hn, hm, hs, ht⟩
  · refine ⟨none, 0, by rw [hn], fun h => absurd h (by omega)⟩
  · refine ⟨_, cap, rfl, fun _ => ⟨g, rfl, hb, (h.1.lt g rfl).2, fun i x hx => ?_⟩⟩
    have hi : i < xs.length := (List.getElem?_eq_some_iff.1 hx).1
    rw [World.ownsRow.cellAt (g := g) (cap := cap) h.1 i (by omega), hx]
end

theorem below_drewN' {B : Nat} {a w : World} (h : Below B a w) (n : Nat) : Below B a (w.drewN n) := ⟨h.os, h.tape, h.output, h.size, h.block⟩

theorem grown_of_drew {w w1 : World} {row : Option Nat} (h : w.drew.grownBy w1 row) : w.grownBy w1 row := ⟨h.os, h.tape, h.output, h.size, h.block⟩

/-- bytes of the call's own, turned into a text -/
theorem own_text {w0 w : World} {v : Value} {l : List UInt8} (h : Own 5 w0 w v (l.map bv)) (hl : 0 < l.length) :
    ∃ g cap, v = .slice (some ⟨g, 0, none⟩) l.length cap ∧ (convert 22 9 (.slice (some ⟨g, 0, none⟩) l.length cap)).run Tryz.prog w = .ok (.string ⟨l.toArray⟩) w := by
  obtain ⟨A, c, rfl, hc⟩ := h.form
  rw [List.length_map] at hc ⊢
  obtain ⟨g, rfl, _, _, hcell⟩ := hc hl
  refine ⟨g, c, rfl, run_convert_bytes_back (P := Tryz.prog) w 22 9 5 ⟨g, 0, none⟩ c l Tryz.underlying22 Tryz.underlying5 Tryz.underlying9 (fun j hj => ?_)⟩
  have e : (⟨g, 0, none⟩ : Addr).add j = ⟨g, j, none⟩ := by unfold Addr.add; split <;> simp_all
  rw [e]
  exact hcell j _ (by simp [hj, bv])

theorem ret_int {k : IntKind} {a b : Int} (h : a = b) : Ending.returned (.int k a) = .returned (.int k b) := by rw [h]

def StrPost (w : World) (s : ByteArray) (e : Ending) (w' : World) : Prop := e = .returned (.string s) ∧ Below w.heap.size w w'
def OwnPost (t : TypeId) (w : World) (xs : List Value) (e : Ending) (w' : World) : Prop := ∃ v, e = .returned v ∧ Own t w w' v xs
end Go.Proofs.YtjmmojjjopjdpaaGreatDoor.ow

/-
  Contracts of the drawing of texts: l6Many, of, l72Text, DrawMixCut, DrawMixMake, lbText: whatever the code, a text of at most 25 bytes; nothing old is turned but the reader.
-/
namespace Go.Proofs.YtjmmojjjopjdpaaGreatDoor.dr
open Go.ChangeShapes Go.WideShapes Go.ChangeAt Go.RowKit
open Go.Proofs.YtjmmojjjopjdpaaGreatDoor.wd Go.Proofs.YtjmmojjjopjdpaaGreatDoor.pk Go.Proofs.YtjmmojjjopjdpaaGreatDoor.cp Go.Proofs.YtjmmojjjopjdpaaGreatDoor.ow

theorem size_cat (a b : ByteArray) : (a ++ b).size = a.size + b.size := by simp
theorem half_odd {o x h n : Nat} (e : o + (2 * h + 1) * x = n) : o + x + h * (x + x) = n := by
  rw [Nat.mul_add]; rw [Nat.add_mul, Nat.one_mul, Nat.mul_assoc] at e; omega
theorem half_even {o x h n : Nat} (e : o + 2 * h * x = n) : o + h * (x + x) = n := by
  rw [Nat.mul_add]; rw [Nat.mul_assoc] at e; omega

def ManyPost (w : World) (n : Nat) (e : Ending) (w' : World) : Prop := ∃ s : ByteArray, e = .returned (.string s) ∧ s.size = n ∧ w = w'

set_option maxHeartbeats 400000 in
theorem many_any (s : ByteArray) (hs : s.size = 1) (n : Nat) (hn : n ≤ 100) (w : World) : Calls Tryz.prog 160 #[.string s, .int .i64 n] w (ManyPost w n) := by
  have h0 : s.size ≤ 1 := by omega
  have HS := Lib.hid hs
  clear hs
  go_enter Tryz.func160, Tryz.ntmps160
  go_wp2
  go_loop [0, 1, 5] (fun a i o => ∃ (x out : ByteArray) (m : Nat), a = .string x ∧ i = .int .i64 m ∧ o = .string out ∧ m ≤ 100 ∧ x.size ≤ 200 ∧ out.size ≤ 100 ∧ Hid (out.size + m * x.size = n)) (fun _ i _ => (intOf i).toNat)
  case atStart => exact ⟨s, ⟨#[]⟩, n, rfl, rfl, rfl, hn, by omega, by decide, by show 0 + n * s.size = n; rw [HS.out]; omega⟩
  case round =>
    obtain ⟨x, out, m, rfl, rfl, rfl, hm, hx, ho, HE⟩ := hrel
    have hxi : (x.size : Int) ≤ 8388608 := by omega
    have hoi : (out.size : Int) ≤ 8388608 := by omega
    by_cases hm0 : 0 < m
    · have hxn : x.size ≤ n := by
        have := HE.out
        have h2 : 1 * x.size ≤ m * x.size := Nat.mul_le_mul_right _ hm0
        omega
      have HX := Lib.hid (size_cat x x)
      by_cases hp : m % 2 = 1
      · have HN : Hid ((out ++ x).size + m / 2 * (x ++ x).size = n) := by
          rw [HX.out, size_cat]
          refine half_odd ?_
          rw [show 2 * (m / 2) + 1 = m by omega]
          exact HE.out
        have hon : (out ++ x).size ≤ 100 := by have := HN.out; omega
        have hd : ((m : Int) % 2 == 1) = true := by rw [beq_iff_eq]; omega
        clear HE hp
        go_wp2
        go_round
        case rel => exact ⟨_, _, m / 2, rfl, by go_num, rfl, by omega, by rw [HX.out]; omega, hon, HN.out⟩
        case measure => simp [intOf]; omega
      · have HN : Hid (out.size + m / 2 * (x ++ x).size = n) := by
          rw [HX.out]
          refine half_even ?_
          rw [show 2 * (m / 2) = m by omega]
          exact HE.out
        have hd : ((m : Int) % 2 == 1) = false := by rw [beq_eq_false_iff_ne]; omega
        clear HE hp
        go_wp2
        go_round
        case rel => exact ⟨_, _, m / 2, rfl, by go_num, rfl, by omega, by rw [HX.out]; omega, ho, HN.out⟩
        case measure => simp [intOf]; omega
    · obtain rfl : m = 0 := by omega
      go_wp2
      go_ret
      exact ⟨out, rfl, by have := HE.out; omega, rfl⟩

/-- only block b, and what is new, has turned -/
theorem only_grown {b : Nat} {w w' : World} (h : Only b w w') : w.grownBy w' (some b) :=
  ⟨h.1.os, h.1.tape, h.1.output, by rw [h.2.2]; exact Nat.le_refl _, fun k _ hk => h.2.1 k (fun e => hk (by rw [e]))⟩
theorem below_grown {w w' : World} (h : Below w.heap.size w w') (row : Option Nat) : w.grownBy w' row := ⟨h.os, h.tape, h.output, h.size, fun i hi _ => h.block i hi⟩
theorem grown_below {b B : Nat} {w w' : World} (h : w.grownBy w' (some b)) (hb : B ≤ b) (hw : B ≤ w.heap.size) : Below B w w' :=
  ⟨h.os, h.tape, h.output, h.size, fun k hk => h.block k (by omega) (fun e => by injection e; omega)⟩
theorem grown_trans {b : Nat} {w w1 w2 : World} (h : w.grownBy w1 (some b)) (k : w1.grownBy w2 (some b)) : w.grownBy w2 (some b) :=
  ⟨k.os.trans h.os, k.tape.trans h.tape, k.output.trans h.output, Nat.le_trans h.size k.size, fun i hi hn => (k.block i (Nat.lt_of_lt_of_le hi h.size) hn).trans (h.block i hi hn)⟩
theorem rd_later {w w' : World} {b : Nat} {A : Option Addr} {len cap : Nat} {p : Int} (h : Rd w b A len cap p) (hB : Below (b + 1) w w') : Rd w' b A len cap p :=
  ⟨h.1.below hB (by omega), h.2.1.below (hB.mono (by omega)), h.2.2.1, h.2.2.2⟩

def OfPost (w : World) (b : Nat) (A : Option Addr) (len cap : Nat) (p : Int) (e : Ending) (w' : World) : Prop :=
  ∃ s : ByteArray, e = .returned (.string s) ∧ s.size ≤ 25 ∧ Rd w' b A len cap (p + 1) ∧ Only b w w'

theorem of_any (w : World) (b : Nat) (A : Option Addr) (len cap : Nat) (p : Int) (h : Rd w b A len cap p) (hp : p ≤ 1000000) (g n : Nat) (cs : Array Value) (hg : Blk w g 9 cs) (hgb : g ≠ b) (hn : 1 ≤ n) (hn' : n ≤ 100)
    (hc : ∀ i, i < n → ∃ s : ByteArray, cs[i]? = some (.string s) ∧ s.size ≤ 25) :
    Calls Tryz.prog 162 #[.pointer (some ⟨b, 0, none⟩), .slice (some ⟨g, 0, none⟩) n n] w (OfPost w b A len cap p) := by
  have HC := Lib.hid hc
  clear hc
  go_enter Tryz.func162, Tryz.ntmps162
  go_wp2_with fail
  refine (picked _ _ _ _ _ _ _ h hp (by omega) (by omega)).mono ?_
  rintro e w1 ⟨v, rfl, v0, v1, hR, hO⟩
  obtain ⟨i, rfl⟩ := Int.eq_ofNat_of_zero_le v0
  obtain ⟨s, hs, hz⟩ := HC.out i (by omega)
  have hg1 : Blk w1 g 9 cs := (hO.2.1 g hgb).trans hg
  have c := (hg1.cell i).trans hs
  have hi : i < n := by omega
  have HR := Lib.hid hR
  have HO := Lib.hid hO
  clear hR hO hs hg1 hg h
  go_wp2
  go_ret
  exact ⟨s, rfl, hz, HR.out, HO.out⟩

def TextPost (w : World) (b : Nat) (A : Option Addr) (len cap : Nat) (p : Int) (e : Ending) (w' : World) : Prop :=
  ∃ (s : ByteArray) (p' : Int), e = .returned (.string s) ∧ s.size ≤ 25 ∧ p ≤ p' ∧ p' ≤ p + 30 ∧ Rd w' b A len cap p' ∧ w.grownBy w' (some b)

/-- at the head of the loop that draws bytes -/
def BRel (w ws : World) (b : Nat) (A : Option Addr) (len cap : Nat) (p : Int) (v : Value) (r : Nat) (wr : World) : Prop :=
  ∃ (l : List UInt8) (p' : Int), wr.ownsRow ws.heap.size 5 1 v (l.map bv).length (l.map bv) ∧ l.length + r ≤ 20 ∧ 1 ≤ l.length + r ∧ p ≤ p' ∧ p' + r ≤ p + 30 ∧ Rd wr b A len cap p' ∧ w.grownBy wr (some b) ∧ ws.heap.size ≤ wr.heap.size
theorem own_text' {w : World} {base : Nat} {v : Value} {l : List UInt8} (h : w.ownsRow base 5 1 v (l.map bv).length (l.map bv)) (hl : 0 < l.length) :
    ∃ g cap, v = .slice (some ⟨g, 0, none⟩) l.length cap ∧ (convert 22 9 (.slice (some ⟨g, 0, none⟩) l.length cap)).run Tryz.prog w = .ok (.string ⟨l.toArray⟩) w := by
  rcases h.2 with ⟨rfl, hn⟩ | ⟨g, cap, cur, rfl, hb, hh, hn, hm, hs, ht⟩
  · simp at hn; subst hn; simp at hl
  · refine ⟨g, cap, by simp, run_convert_bytes_back (P := Tryz.prog) w 22 9 5 ⟨g, 0, none⟩ cap l Tryz.underlying22 Tryz.underlying5 Tryz.underlying9 (fun j hj => ?_)⟩
    have e : (⟨g, 0, none⟩ : Addr).add j = ⟨g, j, none⟩ := by unfold Addr.add; split <;> simp_all
    rw [e, World.ownsRow.cellAt (g := g) (cap := cap) h j (by simp; omega)]
    simp [hj, bv]
theorem own_pick {w w' : World} {base b : Nat} {t : TypeId} {v : Value} {n : Nat} {xs : List Value} (h : w.ownsRow base t 1 v n xs) (hO : Only b w w') (hb : b < base) : w'.ownsRow base t 1 v n xs :=
  h.kept (only_grown hO) (by
    cases hv : v.ownBlock with
    | none => exact .inl rfl
    | some k => exact .inr (fun e => by have := (h.lt k hv).1; injection e; omega))
theorem rd_append {w w' : World} {b base : Nat} {A : Option Addr} {len cap : Nat} {p : Int} {o : Obj} {v : Value} (h : Rd w b A len cap p) (hg : (w.alloc o).grownBy w' v.ownBlock) (hv : ∀ k, v.ownBlock = some k → base ≤ k) (hb : b < base) : Rd w' b A len cap p := by
  have hbw := h.1.lt
  refine rd_later h (((Below.refl (b + 1) w).alloc (by omega) o).trans ⟨hg.os, hg.tape, hg.output, hg.size, fun k hk => hg.block k (by simp; omega) (fun e => by have := hv k e.symm; omega)⟩)
theorem grown_append {w w1 w' : World} {b : Nat} {o : Obj} {v : Value} (h : w.grownBy w1 (some b)) (hg : (w1.alloc o).grownBy w' v.ownBlock) (hv : ∀ k, v.ownBlock = some k → w.heap.size ≤ k) : w.grownBy w' (some b) := by
  have hz : (w1.alloc o).heap.size = w1.heap.size + 1 := by simp
  refine ⟨hg.os.trans h.os, hg.tape.trans h.tape, hg.output.trans h.output, Nat.le_trans h.size (Nat.le_trans (by omega) hg.size), fun k hk hn => ?_⟩
  have h1 := h.size
  exact (hg.block k (by omega) (fun e => by have := hv k e.symm; omega)).trans ((Below.heap_alloc w1 o k (by omega)).trans (h.block k hk hn))
end Go.Proofs.YtjmmojjjopjdpaaGreatDoor.dr

