/-
  Merged texts: Env, Laid, CutPlain, Own, RecL.
-/
import Derived.Test.YtgihbilpimempabGreatDoorGFnExactKeepDo1
import Derived.Test.YtgihbilpimempabGreatDoorShelf
import Derived.Test.YtgihbilpimempabGreatDoorRows
import Derived.Lib.AppendIntMem
import Derived.Lib.AtoiErrMem
import Derived.Lib.LaidTab
import Derived.Stop.LaidErr
import Derived.Stop.Joined
import Derived.LaidMore
import Derived.LaidHandle
import Derived.MakeChecks
import Derived.ProofKit
import Derived.Below
import Derived.Lib.Strings
import Derived.Laws.BitsAllLaws
import Derived.Deep.MidRow
import Derived.WalkKit
import Derived.Lib.Hide
import Derived.OwnWalk
import Derived.WalkSpells
import Derived.Laws.IdiomStrings
import Derived.Laws.AppendOwnNone
import Derived.BigFrame
import Derived.Deep.AppendLies
/-
  What the library's variables hold, carried over calls that turn nothing old; strconv.Itoa and strconv.Atoi in our words.
-/
namespace Go.Proofs.YtgihbilpimempabGreatDoor.dc
open Go.ChangeShapes Go.WideShapes Go.ChangeAt Go.RowKit
open Go.Proofs.YtgihbilpimempabGreatDoor.nb Go.Proofs.YtgihbilpimempabGreatDoor.ok Go.Proofs.YtgihbilpimempabGreatDoor.wd

def Tab (w : World) : Prop := Lib.TabIs Tryz.prog w "internal/strconv.uint64pow10" .u64 Lib.pow10Tab
theorem Tab.later {w w' : World} (h : Tab w) (hb : Below w.heap.size w w') : Tab w' := Lib.tabBelow_of_tabIs h w' hb

theorem var_later {w w' : World} {n : String} {cs : Array Value} (h : w.var? Tryz.prog n = some cs) (hb : Below w.heap.size w w') : w'.var? Tryz.prog n = some cs := by
  unfold World.var? at *
  cases hg : Tryz.prog.globalNamed n with
  | none => simp [hg] at h
  | some g =>
    simp only [hg, Option.bind_some] at h ⊢
    have hlt : g < w.heap.size := by
      rcases Nat.lt_or_ge g w.heap.size with h' | h'
      · exact h'
      · rw [Array.getElem?_eq_none h'] at h; simp at h
    rw [hb.block g hlt]
    exact h

/-- the two errors of strconv are laid -/
def Errs (w : World) : Prop := (∃ tp p, w.var? Tryz.prog "strconv.ErrSyntax" = some #[.iface tp p]) ∧ ∃ tp p, w.var? Tryz.prog "strconv.ErrRange" = some #[.iface tp p]
theorem Errs.later {w w' : World} (h : Errs w) (hb : Below w.heap.size w w') : Errs w' := by
  obtain ⟨⟨a, b, c⟩, d, e, f⟩ := h
  exact ⟨⟨a, b, var_later c hb⟩, d, e, var_later f hb⟩

theorem below_grow (w : World) (k : Nat) (os : Array Obj) : Below w.heap.size w (Sort.grow (w.drewN k) os) :=
  ⟨rfl, rfl, rfl, by simp [Sort.grow, World.drewN], fun i hi => by
    show (w.heap ++ os)[i]? = w.heap[i]?
    rw [Array.getElem?_append_left hi]⟩

theorem itoa_any (n : Int) (h0 : 0 ≤ n) (h1 : n ≤ 999) (w : World) (h : Tab w) :
    Calls Tryz.prog 159 #[.int .i64 n] w (StrPost w (str (dl n))) := by
  refine (Tryz.strconv_Itoa n (by omega) (by omega) w h).mono ?_
  rintro e w' ⟨rfl, k, os, rfl⟩
  exact ⟨by rw [itoa_dl h0]; rfl, below_grow w k os⟩

/-- what Atoi answers, its error aside -/
def atoiV (l : List UInt8) : Int :=
  match Lib.atoiAll l with
  | .ok v => v
  | .range => Lib.atoiSat l
  | _ => 0
theorem atoiV_dl {n : Int} (h0 : 0 ≤ n) (h1 : n ≤ 999) : atoiV (dl n) = n := by unfold atoiV; rw [atoi_dl h0 h1]

def AtoiPost (w : World) (l : List UInt8) (e : Ending) (w' : World) : Prop := ∃ x, e = .returned (.tuple #[.int .i64 (atoiV l), x]) ∧ Below w.heap.size w w'

theorem atoi_any (s : ByteArray) (hs : s.size ≤ 8388608) (w : World) (h : Errs w) :
    Calls Tryz.prog 150 #[.string s] w (AtoiPost w s.data.toList) := by
  obtain ⟨⟨tp, p, hv⟩, tq, q, hr⟩ := h
  cases ha : Lib.atoiAll s.data.toList
  case ok v =>
    refine (Tryz.strconv_Atoi_ok s (by omega) v ha w).mono ?_
    rintro e w' ⟨rfl, hw⟩
    refine ⟨_, by unfold atoiV; rw [ha], ?_⟩
    rcases hw with rfl | ⟨t, rfl⟩
    · exact Below.refl _ _
    · exact Lib.bytesWorld_below _ _ _
  case range =>
    refine (Tryz.strconv_Atoi_range_var s (by omega) ha tq q w hr).mono ?_
    rintro e w' ⟨N, rfl, _, _, hB⟩
    exact ⟨_, by unfold atoiV; rw [ha], hB⟩
  -- what is left: the string is no numeral
  have hc := Any.strconv_Atoi_syntax_var Tryz.laysC172 s (by omega) ha tp p w hv
  refine Calls.mono (P := Tryz.prog) (f := 150) hc ?_
  rintro e w' ⟨N, rfl, _, _, hB⟩
  exact ⟨_, by unfold atoiV; rw [ha], hB⟩
end Go.Proofs.YtgihbilpimempabGreatDoor.dc

/-
  What a row's listed variables give: strconv's table of powers of ten; its two errors.
-/
namespace Go.Proofs.YtgihbilpimempabGreatDoor.dc
open Go.ChangeShapes Go.WideShapes Go.ChangeAt Go.RowKit

theorem gP : Tryz.prog.globalNamed "internal/strconv.uint64pow10" = some 3 := by kernel_rfl
theorem gPT : (Tryz.prog.globals[3]?).map (·.type) = some 217 := by kernel_rfl
theorem cU : Tryz.prog.cellsOf 197 = 1 := by kernel_rfl
theorem cT : Tryz.prog.cellsOf 217 = 20 := by kernel_rfl
theorem gS : Tryz.prog.globalNamed "strconv.ErrSyntax" = some 1 := by kernel_rfl
theorem gST : (Tryz.prog.globals[1]?).map (·.type) = some 180 := by kernel_rfl
theorem gR : Tryz.prog.globalNamed "strconv.ErrRange" = some 2 := by kernel_rfl
theorem gRT : (Tryz.prog.globals[2]?).map (·.type) = some 180 := by kernel_rfl
theorem cE : Tryz.prog.cellsOf 210 = 1 := by kernel_rfl
theorem cS : Tryz.prog.cellsOf 9 = 1 := by kernel_rfl
theorem star : "*" ++ "errors.errorString" = "*errors.errorString" := by decide
theorem rowE (u : TypeId) (h : Tryz.prog.typeName? 3 u = some "*errors.errorString") : u = 208 :=
  typeName_ptr_named (nm := "errors.errorString") (by rw [star]; kernel_rfl) (by kernel_rfl) (by decide) u (by rw [star]; exact h)

theorem pow_eq : (Rows.laid_internal_strconv_uint64pow10 : DataW Unit) = Lib.tabData .u64 Lib.pow10Tab := by kernel_rfl

def list3 : List (String × DataW Unit) := [("math/bits.deBruijn32tab", Rows.laid_math_bits_deBruijn32tab), ("math/bits.deBruijn64tab", Rows.laid_math_bits_deBruijn64tab), ("internal/strconv.uint64pow10", Rows.laid_internal_strconv_uint64pow10)]
def list5 : List (String × DataW Unit) := [("math/bits.deBruijn32tab", Rows.laid_math_bits_deBruijn32tab), ("math/bits.deBruijn64tab", Rows.laid_math_bits_deBruijn64tab), ("internal/strconv.uint64pow10", Rows.laid_internal_strconv_uint64pow10), ("strconv.ErrRange", Rows.laid_strconv_ErrRange), ("strconv.ErrSyntax", Rows.laid_strconv_ErrSyntax)]

theorem tab_of {W : World} {r : List (String × DataW Unit)} (h : laidMet Tryz.prog (("internal/strconv.uint64pow10", Rows.laid_internal_strconv_uint64pow10) :: r) W) : Tab W := by
  rw [pow_eq] at h
  exact Lib.tabIs_of_head gP gPT Tryz.underlying217 Tryz.underlying197 cU cT h
theorem of_list3 {W : World} (h : laidMetH Tryz.prog list3 W) : Tab W := by
  rw [MakeChecks.laidMetH_plain _ _ _ (by kernel_rfl)] at h
  exact tab_of h.tail.tail
theorem of_list5 {W : World} (h : laidMetH Tryz.prog list5 W) : Tab W ∧ Errs W := by
  rw [MakeChecks.laidMetH_plain _ _ _ (by kernel_rfl)] at h
  obtain ⟨a0, s0, hv0, _, _, _⟩ := laid_sentinel h.tail.tail.tail gR gRT Tryz.underlying180 rowE Tryz.underlying208 Tryz.underlying210 rfl rfl Tryz.underlying9 cE cS
  obtain ⟨a1, s1, hv1, _, _, _⟩ := laid_sentinel h.tail.tail.tail.tail gS gST Tryz.underlying180 rowE Tryz.underlying208 Tryz.underlying210 rfl rfl Tryz.underlying9 cE cS
  exact ⟨tab_of h.tail.tail, ⟨_, _, hv1⟩, _, _, hv0⟩

theorem met3 (os : Os) (args : Array Value) : laidMetH Tryz.prog list3 ((World.doorLaid Tryz.prog 400 os).forCall (fun _ _ => 0) ⟨#[], args, []⟩).memory :=
  laidMetH_of_parts3 (fuel := 8) (laidMet_of_run' 8 (by kernel_rfl) (by kernel_rfl)) (by kernel_rfl) (by kernel_rfl)
theorem met5 (os : Os) (args : Array Value) : laidMetH Tryz.prog list5 ((World.doorLaid Tryz.prog 400 os).forCall (fun _ _ => 0) ⟨#[], args, []⟩).memory :=
  laidMetH_of_parts3 (fuel := 8) (laidMet_of_run' 8 (by kernel_rfl) (by kernel_rfl)) (by kernel_rfl) (by kernel_rfl)
end Go.Proofs.YtgihbilpimempabGreatDoor.dc

/-
  Plain mathematics of chapter 2: bytes of a text, blocks of four bytes, cuts. Nothing here speaks of a program.
-/
namespace Go.Proofs.YtgihbilpimempabGreatDoor.cp

/-- the byte of a text at a place; 0 behind its end -/
def by_ (t : ByteArray) (k : Nat) : UInt8 := if h : k < t.size then t[k] else 0
theorem by_in {t : ByteArray} {k : Nat} (h : k < t.size) : by_ t k = t[k] := dif_pos h
theorem by_out {t : ByteArray} {k : Nat} (h : t.size ≤ k) : by_ t k = 0 := dif_neg (by omega)

/-- a byte as the model has it -/
def bv (b : UInt8) : Value := .int .u8 b.toNat
theorem bv_one (l : List UInt8) : ∀ v ∈ l.map bv, v.oneCell' = true := by
  intro v hv
  obtain ⟨b, _, rfl⟩ := List.mem_map.1 hv
  rfl

/-- four bytes -/
structure Q where
  a : UInt8
  b : UInt8
  c : UInt8
  d : UInt8
theorem Q.ext' {p q : Q} (h1 : p.a = q.a) (h2 : p.b = q.b) (h3 : p.c = q.c) (h4 : p.d = q.d) : p = q := by
  cases p; cases q; simp_all
def Q.list (q : Q) : List UInt8 := [q.a, q.b, q.c, q.d]
def Q.str (q : Q) : ByteArray := ⟨q.list.toArray⟩
def Q.cells (q : Q) : Array Value := #[bv q.a, bv q.b, bv q.c, bv q.d]
def Q.xor (p q : Q) : Q := ⟨p.a ^^^ q.a, p.b ^^^ q.b, p.c ^^^ q.c, p.d ^^^ q.d⟩
def Q.zero : Q := ⟨0, 0, 0, 0⟩
theorem Q.str_size (q : Q) : q.str.size = 4 := rfl
theorem Q.list_len (q : Q) : q.list.length = 4 := rfl
theorem Q.cells_size (q : Q) : q.cells.size = 4 := rfl
theorem Q.cells_one (q : Q) : q.cells.all (·.oneCell') = true := all_oneCell_toArray (cs := q.list.map bv) (bv_one _)
theorem Q.cells_list (q : Q) : q.cells.toList = q.list.map bv := rfl
theorem Q.str_inj {p q : Q} (h : p.str = q.str) : p = q := by
  have h1 : p.list.toArray = q.list.toArray := congrArg ByteArray.data h
  have h2 : p.list = q.list := by simpa using congrArg Array.toList h1
  unfold Q.list at h2
  injection h2 with e1 h2
  injection h2 with e2 h2
  injection h2 with e3 h2
  injection h2 with e4 h2
  exact Q.ext' e1 e2 e3 e4
theorem Q.xor_comm (p q : Q) : p.xor q = q.xor p := Q.ext' (UInt8.xor_comm _ _) (UInt8.xor_comm _ _) (UInt8.xor_comm _ _) (UInt8.xor_comm _ _)
theorem Q.xor_assoc (p q r : Q) : (p.xor q).xor r = p.xor (q.xor r) := Q.ext' (UInt8.xor_assoc _ _ _) (UInt8.xor_assoc _ _ _) (UInt8.xor_assoc _ _ _) (UInt8.xor_assoc _ _ _)
theorem Q.xor_self (p : Q) : p.xor p = Q.zero := Q.ext' UInt8.xor_self UInt8.xor_self UInt8.xor_self UInt8.xor_self
theorem Q.xor_zero (p : Q) : p.xor Q.zero = p := Q.ext' UInt8.xor_zero UInt8.xor_zero UInt8.xor_zero UInt8.xor_zero
theorem Q.zero_xor (p : Q) : Q.zero.xor p = p := by rw [Q.xor_comm, Q.xor_zero]
theorem xor_bv (a b : UInt8) : bits .xor .u8 (a.toNat : Int) (b.toNat : Int) = ((a ^^^ b).toNat : Int) := by
  rw [u8_xor_nat _ _ a.toNat_lt b.toNat_lt, UInt8.toNat_xor]

/-- the bytes k, k+1 .. of a text, n of them -/
def bys (t : ByteArray) (k n : Nat) : List UInt8 := (List.range n).map fun j => by_ t (k + j)
theorem bys_len (t : ByteArray) (k n : Nat) : (bys t k n).length = n := by simp [bys]
theorem bys_snoc (t : ByteArray) (k n : Nat) : bys t k (n + 1) = bys t k n ++ [by_ t (k + n)] := by simp [bys, List.range_succ]
/-- block i of a text -/
def qb (t : ByteArray) (i : Nat) : Q := ⟨by_ t (4 * i), by_ t (4 * i + 1), by_ t (4 * i + 2), by_ t (4 * i + 3)⟩
theorem qb_list (t : ByteArray) (i : Nat) : (qb t i).list = bys t (4 * i) 4 := rfl
/-- into how many blocks a text is cut -/
def cutN (t : ByteArray) : Nat := if 1 ≤ t.size ∧ t.size ≤ 24 then (t.size + 3) / 4 else 0
theorem cutN_le (t : ByteArray) : cutN t ≤ 6 := by unfold cutN; split <;> omega
theorem cutN_in {t : ByteArray} (h0 : 1 ≤ t.size) (h1 : t.size ≤ 24) : cutN t = (t.size + 3) / 4 := if_pos ⟨h0, h1⟩
theorem cutN_out {t : ByteArray} (h : t.size < 1 ∨ 24 < t.size) : cutN t = 0 := if_neg (by omega)
/-- the first n blocks -/
def cutTo (t : ByteArray) (n : Nat) : List ByteArray := (List.range n).map fun i => (qb t i).str
theorem cutTo_snoc (t : ByteArray) (n : Nat) : cutTo t (n + 1) = cutTo t n ++ [(qb t n).str] := by simp [cutTo, List.range_succ]
theorem cutTo_len (t : ByteArray) (n : Nat) : (cutTo t n).length = n := by simp [cutTo]
theorem cutTo_at (t : ByteArray) {n i : Nat} (h : i < n) : (cutTo t n)[i]? = some (qb t i).str := by simp [cutTo, h]
def cut (t : ByteArray) : List ByteArray := cutTo t (cutN t)
theorem cut_len (t : ByteArray) : (cut t).length = cutN t := cutTo_len _ _
/-- the text that a program sees of a text: nothing of one that is too long -/
def fit (t : ByteArray) : ByteArray := if t.size ≤ 24 then t else ⟨#[]⟩

/-- a row of bytes, xored place by place -/
def xors (p q : ByteArray) (n : Nat) : List UInt8 := (List.range n).map fun j => by_ p j ^^^ by_ q j
theorem xors_len (p q : ByteArray) (n : Nat) : (xors p q n).length = n := by simp [xors]
theorem xors_snoc (p q : ByteArray) (n : Nat) : xors p q (n + 1) = xors p q n ++ [by_ p n ^^^ by_ q n] := by simp [xors, List.range_succ]
theorem xors_Q (p q : Q) : xors p.str q.str 4 = (p.xor q).list := rfl
end Go.Proofs.YtgihbilpimempabGreatDoor.cp

/-
  Words: a slice of the call's own, of any element of one cell; bytes of the call's own that become a text.
-/
namespace Go.Proofs.YtgihbilpimempabGreatDoor.ow
open Go.ChangeShapes Go.WideShapes Go.ChangeAt Go.RowKit
open Go.Proofs.YtgihbilpimempabGreatDoor.wd Go.Proofs.YtgihbilpimempabGreatDoor.cp

theorem infoByte : (Tryz.prog.info? 5).map (fun i => (i.zero, i.size, i.bytes)) = some (some (.int .u8 0), 1, 1) := by kernel_rfl
theorem infoStr : (Tryz.prog.info? 9).map (fun i => (i.zero, i.size, i.bytes)) = some (some (.string ⟨#[]⟩), 1, 16) := by kernel_rfl

/-- a slice of the call's own -/
def Own (t : TypeId) (w0 w : World) (v : Value) (xs : List Value) : Prop := w.ownsRow w0.heap.size t 1 v xs.length xs ∧ Below w0.heap.size w0 w
section
variable {t : TypeId} {w0 w w1 : World} {v v1 x : Value} {xs : List Value} {o : Obj}
theorem Own.nil (w : World) : Own t w w (.slice none 0 0) [] := ⟨World.ownsRow_nil _ _ _ _, Below.refl _ _⟩
theorem Own.empty (w : World) : Own t w (w.alloc (.cells #[] t)) (.slice (some ⟨w.heap.size, 0, none⟩) 0 0) [] :=
  ⟨World.ownsRow_lit w #[] 0 (Nat.le_refl _) (by unfold maxLen; omega) rfl, (Below.refl _ _).alloc (Nat.le_refl _) _⟩
theorem Own.empty_on (h : Below w0.heap.size w0 w) : Own t w0 (w.alloc (.cells #[] t)) (.slice (some ⟨w.heap.size, 0, none⟩) 0 0) [] :=
  ⟨World.ownsRow_lit w #[] 0 h.size (by unfold maxLen; omega) rfl, h.alloc h.size _⟩
theorem Own.more {n : Nat} (h : Own t w0 w v xs) (h1 : w1.ownsRow w0.heap.size t 1 v1 n (xs ++ [x])) (hg : (w.alloc o).grownBy w1 v.ownBlock) : Own t w0 w1 v1 (xs ++ [x]) := by
  obtain rfl : n = (xs ++ [x]).length := by have := h1.1; omega
  refine ⟨h1, ?_⟩
  have hs : (w.alloc o).heap.size = w.heap.size + 1 := by simp
  exact (h.2.alloc h.2.size o).grown hg (by have := h.2.size; omega) (fun k hk => (h.1.lt k hk).1)
theorem Own.later (h : Own t w0 w v xs) (hb : Below w.heap.size w w1) : Own t w0 w1 v xs := by
  refine ⟨h.1.kept (row := none) ⟨hb.os, hb.tape, hb.output, hb.size, fun i hi _ => hb.block i hi⟩ ?_, h.2.trans (hb.mono h.2.size)⟩
  cases hv : v.ownBlock with
  | none => exact .inl rfl
  | some k => exact .inr (by simp)
theorem Own.from_ (h : Own t w w1 v xs) (hb : Below w0.heap.size w0 w) : Own t w0 w1 v xs := by
  refine ⟨⟨h.1.1, ?_⟩, hb.trans (h.2.mono hb.size)⟩
  have := hb.size
  rcases h.1.2 with h' | ⟨g, cap, cur, h1, h2, h3⟩
  · exact .inl h'
  · exact .inr ⟨g, cap, cur, h1, by omega, h3⟩
theorem Own.lt (h : Own t w0 w v xs) {k : Nat} (hk : v.ownBlock = some k) : w0.heap.size ≤ k ∧ k < w.heap.size := h.1.lt k hk
theorem Own.drew (h : Own t w0 w v xs) : Own t w0 w.drew v xs := ⟨h.1, h.2.drew⟩
/-- as the walk reads it -/
theorem Own.form (h : Own t w0 w v xs) : ∃ A c, v = .slice A xs.length c ∧ (0 < xs.length → ∃ g, A = some ⟨g, 0, none⟩ ∧ w0.heap.size ≤ g ∧ g < w.heap.size ∧ ∀ i x, xs[i]? = some x → w.cell? ⟨g, i, none⟩ = some x) := by
  rcases h.1.2 with ⟨rfl, hn⟩ | ⟨g, cap, cur, rfl, hb, hh, hn, hm, hs, ht⟩
  · refine ⟨none, 0, by rw [hn], fun h => absurd h (by omega)⟩
  · refine ⟨_, cap, rfl, fun _ => ⟨g, rfl, hb, (h.1.lt g rfl).2, fun i x hx => ?_⟩⟩
    have hi : i < xs.length := (List.getElem?_eq_some_iff.1 hx).1
    rw [World.ownsRow.cellAt (g := g) (cap := cap) h.1 i (by omega), hx]
end

theorem below_drewN' {B : Nat} {a w : World} (h : Below B a w) (n : Nat) : Below B a (w.drewN n) := ⟨h.os, h.tape, h.output, h.size, h.block⟩

theorem grown_of_drew {w w1 : World} {row : Option Nat} (h : w.drew.grownBy w1 row) : w.grownBy w1 row := ⟨h.os, h.tape, h.output, h.size, h.block⟩

/-- bytes of the call's own, turned into a text -/
theorem own_text {w0 w : World} {v : Value} {l : List UInt8} (h : Own 5 w0 w v (l.map bv)) (hl : 0 < l.length) :
    ∃ g cap, v = .slice (some ⟨g, 0, none⟩) l.length cap ∧ (convert 22 9 (.slice (some ⟨g, 0, none⟩) l.length cap)).run Tryz.prog w = .ok (.string ⟨l.toArray⟩) w := by
  obtain ⟨A, c, rfl, hc⟩ := h.form
  rw [List.length_map] at hc ⊢
  obtain ⟨g, rfl, _, _, hcell⟩ := hc hl
  refine ⟨g, c, rfl, run_convert_bytes_back (P := Tryz.prog) w 22 9 5 ⟨g, 0, none⟩ c l Tryz.underlying22 Tryz.underlying5 Tryz.underlying9 (fun j hj => ?_)⟩
  have e : (⟨g, 0, none⟩ : Addr).add j = ⟨g, j, none⟩ := by unfold Addr.add; split <;> simp_all
  rw [e]
  exact hcell j _ (by simp [hj, bv])

theorem ret_int {k : IntKind} {a b : Int} (h : a = b) : Ending.returned (.int k a) = .returned (.int k b) := by rw [h]

def StrPost (w : World) (s : ByteArray) (e : Ending) (w' : World) : Prop := e = .returned (.string s) ∧ Below w.heap.size w w'
def OwnPost (t : TypeId) (w : World) (xs : List Value) (e : Ending) (w' : World) : Prop := ∃ v, e = .returned v ∧ Own t w w' v xs
end Go.Proofs.YtgihbilpimempabGreatDoor.ow

/-
  Words: slices of records. A record's shape: how many cells it has, and which they are.
-/
namespace Go.Proofs.YtgihbilpimempabGreatDoor.rl
open Go.ChangeShapes Go.WideShapes Go.ChangeAt Go.RowKit
open Go.Proofs.YtgihbilpimempabGreatDoor.wd Go.Proofs.YtgihbilpimempabGreatDoor.cp Go.Proofs.YtgihbilpimempabGreatDoor.ow

structure Shape (α : Type) where
  n : Nat
  f : α → List Value
  len : ∀ x, (f x).length = n
  one : ∀ x, ∀ u ∈ f x, u.oneCell' = true

theorem flat_at {α β : Type} {f : α → List β} {n : Nat} (hf : ∀ x, (f x).length = n) : ∀ (l : List α) (i : Nat) (x : α), l[i]? = some x → ∀ j, j < n → (l.flatMap f)[i * n + j]? = (f x)[j]?
  | [], _, _, h, _, _ => by simp at h
  | a :: l, 0, x, h, j, hj => by
    simp at h
    subst h
    rw [List.flatMap_cons, Nat.zero_mul, Nat.zero_add, List.getElem?_append_left (by rw [hf]; exact hj)]
  | a :: l, i + 1, x, h, j, hj => by
    simp at h
    rw [List.flatMap_cons, List.getElem?_append_right (by rw [hf, Nat.succ_mul]; omega), hf, show (i + 1) * n + j - n = i * n + j by rw [Nat.succ_mul]; omega]
    exact flat_at hf l i x h j hj
theorem flat_len {α β : Type} {f : α → List β} {n : Nat} (hf : ∀ x, (f x).length = n) (l : List α) : (l.flatMap f).length = l.length * n := by
  induction l with
  | nil => simp
  | cons a l ih => rw [List.flatMap_cons, List.length_append, hf, ih, List.length_cons, Nat.succ_mul]; omega
theorem flat_ones {α : Type} (S : Shape α) (l : List α) : ∀ u ∈ l.flatMap S.f, u.oneCell' = true := fun u hu => by
  obtain ⟨m, _, hm⟩ := List.mem_flatMap.mp hu
  exact S.one m u hm
theorem flat_of {α : Type} (S : Shape α) {cur : List Value} {l : List α} (hs : cur.length = l.length * S.n) (h : ∀ i x, l[i]? = some x → ∀ j u, (S.f x)[j]? = some u → cur[i * S.n + j]? = some u) : cur = l.flatMap S.f := by
  apply List.ext_getElem?
  intro j
  by_cases hj : j < l.length * S.n
  · have hpos : 0 < S.n := by
      rcases Nat.eq_zero_or_pos S.n with e | e
      · rw [e, Nat.mul_zero] at hj; omega
      · exact e
    have hi : j / S.n < l.length := (Nat.div_lt_iff_lt_mul hpos).2 hj
    have hx : l[j / S.n]? = some l[j / S.n] := List.getElem?_eq_getElem hi
    have hr : j % S.n < S.n := Nat.mod_lt _ hpos
    have e : j / S.n * S.n + j % S.n = j := by rw [Nat.mul_comm]; exact Nat.div_add_mod _ _
    have hu : (S.f l[j / S.n])[j % S.n]? = some ((S.f l[j / S.n])[j % S.n]'(by rw [S.len]; exact hr)) := List.getElem?_eq_getElem _
    have h1 := h _ _ hx _ _ hu
    have h2 := flat_at S.len l _ _ hx _ hr
    rw [e] at h1 h2
    rw [h1, h2, hu]
  · rw [List.getElem?_eq_none (by omega), List.getElem?_eq_none (by rw [flat_len S.len]; omega)]

/-- a slice of the call's own, of records -/
def OwnR {α : Type} (S : Shape α) (t : TypeId) (w0 w : World) (v : Value) (l : List α) : Prop := w.ownsRow w0.heap.size t S.n v l.length (l.flatMap S.f) ∧ Below w0.heap.size w0 w
/-- a slice that reads as records -/
def SeesR {α : Type} (S : Shape α) (w : World) (v : Value) (l : List α) : Prop :=
  ∃ A c, v = .slice A l.length c ∧ ((A = none ∧ c = 0 ∧ l = []) ∨ ∃ g, A = some ⟨g, 0, none⟩ ∧ g < w.heap.size ∧ ∀ i x, l[i]? = some x → ∀ j u, (S.f x)[j]? = some u → w.cell? ⟨g, i * S.n + j, none⟩ = some u)
section
variable {α : Type} {S : Shape α} {t : TypeId} {w0 w w1 : World} {v v1 : Value} {l l1 : List α} {o : Obj}
theorem OwnR.nil (w : World) : OwnR S t w w (.slice none 0 0) [] := ⟨World.ownsRow_nil _ _ _ _, Below.refl _ _⟩
theorem OwnR.empty (w : World) : OwnR S t w (w.alloc (.cells #[] t)) (.slice (some ⟨w.heap.size, 0, none⟩) 0 0) [] :=
  ⟨World.ownsRow_lit w #[] 0 (Nat.le_refl _) (by unfold maxLen; omega) (by simp), (Below.refl _ _).alloc (Nat.le_refl _) _⟩
theorem OwnR.later (h : OwnR S t w0 w v l) (hb : Below w.heap.size w w1) : OwnR S t w0 w1 v l := by
  refine ⟨h.1.kept (row := none) ⟨hb.os, hb.tape, hb.output, hb.size, fun i hi _ => hb.block i hi⟩ ?_, h.2.trans (hb.mono h.2.size)⟩
  cases hv : v.ownBlock with
  | none => exact .inl rfl
  | some k => exact .inr (by simp)
theorem OwnR.from_ (h : OwnR S t w w1 v l) (hb : Below w0.heap.size w0 w) : OwnR S t w0 w1 v l := by
  refine ⟨⟨h.1.1, ?_⟩, hb.trans (h.2.mono hb.size)⟩
  have := hb.size
  rcases h.1.2 with h' | ⟨g, cap, cur, h1, h2, h3⟩
  · exact .inl h'
  · exact .inr ⟨g, cap, cur, h1, by omega, h3⟩
theorem OwnR.drewN (h : OwnR S t w0 w v l) (q : Nat) : OwnR S t w0 (w.drewN q) v l := ⟨h.1, below_drewN' h.2 q⟩
theorem OwnR.lt (h : OwnR S t w0 w v l) {k : Nat} (hk : v.ownBlock = some k) : w0.heap.size ≤ k ∧ k < w.heap.size := h.1.lt k hk
theorem OwnR.sees (h : OwnR S t w0 w v l) : SeesR S w v l := by
  rcases h.1.2 with ⟨rfl, hn⟩ | ⟨g, cap, cur, rfl, hb, hh, hn, hm, hs, ht⟩
  · exact ⟨none, 0, by rw [hn], .inl ⟨rfl, rfl, List.eq_nil_of_length_eq_zero hn⟩⟩
  · refine ⟨_, cap, rfl, .inr ⟨g, rfl, (h.1.lt g rfl).2, fun i x hx j u hu => ?_⟩⟩
    have hj : j < S.n := by have := (List.getElem?_eq_some_iff.1 hu).1; rwa [S.len] at this
    have hf := flat_at S.len l i x hx j hj
    rw [hu] at hf
    have hi := (List.getElem?_eq_some_iff.1 hf).1
    rw [World.ownsRow.cellAt (g := g) (cap := cap) h.1 _ (by rwa [flat_len S.len] at hi), hf]
theorem SeesR.later (h : SeesR S w v l) (hB : Below w.heap.size w w1) : SeesR S w1 v l := by
  obtain ⟨A, c, rfl, hc⟩ := h
  refine ⟨A, c, rfl, ?_⟩
  rcases hc with hc | ⟨g, rfl, hg, hcell⟩
  · exact .inl hc
  · exact .inr ⟨g, rfl, Nat.lt_of_lt_of_le hg hB.size, fun i x hx j u hu => (hB.cell (p := ⟨g, _, none⟩) hg).trans (hcell i x hx j u hu)⟩
theorem SeesR.drewN (h : SeesR S w v l) (q : Nat) : SeesR S (w.drewN q) v l := h
theorem sees_nil (w : World) : SeesR S w (.slice none 0 0) [] := ⟨none, 0, rfl, .inl ⟨rfl, rfl, rfl⟩⟩
/-- what the walk reads of a record -/
theorem SeesR.at (h : SeesR S w v l) {i : Nat} {x : α} (hx : l[i]? = some x) :
    ∃ g c, v = .slice (some ⟨g, 0, none⟩) l.length c ∧ g < w.heap.size ∧ i < l.length ∧ ∀ j u, (S.f x)[j]? = some u → w.cell? ⟨g, i * S.n + j, none⟩ = some u := by
  obtain ⟨A, c, rfl, hc⟩ := h
  have hi := (List.getElem?_eq_some_iff.mp hx).1
  rcases hc with ⟨_, _, rfl⟩ | ⟨g, rfl, hlt, hr⟩
  · simp at hx
  · exact ⟨g, c, rfl, hlt, hi, hr i x hx⟩
/-- behind an append to a list of the call's own: another list of the call's own lies on -/
theorem OwnR.far {u : Value} {w' w2 : World} (h : OwnR S t w0 w v l) (hb : Below w.heap.size w w') (hg : w'.grownBy w2 u.ownBlock) (hu : ∀ k, u.ownBlock = some k → w.heap.size ≤ k) : OwnR S t w0 w2 v l := by
  refine ⟨(h.later hb).1.kept hg ?_, (h.later hb).2.trans ⟨hg.os, hg.tape, hg.output, hg.size, fun k hk => hg.block k (by have := h.2.size; have := hb.size; omega) (fun e => by have := hu k e.symm; have := h.2.size; omega)⟩⟩
  cases hv : v.ownBlock with
  | none => exact .inl rfl
  | some k =>
    refine .inr (fun e => ?_)
    have h1 := (h.lt hv).2
    have h2 := hu k e.symm
    omega
/-- a list that was grown -/
theorem OwnR.grew (h : OwnR S t w0 w v l) (h1 : w1.ownsRow w0.heap.size t S.n v1 l1.length (l1.flatMap S.f)) (hg : w.grownBy w1 v.ownBlock) : OwnR S t w0 w1 v1 l1 :=
  ⟨h1, h.2.trans ⟨hg.os, hg.tape, hg.output, hg.size, fun k hk => hg.block k (Nat.lt_of_lt_of_le hk h.2.size) (fun e => by have := (h.lt e.symm).1; omega)⟩⟩
theorem OwnR.alloc (h : OwnR S t w0 w v l) (o : Obj) : OwnR S t w0 (w.alloc o) v l := h.later ((Below.refl _ _).alloc (Nat.le_refl _) o)
end

/-- a slice of records from a place of its block on, or nil: what an append takes -/
def PartR {α : Type} (S : Shape α) (w : World) (A : Option Addr) (c : Nat) (l : List α) : Prop :=
  (A = none ∧ c = 0 ∧ l = []) ∨ ∃ g o, A = some ⟨g, o, none⟩ ∧ ∀ j u, (l.flatMap S.f)[j]? = some u → w.cell? ⟨g, o + j, none⟩ = some u

theorem flat_get {α : Type} (S : Shape α) : ∀ (l : List α) (j : Nat) (u : Value), (l.flatMap S.f)[j]? = some u → ∃ i x k, l[i]? = some x ∧ (S.f x)[k]? = some u ∧ j = i * S.n + k
  | [], j, u, h => by simp at h
  | a :: l, j, u, h => by
    rw [List.flatMap_cons] at h
    by_cases hj : j < S.n
    · rw [List.getElem?_append_left (by rw [S.len]; exact hj)] at h
      exact ⟨0, a, j, rfl, h, by omega⟩
    · rw [List.getElem?_append_right (by rw [S.len]; omega), S.len] at h
      obtain ⟨i, x, k, h1, h2, h3⟩ := flat_get S l _ u h
      exact ⟨i + 1, x, k, h1, h2, by rw [Nat.succ_mul]; omega⟩
theorem SeesR.part {α : Type} {S : Shape α} {w : World} {A : Option Addr} {n c : Nat} {l : List α} (h : SeesR S w (.slice A n c) l) : PartR S w A c l := by
  obtain ⟨A', c', e, hc⟩ := h
  injection e with e1 e2 e3
  subst e1; subst e3
  rcases hc with hc | ⟨g, rfl, hg, hcell⟩
  · exact .inl hc
  · refine .inr ⟨g, 0, rfl, fun j u hu => ?_⟩
    obtain ⟨i, x, k, h1, h2, rfl⟩ := flat_get S l j u hu
    rw [Nat.zero_add]
    exact hcell i x h1 k u h2

theorem wp_append_recs {α : Type} (S : Shape α) (hS : 0 < S.n) {w : World} {o : Oper} {a : Act} {K : Act → World → Prop} {Q : Exit → Act → World → Prop} (s x : Operand) (t : TypeId)
    (ho : o.op = .call { callee := .builtin .append, args := #[s, x], argTypes := #[t, t] })
    (base : Nat) (e : TypeId) (i : TypeInfo) (z : Value) (bytes : Nat) (ht : Tryz.prog.underlying t = some (.slice e)) (hi : Tryz.prog.info? e = some i) (hz : i.zero = some z)
    (hsize : i.size = S.n) (hby : i.bytes = bytes) (hzs : z.cells.size = S.n)
    (v : Value) (n : Nat) (xs : List Value) (hs : a.eval s = v) (hown : w.ownsRow base e S.n v n xs)
    (A : Option Addr) (m c : Nat) (l : List α) (hx : a.eval x = .slice A m c) (hm : m = l.length) (hP : PartR S w A c l)
    (h63 : n + l.length ≤ maxLen) (hbytes : (n + l.length) * bytes ≤ 140737488355328) (hbase : base ≤ w.heap.size)
    (h : ∀ v' w', w'.ownsRow base e S.n v' (n + l.length) (xs ++ l.flatMap S.f) → w.grownBy w' v.ownBlock → K (a.put o.dst v') w') : o.wp Tryz.prog a w K Q := by
  subst hm
  rcases hP with ⟨rfl, rfl, rfl⟩ | ⟨g, off, rfl, hc⟩
  · have hrun := run_append_owned_none (P := Tryz.prog) (w := w) base t o.type e i S.n ht hi v n xs hown
    have hk := h v w (by simpa using hown) ⟨rfl, rfl, rfl, Nat.le_refl _, fun _ _ _ => rfl⟩
    unfold Oper.wp
    simp at hx
    simp [execOp, ho, resolve, invoke, builtin, hs, hx, hrun, Result.andThen]
    exact hk
  · exact wp_append_own w s x t ho base e i z S.n bytes ht hi hz hsize hby hzs hS v n xs hs hown ⟨g, off, none⟩ l.length c (l.flatMap S.f) hx (by rw [flat_len S.len]) (fun j u hu => by
      have hadd : (⟨g, off, none⟩ : Addr).add j = ⟨g, off + j, none⟩ := by unfold Addr.add; split <;> simp_all
      rw [hadd]; exact hc j u hu) (flat_ones S l) h63 hbytes hbase (fun v' w' h1 h2 _ => h v' w' h1 h2)

theorem wpList_append_recs {α : Type} (S : Shape α) (hS : 0 < S.n) {w : World} {ops : Array Oper} {rest : List Oper} {o : Oper} {a : Act} {Q : Exit → Act → World → Prop} (hw : Region.wanted o (yielded ops a.tmps) = true) (s x : Operand) (t : TypeId)
    (ho : o.op = .call { callee := .builtin .append, args := #[s, x], argTypes := #[t, t] })
    (base : Nat) (e : TypeId) (i : TypeInfo) (z : Value) (bytes : Nat) (ht : Tryz.prog.underlying t = some (.slice e)) (hi : Tryz.prog.info? e = some i) (hz : i.zero = some z)
    (hsize : i.size = S.n) (hby : i.bytes = bytes) (hzs : z.cells.size = S.n)
    (v : Value) (n : Nat) (xs : List Value) (hs : a.eval s = v) (hown : w.ownsRow base e S.n v n xs)
    (A : Option Addr) (m c : Nat) (l : List α) (hx : a.eval x = .slice A m c) (hm : m = l.length) (hP : PartR S w A c l)
    (h63 : n + l.length ≤ maxLen) (hbytes : (n + l.length) * bytes ≤ 140737488355328) (hbase : base ≤ w.heap.size)
    (h : ∀ v' w', w'.ownsRow base e S.n v' (n + l.length) (xs ++ l.flatMap S.f) → w.grownBy w' v.ownBlock → wpList Tryz.prog ops Q rest (a.put o.dst v') w') : wpList Tryz.prog ops Q (o :: rest) a w := by
  unfold wpList
  rw [if_pos hw]
  exact .inl (wp_append_recs S hS s x t ho base e i z bytes ht hi hz hsize hby hzs v n xs hs hown A m c l hx hm hP h63 hbytes hbase h)

/-- the first k records lie in block g, which has room for n -/
def Fill {α : Type} (S : Shape α) (t : TypeId) (g n : Nat) (l : List α) (k : Nat) (w : World) : Prop :=
  ∃ cur, Blk w g t cur ∧ cur.size = n * S.n ∧ ∀ i x, i < k → l[i]? = some x → ∀ j u, (S.f x)[j]? = some u → cur[i * S.n + j]? = some u
/-- cells written one behind the other -/
def putAll (w : World) (g o : Nat) : List Value → World
  | [] => w
  | u :: us => putAll (w.setCell ⟨g, o, none⟩ u) g (o + 1) us
theorem putAll_blk {w : World} {g : Nat} {t : TypeId} : ∀ {cur : Array Value} (us : List Value) (o : Nat), Blk w g t cur → ∃ cur', Blk (putAll w g o us) g t cur' ∧ cur'.size = cur.size ∧ (∀ j, j < o ∨ o + us.length ≤ j → cur'[j]? = cur[j]?) ∧ (o + us.length ≤ cur.size → ∀ j u, us[j]? = some u → cur'[o + j]? = some u)
  | cur, [], o, h => ⟨cur, h, rfl, fun _ _ => rfl, fun _ j u hu => by simp at hu⟩
  | cur, x :: us, o, h => by
    have h1 := h.put o x
    obtain ⟨cur', a1, a2, a3, a4⟩ := putAll_blk (w := w.setCell ⟨g, o, none⟩ x) us (o + 1) h1
    refine ⟨cur', a1, by simpa using a2, fun j hj => ?_, fun hs j u hu => ?_⟩
    · rw [a3 j (by simp at hj; omega), Array.getElem?_setIfInBounds, if_neg (by simp at hj; omega)]
    · cases j with
      | zero =>
        simp at hu
        subst hu
        rw [a3 _ (by omega), Nat.add_zero, Array.getElem?_setIfInBounds, if_pos rfl, if_pos (by simp at hs; omega)]
      | succ j =>
        have := a4 (by simp at hs ⊢; omega) j u (by simpa using hu)
        rw [show o + (j + 1) = o + 1 + j by omega]
        exact this
theorem putAll_below {B g : Nat} (hg : B ≤ g) : ∀ (us : List Value) (o : Nat) {w0 w : World}, Below B w0 w → Below B w0 (putAll w g o us)
  | [], _, _, _, h => h
  | u :: us, o, _, _, h => putAll_below hg us (o + 1) (h.setCell (p := ⟨g, o, none⟩) hg u)
section
variable {α : Type} {S : Shape α} {t : TypeId} {g n k : Nat} {l : List α} {w w' w0 : World}
theorem Fill.later (h : Fill S t g n l k w) (hB : Below w.heap.size w w') : Fill S t g n l k w' := by
  obtain ⟨cur, h1, h2, h3⟩ := h
  exact ⟨cur, h1.below hB h1.lt, h2, h3⟩
theorem Fill.put (h : Fill S t g n l k w) (hk : k < n) {x : α} (hx : l[k]? = some x) : Fill S t g n l (k + 1) (putAll w g (k * S.n) (S.f x)) := by
  obtain ⟨cur, h1, h2, h3⟩ := h
  have hm : (k + 1) * S.n ≤ n * S.n := Nat.mul_le_mul_right _ hk
  rw [Nat.succ_mul] at hm
  obtain ⟨cur', a1, a2, a3, a4⟩ := putAll_blk (S.f x) (k * S.n) h1
  refine ⟨cur', a1, by omega, fun i y hi hy j u hu => ?_⟩
  have hj : j < S.n := by have := (List.getElem?_eq_some_iff.1 hu).1; rwa [S.len] at this
  by_cases e : i = k
  · subst e
    rw [hx] at hy
    injection hy with hy
    subst hy
    exact a4 (by rw [S.len]; omega) j u hu
  · have hlt : (i + 1) * S.n ≤ k * S.n := Nat.mul_le_mul_right _ (by omega)
    rw [Nat.succ_mul] at hlt
    rw [a3 _ (.inl (by omega))]
    exact h3 i y (by omega) hy j u hu
theorem Fill.cell (h : Fill S t g n l k w) (hk : k < n) {j : Nat} (hj : j < S.n) : (∃ x, w.cell? ⟨g, k * S.n + j, none⟩ = some x) ∧ w.frozen? ⟨g, k * S.n + j, none⟩ = false := by
  obtain ⟨cur, h1, h2, h3⟩ := h
  have hm : (k + 1) * S.n ≤ n * S.n := Nat.mul_le_mul_right _ hk
  rw [Nat.succ_mul] at hm
  refine ⟨⟨cur[k * S.n + j]'(by omega), ?_⟩, h1.frozen _⟩
  rw [h1.cell]; exact Array.getElem?_eq_getElem (by omega)
theorem Fill.own (h : Fill S t g l.length l l.length w) (hg : w0.heap.size ≤ g) (hB : Below w0.heap.size w0 w) (hl : l.length ≤ maxLen) : OwnR S t w0 w (.slice (some ⟨g, 0, none⟩) l.length l.length) l := by
  obtain ⟨cur, h1, h2, h3⟩ := h
  have hf : cur.toList = l.flatMap S.f := flat_of S (by simpa using h2) (fun i x hx j u hu => by
    have := h3 i x (List.getElem?_eq_some_iff.mp hx).1 hx j u hu
    simpa using this)
  refine ⟨⟨by rw [flat_len S.len], .inr ⟨g, l.length, cur, rfl, hg, h1, Nat.le_refl _, hl, by omega, ?_⟩⟩, hB⟩
  rw [hf, List.take_of_length_le (by rw [flat_len S.len]; exact Nat.le_refl _)]
end
end Go.Proofs.YtgihbilpimempabGreatDoor.rl

