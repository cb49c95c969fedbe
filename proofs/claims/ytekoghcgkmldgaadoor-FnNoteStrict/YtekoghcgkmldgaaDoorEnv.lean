/-
  What the library's variables hold, carried over calls that turn nothing old; strconv.Itoa and strconv.Atoi in our words.
-/
import Derived.Test.YtekoghcgkmldgaaDoorDec
import Derived.Test.YtekoghcgkmldgaaDoorShelf
import Derived.Lib.AppendIntMem
import Derived.Lib.AtoiErrMem
namespace Go.Proofs.YtekoghcgkmldgaaDoor.dc
open Go.ChangeShapes Go.WideShapes Go.ChangeAt Go.RowKit
open Go.Proofs.YtekoghcgkmldgaaDoor.nb Go.Proofs.YtekoghcgkmldgaaDoor.ok Go.Proofs.YtekoghcgkmldgaaDoor.wd

def Tab (w : World) : Prop := Lib.TabIs Tryd.prog w "internal/strconv.uint64pow10" .u64 Lib.pow10Tab
theorem Tab.later {w w' : World} (h : Tab w) (hb : Below w.heap.size w w') : Tab w' := Lib.tabBelow_of_tabIs h w' hb

theorem var_later {w w' : World} {n : String} {cs : Array Value} (h : w.var? Tryd.prog n = some cs) (hb : Below w.heap.size w w') : w'.var? Tryd.prog n = some cs := by
  unfold World.var? at *
  cases hg : Tryd.prog.globalNamed n with
  | none => simp [hg] at h
  | some g =>
    simp only [hg, Option.bind_some] at h ⊢
    have hlt : g < w.heap.size := by
      rcases Nat.lt_or_ge g w.heap.size with h' | h'
      · exact h'
      · rw [Array.getElem?_eq_none h'] at h; simp at h
    rw [hb.block g hlt]
    exact h

/-- the two errors of strconv are laid -/
def Errs (w : World) : Prop := (∃ tp p, w.var? Tryd.prog "strconv.ErrSyntax" = some #[.iface tp p]) ∧ ∃ tp p, w.var? Tryd.prog "strconv.ErrRange" = some #[.iface tp p]
theorem Errs.later {w w' : World} (h : Errs w) (hb : Below w.heap.size w w') : Errs w' := by
  obtain ⟨⟨a, b, c⟩, d, e, f⟩ := h
  exact ⟨⟨a, b, var_later c hb⟩, d, e, var_later f hb⟩

theorem below_grow (w : World) (k : Nat) (os : Array Obj) : Below w.heap.size w (Sort.grow (w.drewN k) os) :=
  ⟨rfl, rfl, rfl, by simp [Sort.grow, World.drewN], fun i hi => by
    show (w.heap ++ os)[i]? = w.heap[i]?
    rw [Array.getElem?_append_left hi]⟩

theorem itoa_any (n : Int) (h0 : 0 ≤ n) (h1 : n ≤ 999) (w : World) (h : Tab w) :
    Calls Tryd.prog 24 #[.int .i64 n] w (StrPost w (str (dl n))) := by
  refine (Tryd.strconv_Itoa n (by omega) (by omega) w h).mono ?_
  rintro e w' ⟨rfl, k, os, rfl⟩
  exact ⟨by rw [itoa_dl h0]; rfl, below_grow w k os⟩

/-- what Atoi answers, its error aside -/
def atoiV (l : List UInt8) : Int :=
  match Lib.atoiAll l with
  | .ok v => v
  | .range => Lib.atoiSat l
  | _ => 0
theorem atoiV_dl {n : Int} (h0 : 0 ≤ n) (h1 : n ≤ 999) : atoiV (dl n) = n := by unfold atoiV; rw [atoi_dl h0 h1]

def AtoiPost (w : World) (l : List UInt8) (e : Ending) (w' : World) : Prop := ∃ x, e = .returned (.tuple #[.int .i64 (atoiV l), x]) ∧ Below w.heap.size w w'

theorem atoi_any (s : ByteArray) (hs : s.size ≤ 8388608) (w : World) (h : Errs w) :
    Calls Tryd.prog 40 #[.string s] w (AtoiPost w s.data.toList) := by
  obtain ⟨⟨tp, p, hv⟩, tq, q, hr⟩ := h
  cases ha : Lib.atoiAll s.data.toList
  case ok v =>
    refine (Tryd.strconv_Atoi_ok s (by omega) v ha w).mono ?_
    rintro e w' ⟨rfl, hw⟩
    refine ⟨_, by unfold atoiV; rw [ha], ?_⟩
    rcases hw with rfl | ⟨t, rfl⟩
    · exact Below.refl _ _
    · exact Lib.bytesWorld_below _ _ _
  case range =>
    refine (Tryd.strconv_Atoi_range_var s (by omega) ha tq q w hr).mono ?_
    rintro e w' ⟨N, rfl, _, _, hB⟩
    exact ⟨_, by unfold atoiV; rw [ha], hB⟩
  -- what is left: the string is no numeral
  have hc := Any.strconv_Atoi_syntax_var Tryd.laysC172 s (by omega) ha tp p w hv
  refine Calls.mono (P := Tryd.prog) (f := 40) hc ?_
  rintro e w' ⟨N, rfl, _, _, hB⟩
  exact ⟨_, by unfold atoiV; rw [ha], hB⟩
end Go.Proofs.YtekoghcgkmldgaaDoor.dc
