/-
  Contracts of impl.search at limits and at bytes, and of impl.isUnprintable.
-/
import Derived.Test.YtgihbilpimempabOkPlain
import Derived.Test.YtgihbilpimempabLim
import Derived.Test.YtgihbilpimempabWords
namespace Go.Proofs.Ytgihbilpimempab.ok
open Go.ChangeShapes Go.WideShapes Go.ChangeAt Go.RowKit
open Go.Proofs.Ytgihbilpimempab.nb Go.Proofs.Ytgihbilpimempab.li Go.Proofs.Ytgihbilpimempab.wd

theorem unpr_any (c : UInt8) (w : World) :
    Calls Try.prog 66 #[.int .u8 (c.toNat : Int)] w fun e w' => e = .returned (.bool (!pr c)) ∧ w = w' := by
  by_cases p0 : (c.toNat : Int) < 32
  · rw [pr_f (.inl p0)]
    go_enter Try.func66, Try.ntmps66
    go_wp2
    go_ret
    exact ⟨rfl, rfl⟩
  · by_cases p1 : 126 < (c.toNat : Int)
    · rw [pr_f (.inr p1)]
      go_enter Try.func66, Try.ntmps66
      go_wp2
      go_ret
      exact ⟨rfl, rfl⟩
    · rw [pr_t (by omega) (by omega)]
      go_enter Try.func66, Try.ntmps66
      go_wp2
      go_ret
      exact ⟨rfl, rfl⟩

/-- a limit: its number, the least, the most -/
abbrev L3 := Int × Int × Int
def l3c (x : L3) : List Value := [.int .i64 x.1, .int .i64 x.2.1, .int .i64 x.2.2]
def fits (x : L3) : Bool := inB x.1 x.2.1 x.2.2
/-- a block that reads as limits -/
def Limits (w : World) (g : Nat) (l : List L3) : Prop :=
  g < w.heap.size ∧ ∀ i x, l[i]? = some x → w.cell? ⟨g, i * 3, none⟩ = some (.int .i64 x.1) ∧ w.cell? ⟨g, i * 3 + 1, none⟩ = some (.int .i64 x.2.1) ∧ w.cell? ⟨g, i * 3 + 2, none⟩ = some (.int .i64 x.2.2)
theorem Limits.later {w w' : World} {g : Nat} {l : List L3} (h : Limits w g l) (hB : Below w.heap.size w w') : Limits w' g l :=
  ⟨Nat.lt_of_lt_of_le h.1 hB.size, fun i x hx => ⟨(hB.cell (p := ⟨g, _, none⟩) h.1).trans (h.2 i x hx).1, (hB.cell (p := ⟨g, _, none⟩) h.1).trans (h.2 i x hx).2.1, (hB.cell (p := ⟨g, _, none⟩) h.1).trans (h.2 i x hx).2.2⟩⟩

def SearchPost (w : World) (b : Bool) (e : Ending) (w' : World) : Prop := ∃ i : Int, e = .returned (.tuple #[.int .i64 i, .bool b]) ∧ Below w.heap.size w w'

theorem searchL (w : World) (g c : Nat) (l : List L3) (h : Limits w g l) (hl : l.length ≤ 100) :
    Calls Try.prog 38 #[.slice (some ⟨g, 0, none⟩) l.length c, .func (.func 22) #[] #[]] w (SearchPost w (!(l.all fits))) := by
  have H := Lib.hid h
  clear h
  go_enter Try.func38, Try.ntmps38
  go_wp2
  go_loopw [10] (fun i wr => ∃ k : Nat, k ≤ l.length ∧ i = .int .i64 k ∧ Hid ((l.take k).all fits = true) ∧ Below w.heap.size w wr) (fun i _ => l.length - (intOf i).toNat)
  case atStart => exact ⟨0, by omega, rfl, rfl, Below.refl _ _⟩
  case round =>
    obtain ⟨k, hk, rfl, HA, hB⟩ := hrel
    by_cases hlt : k < l.length
    · have hx : l[k]? = some l[k] := List.getElem?_eq_getElem hlt
      obtain ⟨r0, r1, r2⟩ := (H.out.later hB).2 k _ hx
      have hg := (H.out.later hB).1
      have HT := Lib.hid (show l.take (k + 1) = l.take k ++ [l[k]] by rw [List.take_succ_eq_append_getElem hlt])
      have hm := List.getElem_mem hlt
      generalize l[k] = x at r0 r1 r2 HT hm
      obtain ⟨v, a, b⟩ := x
      clear hx
      go_wp2_with fail
      refine (outside_any v a b _).mono ?_
      rintro e w2 ⟨rfl, hB2⟩
      have hB3 := hB.trans ((((Below.refl wr.heap.size wr).alloc (Nat.le_refl _) _).trans (hB2.mono (by simp))).mono hB.size)
      cases hf : inB v a b with
      | true =>
        have R := Lib.hid (show (l.take (k + 1)).all fits = true by rw [HT.out, List.all_append, HA.out]; simp [fits, hf])
        clear hB2
        go_wp2
        go_roundw
        case rel => exact ⟨k + 1, by omega, by go_num, R, hB3⟩
        case measure => simp [intOf]; omega
      | false =>
        have R := Lib.hid (show l.all fits = false from List.all_eq_false.2 ⟨_, hm, by simp [fits, hf]⟩)
        clear hB2
        go_wp2
        go_ret2
        exact ⟨k, by rw [R.out]; rfl, hB3⟩
    · have R := Lib.hid (show l.all fits = true by have := HA.out; rwa [List.take_of_length_le (by omega)] at this)
      go_wp2
      go_ret2
      exact ⟨l.length, by rw [R.out]; rfl, hB⟩

/-- a block that reads as bytes -/
def ByteRow (w : World) (g : Nat) (s : ByteArray) : Prop :=
  g < w.heap.size ∧ ∀ i (h : i < s.size), w.cell? ⟨g, i, none⟩ = some (.int .u8 (s[i].toNat : Int))

theorem searchB (w : World) (g c : Nat) (s : ByteArray) (h : ByteRow w g s) (hl : s.size ≤ 100) :
    Calls Try.prog 65 #[.slice (some ⟨g, 0, none⟩) s.size c, .func (.func 66) #[] #[]] w (SearchPost w (!(allPr s))) := by
  have H := Lib.hid h.2
  clear h
  go_enter Try.func65, Try.ntmps65
  go_wp2
  go_loop [10] (fun i => ∃ k : Nat, k ≤ s.size ∧ i = .int .i64 k ∧ Hid ((s.data.toList.take k).all pr = true)) (fun i => s.size - (intOf i).toNat)
  case atStart => exact ⟨0, by omega, rfl, rfl⟩
  case round =>
    obtain ⟨k, hk, rfl, HA⟩ := hrel
    by_cases hlt : k < s.size
    · have r0 := H.out k hlt
      cases hf : pr s[k] with
      | true =>
        have R := Lib.hid (all_more hlt HA.out hf)
        go_wp2_with fail
        refine (unpr_any s[k] _).mono ?_
        rintro e w' ⟨rfl, rfl⟩
        go_wp2
        go_round
        case rel => exact ⟨k + 1, by omega, by go_num, R⟩
        case measure => simp [intOf]; omega
      | false =>
        have R := Lib.hid (all_not hlt hf)
        go_wp2_with fail
        refine (unpr_any s[k] _).mono ?_
        rintro e w' ⟨rfl, rfl⟩
        go_wp2
        go_ret2
        exact ⟨k, by rw [R.out]; rfl, Below.refl _ _⟩
    · have R := Lib.hid (all_whole (by omega) HA.out)
      go_wp2
      go_ret2
      exact ⟨s.size, by rw [R.out]; rfl, Below.refl _ _⟩
end Go.Proofs.Ytgihbilpimempab.ok
