/-
  Contracts of impl.search at limits and at bytes, and of impl.isUnprintable.
-/
import Derived.Test.YtgihbilpimempaaOkPlain
import Derived.Test.YtgihbilpimempaaLim
import Derived.Test.YtgihbilpimempaaWords
namespace Go.Proofs.Ytgihbilpimempaa.ok
open Go.ChangeShapes Go.WideShapes Go.ChangeAt Go.RowKit
open Go.Proofs.Ytgihbilpimempaa.nb Go.Proofs.Ytgihbilpimempaa.li Go.Proofs.Ytgihbilpimempaa.wd

/-- a limit: its number, the least, the most -/
abbrev L3 := Int × Int × Int
def l3c (x : L3) : List Value := [.int .i64 x.1, .int .i64 x.2.1, .int .i64 x.2.2]
def fits (x : L3) : Bool := inB x.1 x.2.1 x.2.2
/-- a block that reads as limits -/
def Limits (w : World) (g : Nat) (l : List L3) : Prop :=
  g < w.heap.size ∧ ∀ i x, l[i]? = some x → w.cell? ⟨g, i * 3, none⟩ = some (.int .i64 x.1) ∧ w.cell? ⟨g, i * 3 + 1, none⟩ = some (.int .i64 x.2.1) ∧ w.cell? ⟨g, i * 3 + 2, none⟩ = some (.int .i64 x.2.2)
theorem Limits.later {w w' : World} {g : Nat} {l : List L3} (h : Limits w g l) (hB : Below w.heap.size w w') : Limits w' g l :=
  ⟨Nat.lt_of_lt_of_le h.1 hB.size, fun i x hx => ⟨(hB.cell (p := ⟨g, _, none⟩) h.1).trans (h.2 i x hx).1, (hB.cell (p := ⟨g, _, none⟩) h.1).trans (h.2 i x hx).2.1, (hB.cell (p := ⟨g, _, none⟩) h.1).trans (h.2 i x hx).2.2⟩⟩

def SearchPost (w : World) (b : Bool) (e : Ending) (w' : World) : Prop := ∃ i : Int, e = .returned (.tuple #[.int .i64 i, .bool b]) ∧ Below w.heap.size w w'

theorem searchL (w : World) (g c : Nat) (l : List L3) (h : Limits w g l) (hl : l.length ≤ 100) :
    Calls Try.prog 45 #[.slice (some ⟨g, 0, none⟩) l.length c, .func (.func 35) #[] #[]] w (SearchPost w (!(l.all fits))) := by
  have H := Lib.hid h
  clear h
  go_enter Try.func45, Try.ntmps45
  go_wp2
  go_loopw [10] (fun i wr => ∃ k : Nat, k ≤ l.length ∧ i = .int .i64 k ∧ Hid ((l.take k).all fits = true) ∧ Below w.heap.size w wr) (fun i _ => l.length - (intOf i).toNat)
  case atStart => exact ⟨0, by omega, rfl, rfl, Below.refl _ _⟩
  case round =>
    obtain ⟨k, hk, rfl, HA, hB⟩ := hrel
    by_cases hlt : k < l.length
    · have hx : l[k]? = some l[k] := List.getElem?_eq_getElem hlt
      obtain ⟨r0, r1, r2⟩ := (H.out.later hB).2 k _ hx
      have hg := (H.out.later hB).1
      have HT := Lib.hid (show l.take (k + 1) = l.take k ++ [l[k]] by rw [List.take_succ_eq_append_getElem hlt])
      have hm := List.getElem_mem hlt
      generalize l[k] = x at r0 r1 r2 HT hm
      obtain ⟨v, a, b⟩ := x
      clear hx
      go_wp2_with fail
      refine (outside_any v a b _).mono ?_
      rintro e w2 ⟨rfl, hB2⟩
      have hB3 := hB.trans ((((Below.refl wr.heap.size wr).alloc (Nat.le_refl _) _).trans (hB2.mono (by simp))).mono hB.size)
      cases hf : inB v a b with
      | true =>
        have R := Lib.hid (show (l.take (k + 1)).all fits = true by rw [HT.out, List.all_append, HA.out]; simp [fits, hf])
        clear hB2
        go_wp2
        go_roundw
        case rel => exact ⟨k + 1, by omega, by go_num, R, hB3⟩
        case measure => simp [intOf]; omega
      | false =>
        have R := Lib.hid (show l.all fits = false from List.all_eq_false.2 ⟨_, hm, by simp [fits, hf]⟩)
        clear hB2
        go_wp2
        go_ret2
        exact ⟨k, by rw [R.out]; rfl, hB3⟩
    · have R := Lib.hid (show l.all fits = true by have := HA.out; rwa [List.take_of_length_le (by omega)] at this)
      go_wp2
      go_ret2
      exact ⟨l.length, by rw [R.out]; rfl, hB⟩

/-- a block that reads as bytes -/
def ByteRow (w : World) (g : Nat) (s : ByteArray) : Prop :=
  g < w.heap.size ∧ ∀ i (h : i < s.size), w.cell? ⟨g, i, none⟩ = some (.int .u8 (s[i].toNat : Int))

end Go.Proofs.Ytgihbilpimempaa.ok
