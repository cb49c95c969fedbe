/-
  Contracts of impl.search at messages and at marks, with the closure of impl.find.
-/
import Derived.Test.YtgihbilpimempabIMark
import Derived.Test.YtgihbilpimempabSKeep1
namespace Go.Proofs.Ytgihbilpimempab.kp
open Go.ChangeShapes Go.WideShapes Go.ChangeAt Go.RowKit
open Go.Proofs.Ytgihbilpimempab.wd Go.Proofs.Ytgihbilpimempab.ow Go.Proofs.Ytgihbilpimempab.rl Go.Proofs.Ytgihbilpimempab.ok Go.Proofs.Ytgihbilpimempab.nb Go.Proofs.Ytgihbilpimempab.nx

def IdxPost (w : World) (i : Nat) (b : Bool) (e : Ending) (w' : World) : Prop := e = .returned (.tuple #[.int .i64 i, .bool b]) ∧ Below w.heap.size w w'
theorem mk_any_at {α : Type} {p : α → Bool} {l : List α} {k : Nat} {x : α} (hx : l[k]? = some x) (hp : p x = true) : l.any p = true := List.any_eq_true.2 ⟨x, List.mem_of_getElem? hx, hp⟩
theorem findIdx_end {α : Type} {p : α → Bool} {l : List α} {k : Nat} (h : (l.take k).any p = false) (hk : l.length ≤ k) : l.findIdx p = l.length ∧ l.any p = false := by
  rw [List.take_of_length_le hk] at h
  refine ⟨?_, h⟩
  rw [List.findIdx_eq_length]
  intro y hy
  rw [List.any_eq_false] at h
  simpa using h y hy

/-- what a closure over a captured mark says of a record -/
def PredM (g b : Nat) (w : World) (l : List Mk) (p : Mk → Bool) : Prop := ∀ V x, Below w.heap.size w V → x ∈ l → Calls Try.prog g #[mark x.f x.n x.u, .pointer (some ⟨b, 0, none⟩)] V (BoolK V (p x))
def PredN (g b : Nat) (w : World) (l : List Nt) (p : Nt → Bool) : Prop := ∀ V x, Below w.heap.size w V → x ∈ l → Calls Try.prog g #[note x.f x.n x.t x.u x.s, .pointer (some ⟨b, 0, none⟩)] V (BoolK V (p x))

set_option maxRecDepth 100000 in
set_option maxHeartbeats 800000 in
theorem srch_hasM (w : World) (v : Value) (l : List Mk) (h : SeesMk w v l) (hl : l.length ≤ 1048576) (b : Nat) (p : Mk → Bool) (hp : PredM 70 b w l p) :
    Calls Try.prog 69 #[v, .func (.func 70) #[] #[.pointer (some ⟨b, 0, none⟩)]] w (IdxPost w (l.findIdx p) (l.any p)) := by
  have HP := Lib.hid hp
  have HS := Lib.hid h
  obtain ⟨A, c, rfl, _⟩ := h
  clear hp
  go_enter Try.func69, Try.ntmps69
  go_wp2
  go_loopw [10] (fun i wr => ∃ k : Nat, k ≤ l.length ∧ i = .int .i64 k ∧ Hid ((l.take k).any p = false) ∧ Below w.heap.size w wr) (fun i _ => (l.length + 1 : Nat) - (intOf i).toNat)
  case atStart => exact ⟨0, by omega, rfl, rfl, Below.refl _ _⟩
  case round =>
    obtain ⟨k, hk, rfl, HA, hB⟩ := hrel
    by_cases hlt : k < l.length
    · have hx : l[k]? = some l[k] := List.getElem?_eq_getElem hlt
      have hm := List.getElem_mem hlt
      have hc := mark_at (HS.out.later hB) hx
      generalize l[k] = y at hx hm hc
      obtain ⟨g, c', e, hg, _, t0, t1, t2⟩ := hc
      injection e with e1 e2 e3
      subst e1; subst e3
      have hk1 : (k : Int) < (l.length : Int) := by omega
      have HX := Lib.hid hx
      have HM := Lib.hid hm
      have HB := Lib.hid hB
      clear hx hm hB
      go_wp2_with fail
      have hB0 := HB.out.alloc HB.out.size (.cells #[.int .i64 y.f, .int .i64 y.n, .int .i64 y.u] 60)
      refine (HP.out _ y hB0 HM.out).mono ?_
      rintro e w2 ⟨rfl, hB2⟩
      have HB2 := Lib.hid (hB0.trans (hB2.mono hB0.size))
      clear hB2 hB0 t0 t1 t2
      cases hq : p y with
      | true =>
        have HI := Lib.hid (findIdx_first HA.out HX.out hq)
        have HT := Lib.hid (mk_any_at HX.out hq)
        clear hq
        go_wp2
        go_ret2
        exact ⟨by rw [HI.out, HT.out]; rfl, HB2.out⟩
      | false =>
        have HN := Lib.hid (none_on HA.out HX.out hq)
        clear hq
        go_wp2
        go_roundw
        case rel => exact ⟨k + 1, by omega, by go_num, HN, HB2.out⟩
        case measure => simp [intOf]; omega
    · obtain ⟨e1, e2⟩ := findIdx_end HA.out (by omega)
      have HE := Lib.hid e1
      have HF := Lib.hid e2
      clear e1 e2
      have hk1 : ¬ (k : Int) < (l.length : Int) := by omega
      go_wp2
      go_ret2
      exact ⟨by rw [HE.out, HF.out]; rfl, hB⟩
end Go.Proofs.Ytgihbilpimempab.kp
