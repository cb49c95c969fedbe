/-
  Contracts of the laws' own helpers over what a keeper has, come in: szNoteS, szMarkS, szKeep; toNoteS, toMarkS, toKeep.
-/
import Derived.Test.YtgihbilpimempabKeepIn
import Derived.Test.YtgihbilpimempabNoteIn
import Derived.OwnWalk
namespace Go.Proofs.Ytgihbilpimempab.kp
open Go.ChangeShapes Go.WideShapes Go.ChangeAt Go.RowKit
open Go.Proofs.Ytgihbilpimempab.wd Go.Proofs.Ytgihbilpimempab.ow Go.Proofs.Ytgihbilpimempab.rl Go.Proofs.Ytgihbilpimempab.ok

def SizesPost (w : World) (room : Int) (n : Nat) (e : Ending) (w' : World) : Prop := ∃ r : Int, e = .returned (.int .i64 r) ∧ -1 ≤ r ∧ r ≤ room ∧ (0 ≤ r → n ≤ 1048576) ∧ Below w.heap.size w w'

theorem size_le {room : Int} {s : ByteArray} (h0 : 0 ≤ room) : -1 ≤ (if room < (s.size : Int) then (-1 : Int) else room - s.size) ∧ (if room < (s.size : Int) then (-1 : Int) else room - s.size) ≤ room := by split <;> omega

set_option maxRecDepth 100000 in
set_option maxHeartbeats 1600000 in
theorem szN_any (w : World) (v : Value) (l : List Nt) (h : InR ntS w v l) (hz : ∀ x ∈ l, x.s.size ≤ maxLen) (room : Int) (h0 : 0 ≤ room) (h1 : room ≤ 1048576) :
    Calls Try.prog 29 #[v, .int .i64 room] w (SizesPost w room l.length) := by
  have HS := Lib.hid h
  obtain ⟨A, c, rfl, hm, _⟩ := h
  have hm' : l.length ≤ 9223372036854775807 := hm
  have HZ := Lib.hid hz
  clear hm hz
  by_cases hl : room < l.length
  · go_enter Try.func29, Try.ntmps29
    go_wp2
    go_ret
    exact ⟨_, rfl, by omega, by omega, by omega, Below.refl _ _⟩
  · go_enter Try.func29, Try.ntmps29
    go_wp2
    go_loopw [1, 5] (fun r i wr => ∃ (x : Int) (k : Nat), k ≤ l.length ∧ i = .int .i64 k ∧ r = .int .i64 x ∧ 0 ≤ x ∧ x ≤ room ∧ Below w.heap.size w wr) (fun _ i _ => (l.length + 1 : Nat) - (intOf i).toNat)
    case atStart => exact ⟨_, 0, by omega, rfl, rfl, by omega, by omega, Below.refl _ _⟩
    case round =>
      obtain ⟨x, k, hk, rfl, rfl, x0, x1, hB⟩ := hrel
      by_cases hkl : k < l.length
      · have hx : l[k]? = some l[k] := List.getElem?_eq_getElem hkl
        have hzm := HZ.out l[k] (List.getElem_mem hkl)
        obtain ⟨g, o, c', e, hg, _, hcell⟩ := (HS.out.later hB).at hx
        injection e with e1 e2 e3
        subst e1; subst e3
        have t0 : wr.cell? ⟨g, o + k * 5, none⟩ = some (.int .i64 l[k].f) := hcell 0 _ rfl
        have t1 : wr.cell? ⟨g, o + k * 5 + 1, none⟩ = some (.int .i64 l[k].n) := hcell 1 _ rfl
        have t2 : wr.cell? ⟨g, o + k * 5 + 2, none⟩ = some (.int .i64 l[k].t) := hcell 2 _ rfl
        have t3 : wr.cell? ⟨g, o + k * 5 + 3, none⟩ = some (.int .i64 l[k].u) := hcell 3 _ rfl
        have t4 : wr.cell? ⟨g, o + k * 5 + 4, none⟩ = some (.string l[k].s) := hcell 4 _ rfl
        generalize l[k] = y at hx hzm t0 t1 t2 t3 t4
        have hk1 : (k : Int) < (l.length : Int) := by omega
        clear hcell hx
        go_wp2_with fail
        refine (ok.sz_any y.f y.n y.t y.u y.s _ hzm x x0 (by omega)).mono ?_
        rintro e w2 ⟨rfl, hB2⟩
        obtain ⟨r0, r1⟩ := size_le (room := x) (s := y.s) x0
        generalize (if x < (y.s.size : Int) then (-1 : Int) else x - y.s.size) = r at r0 r1 ⊢
        have HB2 := Lib.hid (hB.trans (hB2.mono hB.size))
        clear hB hB2 t0 t1 t2 t3 t4
        by_cases hr : r < 0
        · go_wp2
          go_ret
          exact ⟨_, rfl, by omega, by omega, by omega, HB2.out⟩
        · go_wp2
          go_roundw
          case rel => exact ⟨r, k + 1, by omega, by go_num, rfl, by omega, by omega, HB2.out⟩
          case measure => simp [intOf]; omega
      · go_wp2
        go_ret
        exact ⟨_, rfl, by omega, by omega, by omega, hB⟩

theorem szM_any (w : World) (v : Value) (l : List Mk) (h : InR mkS w v l) (room : Int) (h0 : 0 ≤ room) (h1 : room ≤ 1048576) :
    Calls Try.prog 30 #[v, .int .i64 room] w (SizesPost w room l.length) := by
  obtain ⟨A, c, rfl, hm, _⟩ := h
  have hm' : l.length ≤ 9223372036854775807 := hm
  clear hm
  by_cases hl : room < l.length
  · go_enter Try.func30, Try.ntmps30
    go_wp2
    go_ret
    exact ⟨_, rfl, by omega, by omega, by omega, Below.refl _ _⟩
  · go_enter Try.func30, Try.ntmps30
    go_wp2
    go_ret
    exact ⟨_, rfl, by omega, by omega, by omega, Below.refl _ _⟩
end Go.Proofs.Ytgihbilpimempab.kp
