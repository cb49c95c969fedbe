/-
  Contracts of the laws' own helpers over lists of encoded blocks that came in: szMixed, szMixedS, toMixed.
-/
import Derived.Test.YtokajeomojlinaaAppendL
namespace Go.Proofs.Ytokajeomojlinaa.ls
open Go.ChangeShapes Go.WideShapes Go.ChangeAt Go.RowKit
open Go.Proofs.Ytokajeomojlinaa.wd Go.Proofs.Ytokajeomojlinaa.cp Go.Proofs.Ytokajeomojlinaa.mp Go.Proofs.Ytokajeomojlinaa.pp Go.Proofs.Ytokajeomojlinaa.ow

/-- a slice that came in and reads as encoded blocks -/
def SeesL (w : World) (v : Value) (l : List Mx) : Prop :=
  ∃ A c, v = .slice A l.length c ∧ l.length ≤ maxLen ∧ (∀ m ∈ l, m.2.size ≤ maxLen) ∧ (0 < l.length → ∃ g o, A = some ⟨g, o, none⟩ ∧ g < w.heap.size ∧ ∀ i m, l[i]? = some m → w.cell? ⟨g, o + i * 2, none⟩ = some (.int .i64 m.1) ∧ w.cell? ⟨g, o + i * 2 + 1, none⟩ = some (.string m.2))
theorem SeesL.later {w w' : World} {v : Value} {l : List Mx} (h : SeesL w v l) (hB : Below w.heap.size w w') : SeesL w' v l := by
  obtain ⟨A, c, rfl, h1, h2, hc⟩ := h
  refine ⟨A, c, rfl, h1, h2, fun hn => ?_⟩
  obtain ⟨g, o, rfl, hg, hcell⟩ := hc hn
  exact ⟨g, o, rfl, Nat.lt_of_lt_of_le hg hB.size, fun i m hm => ⟨(hB.cell (p := ⟨g, _, none⟩) hg).trans (hcell i m hm).1, (hB.cell (p := ⟨g, _, none⟩) hg).trans (hcell i m hm).2⟩⟩

def SizePost (w : World) (room : Int) (e : Ending) (w' : World) : Prop := ∃ r : Int, e = .returned (.int .i64 r) ∧ -1 ≤ r ∧ r ≤ room ∧ Below w.heap.size w w'

theorem sz_one (n : Int) (d : ByteArray) (hd : d.size ≤ maxLen) (room : Int) (h0 : 0 ≤ room) (h1 : room ≤ 1048576) (w : World) :
    Calls Try.prog 69 #[.agg #[.int .i64 n, .string d], .int .i64 room] w (SizePost w room) := by
  have hd' : d.size ≤ 9223372036854775807 := hd
  clear hd
  by_cases hr : room - d.size < 0
  · go_enter Try.func69, Try.ntmps69
    go_wp2
    go_ret
    exact ⟨_, rfl, by omega, by omega, (Below.refl _ _).alloc (Nat.le_refl _) _⟩
  · go_enter Try.func69, Try.ntmps69
    go_wp2
    go_ret
    exact ⟨_, rfl, by omega, by omega, (Below.refl _ _).alloc (Nat.le_refl _) _⟩

def SizesPost (w : World) (l : List Mx) (e : Ending) (w' : World) : Prop := ∃ r : Int, e = .returned (.int .i64 r) ∧ (0 ≤ r → l.length ≤ 1048576) ∧ Below w.heap.size w w'

set_option maxRecDepth 100000 in
set_option maxHeartbeats 1600000 in
theorem sz_any (w : World) (v : Value) (l : List Mx) (h : SeesL w v l) : Calls Try.prog 38 #[v, .int .i64 1048576] w (SizesPost w l) := by
  have HS := Lib.hid h
  obtain ⟨A, c, rfl, hm, hz, _⟩ := h
  have hm' : l.length ≤ 9223372036854775807 := hm
  have HZ := Lib.hid hz
  clear hm hz
  by_cases hl : 1048576 < l.length
  · go_enter Try.func38, Try.ntmps38
    go_wp2
    go_ret
    exact ⟨_, rfl, by omega, Below.refl _ _⟩
  · go_enter Try.func38, Try.ntmps38
    go_wp2
    go_loopw [1, 5] (fun r i wr => ∃ (x : Int) (k : Nat), k ≤ l.length ∧ i = .int .i64 k ∧ r = .int .i64 x ∧ 0 ≤ x ∧ x ≤ 1048576 ∧ Below w.heap.size w wr) (fun _ i _ => (l.length + 1 : Nat) - (intOf i).toNat)
    case atStart => exact ⟨_, 0, by omega, rfl, rfl, by omega, by omega, Below.refl _ _⟩
    case round =>
      obtain ⟨x, k, hk, rfl, rfl, x0, x1, hB⟩ := hrel
      by_cases hkl : k < l.length
      · have hx : l[k]? = some l[k] := List.getElem?_eq_getElem hkl
        have hzm := HZ.out l[k] (List.getElem_mem hkl)
        obtain ⟨A', c', e, _, _, hc⟩ := HS.out.later hB
        injection e with e1 e2 e3
        subst e1; subst e3
        obtain ⟨g, o, rfl, hg, hcell⟩ := hc (by omega)
        obtain ⟨t0, t1⟩ := hcell k _ hx
        generalize l[k] = m at hx hzm t0 t1
        obtain ⟨num, d⟩ := m
        have hk1 : (k : Int) < (l.length : Int) := by omega
        clear hc hcell hx
        go_wp2_with fail
        refine (sz_one num d hzm x x0 x1 _).mono ?_
        rintro e w2 ⟨r, rfl, r0, r1, hB2⟩
        have HB2 := Lib.hid (hB.trans (hB2.mono hB.size))
        clear hB hB2 t0 t1
        by_cases hr : r < 0
        · go_wp2
          go_ret
          exact ⟨_, rfl, by omega, HB2.out⟩
        · go_wp2
          go_roundw
          case rel => exact ⟨r, k + 1, by omega, by go_num, rfl, by omega, by omega, HB2.out⟩
          case measure => simp [intOf]; omega
      · go_wp2
        go_ret
        exact ⟨_, rfl, by omega, hB⟩

def RecPost (w : World) (m : Mx) (e : Ending) (w' : World) : Prop := e = .returned (.agg #[.int .i64 m.1, .string m.2]) ∧ Below w.heap.size w w'
theorem to_one (n : Int) (d : ByteArray) (w : World) : Calls Try.prog 70 #[.agg #[.int .i64 n, .string d]] w (RecPost w (n, d)) := by
  go_enter Try.func70, Try.ntmps70
  go_wp2
  refine bodyPost_ret (v := .agg #[.int .i64 n, .string d]) (by simp [results, Try.results70, go_sem]) rfl ⟨rfl, ?_⟩
  exact (((Below.refl _ _).alloc (Nat.le_refl _) _).alloc (by simp) _).alloc (by simp; omega) _

theorem flat_of {cur : List Value} {l : List Mx} (hs : cur.length = l.length * 2) (h : ∀ i m, l[i]? = some m → cur[i * 2]? = some (.int .i64 m.1) ∧ cur[i * 2 + 1]? = some (.string m.2)) : cur = l.flatMap mc := by
  apply List.ext_getElem?
  intro j
  by_cases hj : j < l.length * 2
  · have hx : l[j / 2]? = some l[j / 2] := List.getElem?_eq_getElem (by omega)
    obtain ⟨h0, h1⟩ := h _ _ hx
    rcases (show j = j / 2 * 2 ∨ j = j / 2 * 2 + 1 by omega) with e | e
    · have := flat_at mc_len l (j / 2) _ hx 0 (by omega)
      rw [e]
      rw [← e] at h0 this ⊢
      rw [show j + 0 = j from rfl] at this
      rw [h0, this]; rfl
    · have := flat_at mc_len l (j / 2) _ hx 1 (by omega)
      rw [← e] at h1 this
      rw [h1, this]; rfl
  · rw [List.getElem?_eq_none (by omega), List.getElem?_eq_none (by rw [flat_len mc_len]; omega)]
end Go.Proofs.Ytokajeomojlinaa.ls
