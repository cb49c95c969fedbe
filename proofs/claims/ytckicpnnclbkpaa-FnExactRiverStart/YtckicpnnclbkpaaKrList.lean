/-
  Lists of nodes without partial messages, and of bools: contracts of the laws' own helpers over them: eqKeeperS, eqBoolS (where both are one), markKeeperS, markBoolS, heldKeeperS, heldBoolS; the same of empty lists of parcels.
-/
import Derived.Test.YtckicpnnclbkpaaKrNil
import Derived.Test.YtckicpnnclbkpaaKeepHeld
namespace Go.Proofs.Ytckicpnnclbkpaa.kr
open Go.ChangeShapes Go.WideShapes Go.ChangeAt Go.RowKit
open Go.Proofs.Ytckicpnnclbkpaa.wd Go.Proofs.Ytckicpnnclbkpaa.nb Go.Proofs.Ytckicpnnclbkpaa.li Go.Proofs.Ytckicpnnclbkpaa.ow Go.Proofs.Ytckicpnnclbkpaa.rl Go.Proofs.Ytckicpnnclbkpaa.kp Go.Proofs.Ytckicpnnclbkpaa.sl

/-- a node without partial messages -/
structure Nk where
  id : Int
  up : Bool
  s : ByteArray
  f : Int
def nkF (x : Nk) : List Value := [.int .i64 x.id, .bool x.up, .string x.s, .int .i64 x.f, no]
def nkS : Shape Nk := ⟨5, nkF, fun _ => rfl, fun x u hu => by simp [nkF] at hu; rcases hu with rfl | rfl | rfl | rfl | rfl <;> rfl⟩
def boF (x : Bool) : List Value := [.bool x]
def boS : Shape Bool := ⟨1, boF, fun _ => rfl, fun x u hu => by simp [boF] at hu; rcases hu with rfl; rfl⟩
abbrev nkV (x : Nk) : Value := krV x.id x.up x.s x.f no
theorem nk_at {w : World} {v : Value} {l : List Nk} (h : SeesR nkS w v l) {i : Nat} {x : Nk} (hx : l[i]? = some x) :
    ∃ g c, v = .slice (some ⟨g, 0, none⟩) l.length c ∧ g < w.heap.size ∧ i < l.length ∧ w.cell? ⟨g, i * 5, none⟩ = some (.int .i64 x.id) ∧ w.cell? ⟨g, i * 5 + 1, none⟩ = some (.bool x.up) ∧ w.cell? ⟨g, i * 5 + 2, none⟩ = some (.string x.s) ∧ w.cell? ⟨g, i * 5 + 3, none⟩ = some (.int .i64 x.f) ∧ w.cell? ⟨g, i * 5 + 4, none⟩ = some no := by
  obtain ⟨g, c, e, hg, hi, hc⟩ := h.at hx
  exact ⟨g, c, e, hg, hi, hc 0 _ rfl, hc 1 _ rfl, hc 2 _ rfl, hc 3 _ rfl, hc 4 _ rfl⟩
theorem bo_at {w : World} {v : Value} {l : List Bool} (h : SeesR boS w v l) {i : Nat} {x : Bool} (hx : l[i]? = some x) :
    ∃ g c, v = .slice (some ⟨g, 0, none⟩) l.length c ∧ g < w.heap.size ∧ i < l.length ∧ w.cell? ⟨g, i, none⟩ = some (.bool x) := by
  obtain ⟨g, c, e, hg, hi, hc⟩ := h.at hx
  have := hc 0 _ rfl
  rw [show i * boS.n + 0 = i by show i * 1 + 0 = i; omega] at this
  exact ⟨g, c, e, hg, hi, this⟩

set_option maxRecDepth 100000 in
set_option maxHeartbeats 1600000 in
theorem eqKrs_same (w : World) (v1 v2 : Value) (l : List Nk) (h1 : SeesR nkS w v1 l) (h2 : SeesR nkS w v2 l) (hl : l.length ≤ 100) :
    Calls Try.prog 12 #[v1, v2] w (BPost w true) := by
  have H1 := Lib.hid h1
  have H2 := Lib.hid h2
  obtain ⟨A1, c1, rfl, _⟩ := h1
  obtain ⟨A2, c2, rfl, _⟩ := h2
  go_enter Try.func12, Try.ntmps12
  go_wp2
  go_loopw [5] (fun i wr => ∃ k : Nat, k ≤ l.length ∧ i = .int .i64 k ∧ Below w.heap.size w wr) (fun i _ => (l.length + 1 : Nat) - (intOf i).toNat)
  case atStart => exact ⟨0, by omega, rfl, Below.refl _ _⟩
  case round =>
    obtain ⟨k, hk, rfl, hB⟩ := hrel
    by_cases hkl : k < l.length
    · have hx : l[k]? = some l[k] := List.getElem?_eq_getElem hkl
      obtain ⟨g1, c1', e1, hg1, _, a0, a1, a2, a3, a4⟩ := nk_at (H1.out.later hB) hx
      obtain ⟨g2, c2', e2, hg2, _, b0, b1, b2, b3, b4⟩ := nk_at (H2.out.later hB) hx
      injection e1 with e1 _ q1
      injection e2 with e2 _ q2
      subst e1; subst e2; subst q1; subst q2
      generalize l[k] = y at a0 a1 a2 a3 a4 b0 b1 b2 b3 b4
      obtain ⟨id, up, s, f⟩ := y
      have hk0 : (0 : Int) ≤ (k : Int) := by omega
      have hk1 : (k : Int) < (l.length : Int) := by omega
      have HE := Lib.hid (fun V => eqKr_nil id up s f V)
      clear hx
      go_wp2_with fail
      go_region_held3 (fun w' => (w'.cell? ⟨g1, k * 5, none⟩ = some (.int .i64 id) ∧ w'.cell? ⟨g1, k * 5 + 1, none⟩ = some (.bool up) ∧ w'.cell? ⟨g1, k * 5 + 2, none⟩ = some (.string s) ∧ w'.cell? ⟨g1, k * 5 + 3, none⟩ = some (.int .i64 f) ∧ w'.cell? ⟨g1, k * 5 + 4, none⟩ = some no) ∧ w'.cell? ⟨g2, k * 5, none⟩ = some (.int .i64 id) ∧ w'.cell? ⟨g2, k * 5 + 1, none⟩ = some (.bool up) ∧ w'.cell? ⟨g2, k * 5 + 2, none⟩ = some (.string s) ∧ w'.cell? ⟨g2, k * 5 + 3, none⟩ = some (.int .i64 f) ∧ w'.cell? ⟨g2, k * 5 + 4, none⟩ = some no) (first | exact ⟨⟨a0, a1, a2, a3, a4⟩, b0, b1, b2, b3, b4⟩ | exact ⟨⟨s0, s1, s2, s3, s4⟩, r0, r1, r2, r3, r4⟩ | go_keep) ((go_at_call 28; refine (HE.out _).mono ?_; rintro e w2 ⟨rfl, hB2⟩; have s0 := (hB2.cell (p := ⟨g1, k * 5, none⟩) hg1).trans a0; have s1 := (hB2.cell (p := ⟨g1, k * 5 + 1, none⟩) hg1).trans a1; have s2 := (hB2.cell (p := ⟨g1, k * 5 + 2, none⟩) hg1).trans a2; have s3 := (hB2.cell (p := ⟨g1, k * 5 + 3, none⟩) hg1).trans a3; have s4 := (hB2.cell (p := ⟨g1, k * 5 + 4, none⟩) hg1).trans a4; have r0 := (hB2.cell (p := ⟨g2, k * 5, none⟩) hg2).trans b0; have r1 := (hB2.cell (p := ⟨g2, k * 5 + 1, none⟩) hg2).trans b1; have r2 := (hB2.cell (p := ⟨g2, k * 5 + 2, none⟩) hg2).trans b2; have r3 := (hB2.cell (p := ⟨g2, k * 5 + 3, none⟩) hg2).trans b3; have r4 := (hB2.cell (p := ⟨g2, k * 5 + 4, none⟩) hg2).trans b4))
      have R := Lib.hid (hB.drew.trans (hB2.mono hB.size))
      clear hB hB2 s0 s1 s2 s3 s4 r0 r1 r2 r3 r4 a0 a1 a2 a3 a4 b0 b1 b2 b3 b4
      go_wp2
      go_roundw
      case rel => exact ⟨k + 1, by omega, by go_num, R.out⟩
      case measure => simp [intOf]; omega
    · obtain rfl : k = l.length := by omega
      go_wp2
      go_ret
      exact ⟨rfl, hB⟩

set_option maxRecDepth 100000 in
set_option maxHeartbeats 1600000 in
theorem eqBos_same (w : World) (v1 v2 : Value) (l : List Bool) (h1 : SeesR boS w v1 l) (h2 : SeesR boS w v2 l) (hl : l.length ≤ 100) :
    Calls Try.prog 13 #[v1, v2] w (BPost w true) := by
  have H1 := Lib.hid h1
  have H2 := Lib.hid h2
  obtain ⟨A1, c1, rfl, _⟩ := h1
  obtain ⟨A2, c2, rfl, _⟩ := h2
  go_enter Try.func13, Try.ntmps13
  go_wp2
  go_loopw [5] (fun i wr => ∃ k : Nat, k ≤ l.length ∧ i = .int .i64 k ∧ Below w.heap.size w wr) (fun i _ => (l.length + 1 : Nat) - (intOf i).toNat)
  case atStart => exact ⟨0, by omega, rfl, Below.refl _ _⟩
  case round =>
    obtain ⟨k, hk, rfl, hB⟩ := hrel
    by_cases hkl : k < l.length
    · have hx : l[k]? = some l[k] := List.getElem?_eq_getElem hkl
      obtain ⟨g1, c1', e1, hg1, _, a0⟩ := bo_at (H1.out.later hB) hx
      obtain ⟨g2, c2', e2, hg2, _, b0⟩ := bo_at (H2.out.later hB) hx
      injection e1 with e1 _ q1
      injection e2 with e2 _ q2
      subst e1; subst e2; subst q1; subst q2
      generalize l[k] = y at a0 b0
      have hk0 : (0 : Int) ≤ (k : Int) := by omega
      have hk1 : (k : Int) < (l.length : Int) := by omega
      have hyy : (y != y) = false := by simp
      clear hx
      go_wp2
      go_quiet (fail)
      have R := Lib.hid (hB.trans ((ow.below_drewN' (Below.refl wr.heap.size wr) nq).mono hB.size))
      go_wp2
      first
        | exact ⟨⟨k + 1, by omega, by go_num, R.out⟩, by simp [intOf]; omega⟩
        | (go_roundw
           case rel => exact ⟨k + 1, by omega, by go_num, R.out⟩
           case measure => simp [intOf]; omega)
    · obtain rfl : k = l.length := by omega
      go_wp2
      go_ret
      exact ⟨rfl, hB⟩

theorem eqPs_nil (w : World) : Calls Try.prog 14 #[no, no] w (BPost w true) := by
  go_enter Try.func14, Try.ntmps14
  go_wp2
  go_loopw [5] (fun i wr => i = .int .i64 0 ∧ wr = w) (fun _ _ => 0)
  case atStart => exact ⟨rfl, rfl⟩
  case round =>
    obtain ⟨rfl, rfl⟩ := hrel
    go_wp2
    go_ret
    exact ⟨rfl, Below.refl _ _⟩
theorem eqNs_nil (w : World) : Calls Try.prog 15 #[no, no] w (BPost w true) := by
  go_enter Try.func15, Try.ntmps15
  go_wp2
  go_loopw [5] (fun i wr => i = .int .i64 0 ∧ wr = w) (fun _ _ => 0)
  case atStart => exact ⟨rfl, rfl⟩
  case round =>
    obtain ⟨rfl, rfl⟩ := hrel
    go_wp2
    go_ret
    exact ⟨rfl, Below.refl _ _⟩
theorem markPs_nil (k : Int) (w : World) : Calls Try.prog 18 #[no, .int .i64 k] w (IPost w k) := by
  go_enter Try.func18, Try.ntmps18
  go_wp2
  go_loopw [1, 5] (fun a i wr => i = .int .i64 0 ∧ a = .int .i64 k ∧ wr = w) (fun _ _ _ => 0)
  case atStart => exact ⟨rfl, rfl, rfl⟩
  case round =>
    obtain ⟨rfl, rfl, rfl⟩ := hrel
    go_wp2
    go_ret
    exact ⟨rfl, Below.refl _ _⟩
theorem markNs_nil (k : Int) (w : World) : Calls Try.prog 19 #[no, .int .i64 k] w (IPost w k) := by
  go_enter Try.func19, Try.ntmps19
  go_wp2
  go_loopw [1, 5] (fun a i wr => i = .int .i64 0 ∧ a = .int .i64 k ∧ wr = w) (fun _ _ _ => 0)
  case atStart => exact ⟨rfl, rfl, rfl⟩
  case round =>
    obtain ⟨rfl, rfl, rfl⟩ := hrel
    go_wp2
    go_ret
    exact ⟨rfl, Below.refl _ _⟩
theorem heldPs_nil (k : Int) (w : World) : Calls Try.prog 22 #[no, .int .i64 k] w (IPost w k) := by
  go_enter Try.func22, Try.ntmps22
  go_wp2
  go_loopw [1, 5] (fun a i wr => i = .int .i64 0 ∧ a = .int .i64 k ∧ wr = w) (fun _ _ _ => 0)
  case atStart => exact ⟨rfl, rfl, rfl⟩
  case round =>
    obtain ⟨rfl, rfl, rfl⟩ := hrel
    go_wp2
    go_ret
    exact ⟨rfl, Below.refl _ _⟩
theorem heldNs_nil (k : Int) (w : World) : Calls Try.prog 23 #[no, .int .i64 k] w (IPost w k) := by
  go_enter Try.func23, Try.ntmps23
  go_wp2
  go_loopw [1, 5] (fun a i wr => i = .int .i64 0 ∧ a = .int .i64 k ∧ wr = w) (fun _ _ _ => 0)
  case atStart => exact ⟨rfl, rfl, rfl⟩
  case round =>
    obtain ⟨rfl, rfl, rfl⟩ := hrel
    go_wp2
    go_ret
    exact ⟨rfl, Below.refl _ _⟩
end Go.Proofs.Ytckicpnnclbkpaa.kr
