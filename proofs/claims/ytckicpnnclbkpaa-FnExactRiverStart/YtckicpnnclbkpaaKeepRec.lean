/-
  Words: messages and marks as records; what a keeper has, as a value.
-/
import Derived.Test.YtckicpnnclbkpaaRecL
import Derived.Test.YtckicpnnclbkpaaKeepPlain
namespace Go.Proofs.Ytckicpnnclbkpaa.kp
open Go.ChangeShapes Go.WideShapes Go.ChangeAt Go.RowKit
open Go.Proofs.Ytckicpnnclbkpaa.wd Go.Proofs.Ytckicpnnclbkpaa.ow Go.Proofs.Ytckicpnnclbkpaa.rl Go.Proofs.Ytckicpnnclbkpaa.ok

def ntF (x : Nt) : List Value := [.int .i64 x.f, .int .i64 x.n, .int .i64 x.t, .int .i64 x.u, .string x.s]
def mkF (x : Mk) : List Value := [.int .i64 x.f, .int .i64 x.n, .int .i64 x.u]
def ntS : Shape Nt := ⟨5, ntF, fun _ => rfl, fun x u hu => by simp [ntF] at hu; rcases hu with rfl | rfl | rfl | rfl | rfl <;> rfl⟩
def mkS : Shape Mk := ⟨3, mkF, fun _ => rfl, fun x u hu => by simp [mkF] at hu; rcases hu with rfl | rfl | rfl <;> rfl⟩
/-- a mark as a value -/
def mark (f n u : Int) : Value := .agg #[.int .i64 f, .int .i64 n, .int .i64 u]
def ntV (x : Nt) : Value := note x.f x.n x.t x.u x.s
def mkV (x : Mk) : Value := mark x.f x.n x.u
/-- what a keeper has, as a value -/
abbrev kpV (id time next : Int) (vh vm vi : Value) : Value := .agg #[.int .i64 id, .int .i64 time, .int .i64 next, vh, vm, vi]

abbrev SeesN (w : World) (v : Value) (l : List Nt) : Prop := SeesR ntS w v l
abbrev SeesMk (w : World) (v : Value) (l : List Mk) : Prop := SeesR mkS w v l
theorem note_at {w : World} {v : Value} {l : List Nt} (h : SeesN w v l) {i : Nat} {x : Nt} (hx : l[i]? = some x) :
    ∃ g c, v = .slice (some ⟨g, 0, none⟩) l.length c ∧ g < w.heap.size ∧ i < l.length ∧ w.cell? ⟨g, i * 5, none⟩ = some (.int .i64 x.f) ∧ w.cell? ⟨g, i * 5 + 1, none⟩ = some (.int .i64 x.n) ∧ w.cell? ⟨g, i * 5 + 2, none⟩ = some (.int .i64 x.t) ∧ w.cell? ⟨g, i * 5 + 3, none⟩ = some (.int .i64 x.u) ∧ w.cell? ⟨g, i * 5 + 4, none⟩ = some (.string x.s) := by
  obtain ⟨g, c, e, hg, hi, hc⟩ := h.at hx
  exact ⟨g, c, e, hg, hi, hc 0 _ rfl, hc 1 _ rfl, hc 2 _ rfl, hc 3 _ rfl, hc 4 _ rfl⟩
theorem mark_at {w : World} {v : Value} {l : List Mk} (h : SeesMk w v l) {i : Nat} {x : Mk} (hx : l[i]? = some x) :
    ∃ g c, v = .slice (some ⟨g, 0, none⟩) l.length c ∧ g < w.heap.size ∧ i < l.length ∧ w.cell? ⟨g, i * 3, none⟩ = some (.int .i64 x.f) ∧ w.cell? ⟨g, i * 3 + 1, none⟩ = some (.int .i64 x.n) ∧ w.cell? ⟨g, i * 3 + 2, none⟩ = some (.int .i64 x.u) := by
  obtain ⟨g, c, e, hg, hi, hc⟩ := h.at hx
  exact ⟨g, c, e, hg, hi, hc 0 _ rfl, hc 1 _ rfl, hc 2 _ rfl⟩

/-- what a keeper has lies there, to be read -/
structure SeesK (w : World) (k : Kp) (vh vm vi : Value) : Prop where
  held : SeesN w vh k.held
  marks : SeesMk w vm k.marks
  inbox : SeesN w vi k.inbox
theorem SeesK.later {w w' : World} {k : Kp} {vh vm vi : Value} (h : SeesK w k vh vm vi) (hB : Below w.heap.size w w') : SeesK w' k vh vm vi := ⟨h.held.later hB, h.marks.later hB, h.inbox.later hB⟩
theorem SeesK.drewN {w : World} {k : Kp} {vh vm vi : Value} (h : SeesK w k vh vm vi) (q : Nat) : SeesK (w.drewN q) k vh vm vi := ⟨h.held, h.marks, h.inbox⟩

theorem infoNote : (Try.prog.info? 60).map (fun i => (i.zero, i.size, i.bytes)) = some (some (.agg #[.int .i64 0, .int .i64 0, .int .i64 0, .int .i64 0, .string ⟨#[]⟩]), 5, 48) := by kernel_rfl
theorem infoMark : (Try.prog.info? 100).map (fun i => (i.zero, i.size, i.bytes)) = some (some (.agg #[.int .i64 0, .int .i64 0, .int .i64 0]), 3, 24) := by kernel_rfl
end Go.Proofs.Ytckicpnnclbkpaa.kp
