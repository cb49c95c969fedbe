/-
  Contract of spec.KeepStart.
-/
import Derived.Test.YtgihbilpimempabKeepOwn
import Derived.Test.YtgihbilpimempabIn0
namespace Go.Proofs.Ytgihbilpimempab.kp
open Go.ChangeShapes Go.WideShapes Go.ChangeAt Go.RowKit
open Go.Proofs.Ytgihbilpimempab.wd Go.Proofs.Ytgihbilpimempab.ow Go.Proofs.Ytgihbilpimempab.rl Go.Proofs.Ytgihbilpimempab.ok Go.Proofs.Ytgihbilpimempab.nb

def zeroK : Kp := ⟨0, 0, 0, [], [], []⟩
/-- what a keeper has at first -/
def startK (id : Int) : Kp := if inB id 0 3 then ⟨id, 0, 1, [], [], []⟩ else zeroK
theorem nil_own {w W : World} {k : Kp} (hB : Below w.heap.size w W) (h1 : k.held = []) (h2 : k.marks = []) (h3 : k.inbox = []) : OwnK w W k (.slice none 0 0) (.slice none 0 0) (.slice none 0 0) := by
  refine ⟨⟨?_, hB⟩, ⟨?_, hB⟩, ⟨?_, hB⟩, (fun g e => by cases e), (fun g e => by cases e), (fun g e => by cases e)⟩
  · rw [h1]; exact World.ownsRow_nil _ _ _ _
  · rw [h2]; exact World.ownsRow_nil _ _ _ _
  · rw [h3]; exact World.ownsRow_nil _ _ _ _

set_option maxRecDepth 100000 in
theorem start_any (id : Int) (w : World) : Calls Try.prog 6 #[.int .i64 id] w (KeepPost w (startK id)) := by
  have H1 := Lib.hid (fun V => keeper_any id V)
  cases hb : inB id 0 3 with
  | false =>
    have HE := Lib.hid (show startK id = zeroK by unfold startK; rw [hb]; rfl)
    rw [hb] at H1
    go_enter Try.func6, Try.ntmps6
    go_wp2_with fail
    refine (H1.out _).mono ?_
    rintro e w1 ⟨rfl, rfl⟩
    go_wp2
    refine bodyPost_ret (v := kpV 0 0 0 (.slice none 0 0) (.slice none 0 0) (.slice none 0 0)) (by simp [results, Try.results6, go_sem]) rfl ⟨_, _, _, by rw [HE.out]; rfl, ?_⟩
    rw [HE.out]
    exact nil_own ((Below.refl _ _).alloc (Nat.le_refl _) _) rfl rfl rfl
  | true =>
    have HE := Lib.hid (show startK id = ⟨id, 0, 1, [], [], []⟩ by unfold startK; rw [hb]; rfl)
    rw [hb] at H1
    go_enter Try.func6, Try.ntmps6
    go_wp2_with fail
    refine (H1.out _).mono ?_
    rintro e w1 ⟨rfl, rfl⟩
    go_wp2
    refine bodyPost_ret (v := kpV id 0 1 (.slice none 0 0) (.slice none 0 0) (.slice none 0 0)) (by simp [results, Try.results6, go_sem]) rfl ⟨_, _, _, by rw [HE.out], ?_⟩
    rw [HE.out]
    exact nil_own ((Below.refl _ _).alloc (Nat.le_refl _) _) rfl rfl rfl
end Go.Proofs.Ytgihbilpimempab.kp
