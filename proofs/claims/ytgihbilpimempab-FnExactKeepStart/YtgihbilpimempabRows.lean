/-
  No cell of these rows narrows 'for every input' (looked for: loops, veiled, ifaces, maps, wideKeys, modest, calm, conditions, laid).
  DERIVED. THE GIVEN ROWS OF THIS SEAT. 3 by the template 'for every input the law returns true; each argument reads behind the call as it read before'; 0 by the template 'total and deterministic' (their statements: YtgihbilpimempabTotals.lean).
  GIVEN WITH THE SEED: the statements are not yours to turn. If you find one false, say at which input.
  Laid BY PROGRAM, IN A SANDBOX (cutbox-rows.mjs): the forced cells as the released guide's own fill.sh prints them over the translation 68d479689f30b33f… (all of the seat's roots in one cut). By AI agents, Wed Nov 11 2026. No macro, syntax, notation, axiom, sorry.
-/
import Derived.Test.YtgihbilpimempabChecked
import GoSem.Claim
import GoSem.ClaimJoined
import GoSem.ClaimMapViews
import Derived.JoinedTies
import Derived.KernelRfl
namespace Go.Proofs.Ytgihbilpimempab
/- THE CELL 'sum', in the pinned program and in every row, IS THE sha256 OF THE DUMP (.gsa) THAT YtgihbilpimempabProg.lean LOADS. Nothing in Lean hashes anything: it is a label: what it is worth is what the hold of that sum in a sandbox is worth. -/
noncomputable def Try.pinned : Pinned := { name := "ytgihbilpimempab", sum := "68d479689f30b33f77d21daababcb2ad5cd405c3403bd3905f83ea3457b5ca9e", checked := Try.checked }
namespace Rows
def none {H : Type} : Left H := { results := [], args := [] }

/-- 'laws.FnExactKeepStart': WHATEVER THE INPUT: true; the input reads as it did. -/
def fnExactKeepStartSpec : ChangeSpec := { name := "fnExactKeepStart", fn := fun _ => fun
  | [d] => { results := [.lit (.bool true)], args := [d] }
  | _ => none }
def fnExactKeepStartRow : OpenClaim := { program := "ytgihbilpimempab", sum := "68d479689f30b33f77d21daababcb2ad5cd405c3403bd3905f83ea3457b5ca9e", func := "loop.example/bargeman/laws.FnExactKeepStart", spec := "fnExactKeepStart", apart := false }
def FnExactKeepStartSaid : Prop := fnExactKeepStartRow.holds Try.pinned (OpenSpec.ofChange fnExactKeepStartSpec)

/-- ITS FALSE NEIGHBOUR: 'it returns false'. Refute it at one input. -/
def fnExactKeepStartWrong : ChangeSpec := { name := "fnExactKeepStart", fn := fun _ => fun
  | [d] => { results := [.lit (.bool false)], args := [d] }
  | _ => none }
def FnExactKeepStartWrongFalsely : Prop := fnExactKeepStartRow.holds Try.pinned (OpenSpec.ofChange fnExactKeepStartWrong)

/-- 'laws.FnExactKeepOk': WHATEVER THE INPUT: true; the input reads as it did. -/
def fnExactKeepOkSpec : ChangeSpec := { name := "fnExactKeepOk", fn := fun _ => fun
  | [d] => { results := [.lit (.bool true)], args := [d] }
  | _ => none }
def fnExactKeepOkRow : OpenClaim := { program := "ytgihbilpimempab", sum := "68d479689f30b33f77d21daababcb2ad5cd405c3403bd3905f83ea3457b5ca9e", func := "loop.example/bargeman/laws.FnExactKeepOk", spec := "fnExactKeepOk", unfollowed := true, recurses := true, apart := false }
def FnExactKeepOkSaid : Prop := fnExactKeepOkRow.holds Try.pinned (OpenSpec.ofChange fnExactKeepOkSpec)

/-- ITS FALSE NEIGHBOUR: 'it returns false'. Refute it at one input. -/
def fnExactKeepOkWrong : ChangeSpec := { name := "fnExactKeepOk", fn := fun _ => fun
  | [d] => { results := [.lit (.bool false)], args := [d] }
  | _ => none }
def FnExactKeepOkWrongFalsely : Prop := fnExactKeepOkRow.holds Try.pinned (OpenSpec.ofChange fnExactKeepOkWrong)

/-- 'laws.FnExactKeepRecs': WHATEVER THE INPUT: true; the input reads as it did. -/
def fnExactKeepRecsSpec : ChangeSpec := { name := "fnExactKeepRecs", fn := fun _ => fun
  | [d] => { results := [.lit (.bool true)], args := [d] }
  | _ => none }
def fnExactKeepRecsRow : OpenClaim := { program := "ytgihbilpimempab", sum := "68d479689f30b33f77d21daababcb2ad5cd405c3403bd3905f83ea3457b5ca9e", func := "loop.example/bargeman/laws.FnExactKeepRecs", spec := "fnExactKeepRecs", unfollowed := true, recurses := true, apart := false }
def FnExactKeepRecsSaid : Prop := fnExactKeepRecsRow.holds Try.pinned (OpenSpec.ofChange fnExactKeepRecsSpec)

/-- ITS FALSE NEIGHBOUR: 'it returns false'. Refute it at one input. -/
def fnExactKeepRecsWrong : ChangeSpec := { name := "fnExactKeepRecs", fn := fun _ => fun
  | [d] => { results := [.lit (.bool false)], args := [d] }
  | _ => none }
def FnExactKeepRecsWrongFalsely : Prop := fnExactKeepRecsRow.holds Try.pinned (OpenSpec.ofChange fnExactKeepRecsWrong)

/- THE SECOND FORM. 'bulk': how many values and letters a reading holds, each counted each time it is reached (what is shared counts as often as it is met; a slice's spare places count too). A statement '..UptoSaid' is the law's where the arguments, and the package variables that the reading takes, are together of bulk at most 1048576: NARROWER than '..Said'. Prove '..Said' where nothing that the law and all that it calls make is longer than what came in: it says more and counts as full. Else prove '..UptoSaid'. A law counts once. -/
mutual
def uptoBulk {H : Type} : DataW H → Nat
  | .lit (.string bytes) => bytes.length + 1
  | .lit _ => 1
  | .nil => 1
  | .ptr d => uptoBulk d + 1
  | .slice elems spare => uptoBulkAll elems + uptoBulkAll spare + 1
  | .agg parts => uptoBulkAll parts + 1
  | .iface _ d => uptoBulk d + 1
  | .map entries => uptoBulkEntries entries + 1
  | .held _ => 1
def uptoBulkAll {H : Type} : List (DataW H) → Nat
  | [] => 0
  | d :: r => uptoBulk d + uptoBulkAll r
def uptoBulkEntries {H : Type} : List (Lit × DataW H) → Nat
  | [] => 0
  | x :: r => uptoBulkEntry x + uptoBulkEntries r
def uptoBulkEntry {H : Type} : Lit × DataW H → Nat
  | (.string bytes, d) => bytes.length + uptoBulk d + 1
  | (_, d) => uptoBulk d + 1
 end
def uptoSmall : (H : Type) → List (DataW H) → Bool := fun _ ds => decide (uptoBulkAll ds ≤ 1048576)
def OpenSpec.upto (s : _root_.Go.ChangeSpec) : _root_.Go.OpenSpec := { _root_.Go.OpenSpec.ofChange s with cond := some uptoSmall }

/-- 'laws.FnExactKeepStart', WHERE WHAT IT READS IS OF BULK AT MOST 1048576: true; the input reads as it did. -/
def fnExactKeepStartUptoRow : OpenClaim := { program := "ytgihbilpimempab", sum := "68d479689f30b33f77d21daababcb2ad5cd405c3403bd3905f83ea3457b5ca9e", func := "loop.example/bargeman/laws.FnExactKeepStart", spec := "fnExactKeepStart", apart := false, narrowed := true }
def FnExactKeepStartUptoSaid : Prop := fnExactKeepStartUptoRow.holds Try.pinned (OpenSpec.upto fnExactKeepStartSpec)

/-- 'laws.FnExactKeepOk', WHERE WHAT IT READS IS OF BULK AT MOST 1048576: true; the input reads as it did. -/
def fnExactKeepOkUptoRow : OpenClaim := { program := "ytgihbilpimempab", sum := "68d479689f30b33f77d21daababcb2ad5cd405c3403bd3905f83ea3457b5ca9e", func := "loop.example/bargeman/laws.FnExactKeepOk", spec := "fnExactKeepOk", unfollowed := true, recurses := true, apart := false, narrowed := true }
def FnExactKeepOkUptoSaid : Prop := fnExactKeepOkUptoRow.holds Try.pinned (OpenSpec.upto fnExactKeepOkSpec)

/-- 'laws.FnExactKeepRecs', WHERE WHAT IT READS IS OF BULK AT MOST 1048576: true; the input reads as it did. -/
def fnExactKeepRecsUptoRow : OpenClaim := { program := "ytgihbilpimempab", sum := "68d479689f30b33f77d21daababcb2ad5cd405c3403bd3905f83ea3457b5ca9e", func := "loop.example/bargeman/laws.FnExactKeepRecs", spec := "fnExactKeepRecs", unfollowed := true, recurses := true, apart := false, narrowed := true }
def FnExactKeepRecsUptoSaid : Prop := fnExactKeepRecsUptoRow.holds Try.pinned (OpenSpec.upto fnExactKeepRecsSpec)

end Rows
end Go.Proofs.Ytgihbilpimempab
