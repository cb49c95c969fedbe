/-
  No cell of these rows narrows 'for every input' (looked for: loops, veiled, ifaces, maps, wideKeys, modest, calm, conditions, laid).
  DERIVED. THE GIVEN ROWS OF THIS SEAT. 6 by the template 'for every input the law returns true; each argument reads behind the call as it read before'; 0 by the template 'total and deterministic' (their statements: YtekoghcgkmldgaaTotals.lean).
  GIVEN WITH THE SEED: the statements are not yours to turn. If you find one false, say at which input.
  Laid BY PROGRAM, IN A SANDBOX (cutbox-rows.mjs): the forced cells as the released guide's own fill.sh prints them over the translation 8274e02f74df7be3… (all of the seat's roots in one cut). By AI agents, Wed Nov 11 2026. No macro, syntax, notation, axiom, sorry.
-/
import Derived.Test.YtekoghcgkmldgaaChecked
import GoSem.Claim
import GoSem.ClaimJoined
import GoSem.ClaimMapViews
import Derived.JoinedTies
import Derived.KernelRfl
namespace Go.Proofs.Ytekoghcgkmldgaa
/- THE CELL 'sum', in the pinned program and in every row, IS THE sha256 OF THE DUMP (.gsa) THAT YtekoghcgkmldgaaProg.lean LOADS. Nothing in Lean hashes anything: it is a label: what it is worth is what the hold of that sum in a sandbox is worth. -/
noncomputable def Try.pinned : Pinned := { name := "ytekoghcgkmldgaa", sum := "8274e02f74df7be32d665173f0abe2606dbaf9e13c683f4fa22842a091577cf3", checked := Try.checked }
namespace Rows
def none {H : Type} : Left H := { results := [], args := [] }

/-- 'laws.FnExactKeepStart': WHATEVER THE INPUT: true; the input reads as it did. -/
def fnExactKeepStartSpec : ChangeSpec := { name := "fnExactKeepStart", fn := fun _ => fun
  | [d] => { results := [.lit (.bool true)], args := [d] }
  | _ => none }
def fnExactKeepStartRow : OpenClaim := { program := "ytekoghcgkmldgaa", sum := "8274e02f74df7be32d665173f0abe2606dbaf9e13c683f4fa22842a091577cf3", func := "loop.example/bargeman/laws.FnExactKeepStart", spec := "fnExactKeepStart", apart := false }
def FnExactKeepStartSaid : Prop := fnExactKeepStartRow.holds Try.pinned (OpenSpec.ofChange fnExactKeepStartSpec)

/-- ITS FALSE NEIGHBOUR: 'it returns false'. Refute it at one input. -/
def fnExactKeepStartWrong : ChangeSpec := { name := "fnExactKeepStart", fn := fun _ => fun
  | [d] => { results := [.lit (.bool false)], args := [d] }
  | _ => none }
def FnExactKeepStartWrongFalsely : Prop := fnExactKeepStartRow.holds Try.pinned (OpenSpec.ofChange fnExactKeepStartWrong)

/-- 'laws.FnExactKeepOk': WHATEVER THE INPUT: true; the input reads as it did. -/
def fnExactKeepOkSpec : ChangeSpec := { name := "fnExactKeepOk", fn := fun _ => fun
  | [d] => { results := [.lit (.bool true)], args := [d] }
  | _ => none }
def fnExactKeepOkRow : OpenClaim := { program := "ytekoghcgkmldgaa", sum := "8274e02f74df7be32d665173f0abe2606dbaf9e13c683f4fa22842a091577cf3", func := "loop.example/bargeman/laws.FnExactKeepOk", spec := "fnExactKeepOk", unfollowed := true, recurses := true, apart := false }
def FnExactKeepOkSaid : Prop := fnExactKeepOkRow.holds Try.pinned (OpenSpec.ofChange fnExactKeepOkSpec)

/-- ITS FALSE NEIGHBOUR: 'it returns false'. Refute it at one input. -/
def fnExactKeepOkWrong : ChangeSpec := { name := "fnExactKeepOk", fn := fun _ => fun
  | [d] => { results := [.lit (.bool false)], args := [d] }
  | _ => none }
def FnExactKeepOkWrongFalsely : Prop := fnExactKeepOkRow.holds Try.pinned (OpenSpec.ofChange fnExactKeepOkWrong)

/-- 'laws.FnNoteWay': WHATEVER THE INPUT: true; the input reads as it did. -/
def fnNoteWaySpec : ChangeSpec := { name := "fnNoteWay", fn := fun _ => fun
  | [d] => { results := [.lit (.bool true)], args := [d] }
  | _ => none }
def fnNoteWayRow : OpenClaim := { program := "ytekoghcgkmldgaa", sum := "8274e02f74df7be32d665173f0abe2606dbaf9e13c683f4fa22842a091577cf3", func := "loop.example/bargeman/laws.FnNoteWay", spec := "fnNoteWay", apart := false }
def FnNoteWaySaid : Prop := fnNoteWayRow.holds Try.pinned (OpenSpec.ofChange fnNoteWaySpec)

/-- ITS FALSE NEIGHBOUR: 'it returns false'. Refute it at one input. -/
def fnNoteWayWrong : ChangeSpec := { name := "fnNoteWay", fn := fun _ => fun
  | [d] => { results := [.lit (.bool false)], args := [d] }
  | _ => none }
def FnNoteWayWrongFalsely : Prop := fnNoteWayRow.holds Try.pinned (OpenSpec.ofChange fnNoteWayWrong)

/-- 'laws.FnNoteBack': WHATEVER THE INPUT: true; the input reads as it did. -/
def fnNoteBackSpec : ChangeSpec := { name := "fnNoteBack", fn := fun _ => fun
  | [d] => { results := [.lit (.bool true)], args := [d] }
  | _ => none }
def fnNoteBackRow : OpenClaim := { program := "ytekoghcgkmldgaa", sum := "8274e02f74df7be32d665173f0abe2606dbaf9e13c683f4fa22842a091577cf3", func := "loop.example/bargeman/laws.FnNoteBack", spec := "fnNoteBack", apart := false }
def FnNoteBackSaid : Prop := fnNoteBackRow.holds Try.pinned (OpenSpec.ofChange fnNoteBackSpec)

/-- ITS FALSE NEIGHBOUR: 'it returns false'. Refute it at one input. -/
def fnNoteBackWrong : ChangeSpec := { name := "fnNoteBack", fn := fun _ => fun
  | [d] => { results := [.lit (.bool false)], args := [d] }
  | _ => none }
def FnNoteBackWrongFalsely : Prop := fnNoteBackRow.holds Try.pinned (OpenSpec.ofChange fnNoteBackWrong)

/-- 'laws.FnExactNoteOk': WHATEVER THE INPUT: true; the input reads as it did. -/
def fnExactNoteOkSpec : ChangeSpec := { name := "fnExactNoteOk", fn := fun _ => fun
  | [d] => { results := [.lit (.bool true)], args := [d] }
  | _ => none }
def fnExactNoteOkRow : OpenClaim := { program := "ytekoghcgkmldgaa", sum := "8274e02f74df7be32d665173f0abe2606dbaf9e13c683f4fa22842a091577cf3", func := "loop.example/bargeman/laws.FnExactNoteOk", spec := "fnExactNoteOk", unfollowed := true, recurses := true, apart := false }
def FnExactNoteOkSaid : Prop := fnExactNoteOkRow.holds Try.pinned (OpenSpec.ofChange fnExactNoteOkSpec)

/-- ITS FALSE NEIGHBOUR: 'it returns false'. Refute it at one input. -/
def fnExactNoteOkWrong : ChangeSpec := { name := "fnExactNoteOk", fn := fun _ => fun
  | [d] => { results := [.lit (.bool false)], args := [d] }
  | _ => none }
def FnExactNoteOkWrongFalsely : Prop := fnExactNoteOkRow.holds Try.pinned (OpenSpec.ofChange fnExactNoteOkWrong)

/-- 'laws.FnExactNoteNext': WHATEVER THE INPUT: true; the input reads as it did. -/
def fnExactNoteNextSpec : ChangeSpec := { name := "fnExactNoteNext", fn := fun _ => fun
  | [d1, d2] => { results := [.lit (.bool true)], args := [d1, d2] }
  | _ => none }
def fnExactNoteNextRow : OpenClaim := { program := "ytekoghcgkmldgaa", sum := "8274e02f74df7be32d665173f0abe2606dbaf9e13c683f4fa22842a091577cf3", func := "loop.example/bargeman/laws.FnExactNoteNext", spec := "fnExactNoteNext", apart := false }
def FnExactNoteNextSaid : Prop := fnExactNoteNextRow.holds Try.pinned (OpenSpec.ofChange fnExactNoteNextSpec)

/-- ITS FALSE NEIGHBOUR: 'it returns false'. Refute it at one input. -/
def fnExactNoteNextWrong : ChangeSpec := { name := "fnExactNoteNext", fn := fun _ => fun
  | [d1, d2] => { results := [.lit (.bool false)], args := [d1, d2] }
  | _ => none }
def FnExactNoteNextWrongFalsely : Prop := fnExactNoteNextRow.holds Try.pinned (OpenSpec.ofChange fnExactNoteNextWrong)

/- THE SECOND FORM. 'bulk': how many values and letters a reading holds, each counted each time it is reached (what is shared counts as often as it is met; a slice's spare places count too). A statement '..UptoSaid' is the law's where the arguments, and the package variables that the reading takes, are together of bulk at most 1048576: NARROWER than '..Said'. Prove '..Said' where nothing that the law and all that it calls make is longer than what came in: it says more and counts as full. Else prove '..UptoSaid'. A law counts once. -/
mutual
def uptoBulk {H : Type} : DataW H → Nat
  | .lit (.string bytes) => bytes.length + 1
  | .lit _ => 1
  | .nil => 1
  | .ptr d => uptoBulk d + 1
  | .slice elems spare => uptoBulkAll elems + uptoBulkAll spare + 1
  | .agg parts => uptoBulkAll parts + 1
  | .iface _ d => uptoBulk d + 1
  | .map entries => uptoBulkEntries entries + 1
  | .held _ => 1
def uptoBulkAll {H : Type} : List (DataW H) → Nat
  | [] => 0
  | d :: r => uptoBulk d + uptoBulkAll r
def uptoBulkEntries {H : Type} : List (Lit × DataW H) → Nat
  | [] => 0
  | x :: r => uptoBulkEntry x + uptoBulkEntries r
def uptoBulkEntry {H : Type} : Lit × DataW H → Nat
  | (.string bytes, d) => bytes.length + uptoBulk d + 1
  | (_, d) => uptoBulk d + 1
 end
def uptoSmall : (H : Type) → List (DataW H) → Bool := fun _ ds => decide (uptoBulkAll ds ≤ 1048576)
def OpenSpec.upto (s : _root_.Go.ChangeSpec) : _root_.Go.OpenSpec := { _root_.Go.OpenSpec.ofChange s with cond := some uptoSmall }

/-- 'laws.FnExactKeepStart', WHERE WHAT IT READS IS OF BULK AT MOST 1048576: true; the input reads as it did. -/
def fnExactKeepStartUptoRow : OpenClaim := { program := "ytekoghcgkmldgaa", sum := "8274e02f74df7be32d665173f0abe2606dbaf9e13c683f4fa22842a091577cf3", func := "loop.example/bargeman/laws.FnExactKeepStart", spec := "fnExactKeepStart", apart := false, narrowed := true }
def FnExactKeepStartUptoSaid : Prop := fnExactKeepStartUptoRow.holds Try.pinned (OpenSpec.upto fnExactKeepStartSpec)

/-- 'laws.FnExactKeepOk', WHERE WHAT IT READS IS OF BULK AT MOST 1048576: true; the input reads as it did. -/
def fnExactKeepOkUptoRow : OpenClaim := { program := "ytekoghcgkmldgaa", sum := "8274e02f74df7be32d665173f0abe2606dbaf9e13c683f4fa22842a091577cf3", func := "loop.example/bargeman/laws.FnExactKeepOk", spec := "fnExactKeepOk", unfollowed := true, recurses := true, apart := false, narrowed := true }
def FnExactKeepOkUptoSaid : Prop := fnExactKeepOkUptoRow.holds Try.pinned (OpenSpec.upto fnExactKeepOkSpec)

/-- 'laws.FnNoteWay', WHERE WHAT IT READS IS OF BULK AT MOST 1048576: true; the input reads as it did. -/
def fnNoteWayUptoRow : OpenClaim := { program := "ytekoghcgkmldgaa", sum := "8274e02f74df7be32d665173f0abe2606dbaf9e13c683f4fa22842a091577cf3", func := "loop.example/bargeman/laws.FnNoteWay", spec := "fnNoteWay", apart := false, narrowed := true }
def FnNoteWayUptoSaid : Prop := fnNoteWayUptoRow.holds Try.pinned (OpenSpec.upto fnNoteWaySpec)

/-- 'laws.FnNoteBack', WHERE WHAT IT READS IS OF BULK AT MOST 1048576: true; the input reads as it did. -/
def fnNoteBackUptoRow : OpenClaim := { program := "ytekoghcgkmldgaa", sum := "8274e02f74df7be32d665173f0abe2606dbaf9e13c683f4fa22842a091577cf3", func := "loop.example/bargeman/laws.FnNoteBack", spec := "fnNoteBack", apart := false, narrowed := true }
def FnNoteBackUptoSaid : Prop := fnNoteBackUptoRow.holds Try.pinned (OpenSpec.upto fnNoteBackSpec)

/-- 'laws.FnExactNoteOk', WHERE WHAT IT READS IS OF BULK AT MOST 1048576: true; the input reads as it did. -/
def fnExactNoteOkUptoRow : OpenClaim := { program := "ytekoghcgkmldgaa", sum := "8274e02f74df7be32d665173f0abe2606dbaf9e13c683f4fa22842a091577cf3", func := "loop.example/bargeman/laws.FnExactNoteOk", spec := "fnExactNoteOk", unfollowed := true, recurses := true, apart := false, narrowed := true }
def FnExactNoteOkUptoSaid : Prop := fnExactNoteOkUptoRow.holds Try.pinned (OpenSpec.upto fnExactNoteOkSpec)

/-- 'laws.FnExactNoteNext', WHERE WHAT IT READS IS OF BULK AT MOST 1048576: true; the input reads as it did. -/
def fnExactNoteNextUptoRow : OpenClaim := { program := "ytekoghcgkmldgaa", sum := "8274e02f74df7be32d665173f0abe2606dbaf9e13c683f4fa22842a091577cf3", func := "loop.example/bargeman/laws.FnExactNoteNext", spec := "fnExactNoteNext", apart := false, narrowed := true }
def FnExactNoteNextUptoSaid : Prop := fnExactNoteNextUptoRow.holds Try.pinned (OpenSpec.upto fnExactNoteNextSpec)

end Rows
end Go.Proofs.Ytekoghcgkmldgaa
