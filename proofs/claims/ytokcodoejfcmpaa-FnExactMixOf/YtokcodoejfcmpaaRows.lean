/-
  No cell of these rows narrows 'for every input' (looked for: loops, veiled, ifaces, maps, wideKeys, modest, calm, conditions, laid).
  DERIVED. THE GIVEN ROWS OF THIS SEAT. 7 by the template 'for every input the law returns true; each argument reads behind the call as it read before'; 0 by the template 'total and deterministic' (their statements: YtokcodoejfcmpaaTotals.lean).
  GIVEN WITH THE SEED: the statements are not yours to turn. If you find one false, say at which input.
  Laid BY PROGRAM, IN A SANDBOX (cutbox-rows.mjs): the forced cells as the released guide's own fill.sh prints them over the translation c1f5be6ea5339a58… (all of the seat's roots in one cut). By AI agents, Wed Nov 11 2026. No macro, syntax, notation, axiom, sorry.
-/
import Derived.Test.YtokcodoejfcmpaaChecked
import GoSem.Claim
import GoSem.ClaimJoined
import GoSem.ClaimMapViews
import Derived.JoinedTies
import Derived.KernelRfl
namespace Go.Proofs.Ytokcodoejfcmpaa
/- THE CELL 'sum', in the pinned program and in every row, IS THE sha256 OF THE DUMP (.gsa) THAT YtokcodoejfcmpaaProg.lean LOADS. Nothing in Lean hashes anything: it is a label: what it is worth is what the hold of that sum in a sandbox is worth. -/
noncomputable def Try.pinned : Pinned := { name := "ytokcodoejfcmpaa", sum := "c1f5be6ea5339a58c1f1f73c840df458caa35bb8c78d1d6692b9cb5014fbe9a9", checked := Try.checked }
namespace Rows
def none {H : Type} : Left H := { results := [], args := [] }

/-- 'laws.FnRandNext': WHATEVER THE INPUT: true; the input reads as it did. -/
def fnRandNextSpec : ChangeSpec := { name := "fnRandNext", fn := fun _ => fun
  | [d1, d2] => { results := [.lit (.bool true)], args := [d1, d2] }
  | _ => none }
def fnRandNextRow : OpenClaim := { program := "ytokcodoejfcmpaa", sum := "c1f5be6ea5339a58c1f1f73c840df458caa35bb8c78d1d6692b9cb5014fbe9a9", func := "loop.example/bargeman/laws.FnRandNext", spec := "fnRandNext", apart := false }
def FnRandNextSaid : Prop := fnRandNextRow.holds Try.pinned (OpenSpec.ofChange fnRandNextSpec)

/-- ITS FALSE NEIGHBOUR: 'it returns false'. Refute it at one input. -/
def fnRandNextWrong : ChangeSpec := { name := "fnRandNext", fn := fun _ => fun
  | [d1, d2] => { results := [.lit (.bool false)], args := [d1, d2] }
  | _ => none }
def FnRandNextWrongFalsely : Prop := fnRandNextRow.holds Try.pinned (OpenSpec.ofChange fnRandNextWrong)

/-- 'laws.FnMixDegree': WHATEVER THE INPUT: true; the input reads as it did. -/
def fnMixDegreeSpec : ChangeSpec := { name := "fnMixDegree", fn := fun _ => fun
  | [d] => { results := [.lit (.bool true)], args := [d] }
  | _ => none }
def fnMixDegreeRow : OpenClaim := { program := "ytokcodoejfcmpaa", sum := "c1f5be6ea5339a58c1f1f73c840df458caa35bb8c78d1d6692b9cb5014fbe9a9", func := "loop.example/bargeman/laws.FnMixDegree", spec := "fnMixDegree", unfollowed := true, recurses := true, apart := false }
def FnMixDegreeSaid : Prop := fnMixDegreeRow.holds Try.pinned (OpenSpec.ofChange fnMixDegreeSpec)

/-- ITS FALSE NEIGHBOUR: 'it returns false'. Refute it at one input. -/
def fnMixDegreeWrong : ChangeSpec := { name := "fnMixDegree", fn := fun _ => fun
  | [d] => { results := [.lit (.bool false)], args := [d] }
  | _ => none }
def FnMixDegreeWrongFalsely : Prop := fnMixDegreeRow.holds Try.pinned (OpenSpec.ofChange fnMixDegreeWrong)

/-- 'laws.FnMixOf': WHATEVER THE INPUT: true; the input reads as it did. -/
def fnMixOfSpec : ChangeSpec := { name := "fnMixOf", fn := fun _ => fun
  | [d] => { results := [.lit (.bool true)], args := [d] }
  | _ => none }
def fnMixOfRow : OpenClaim := { program := "ytokcodoejfcmpaa", sum := "c1f5be6ea5339a58c1f1f73c840df458caa35bb8c78d1d6692b9cb5014fbe9a9", func := "loop.example/bargeman/laws.FnMixOf", spec := "fnMixOf", unfollowed := true, recurses := true, apart := false }
def FnMixOfSaid : Prop := fnMixOfRow.holds Try.pinned (OpenSpec.ofChange fnMixOfSpec)

/-- ITS FALSE NEIGHBOUR: 'it returns false'. Refute it at one input. -/
def fnMixOfWrong : ChangeSpec := { name := "fnMixOf", fn := fun _ => fun
  | [d] => { results := [.lit (.bool false)], args := [d] }
  | _ => none }
def FnMixOfWrongFalsely : Prop := fnMixOfRow.holds Try.pinned (OpenSpec.ofChange fnMixOfWrong)

/-- 'laws.FnMixFirst': WHATEVER THE INPUT: true; the input reads as it did. -/
def fnMixFirstSpec : ChangeSpec := { name := "fnMixFirst", fn := fun _ => fun
  | [d] => { results := [.lit (.bool true)], args := [d] }
  | _ => none }
def fnMixFirstRow : OpenClaim := { program := "ytokcodoejfcmpaa", sum := "c1f5be6ea5339a58c1f1f73c840df458caa35bb8c78d1d6692b9cb5014fbe9a9", func := "loop.example/bargeman/laws.FnMixFirst", spec := "fnMixFirst", unfollowed := true, recurses := true, apart := false }
def FnMixFirstSaid : Prop := fnMixFirstRow.holds Try.pinned (OpenSpec.ofChange fnMixFirstSpec)

/-- ITS FALSE NEIGHBOUR: 'it returns false'. Refute it at one input. -/
def fnMixFirstWrong : ChangeSpec := { name := "fnMixFirst", fn := fun _ => fun
  | [d] => { results := [.lit (.bool false)], args := [d] }
  | _ => none }
def FnMixFirstWrongFalsely : Prop := fnMixFirstRow.holds Try.pinned (OpenSpec.ofChange fnMixFirstWrong)

/-- 'laws.FnExactRandNext': WHATEVER THE INPUT: true; the input reads as it did. -/
def fnExactRandNextSpec : ChangeSpec := { name := "fnExactRandNext", fn := fun _ => fun
  | [d] => { results := [.lit (.bool true)], args := [d] }
  | _ => none }
def fnExactRandNextRow : OpenClaim := { program := "ytokcodoejfcmpaa", sum := "c1f5be6ea5339a58c1f1f73c840df458caa35bb8c78d1d6692b9cb5014fbe9a9", func := "loop.example/bargeman/laws.FnExactRandNext", spec := "fnExactRandNext", apart := false }
def FnExactRandNextSaid : Prop := fnExactRandNextRow.holds Try.pinned (OpenSpec.ofChange fnExactRandNextSpec)

/-- ITS FALSE NEIGHBOUR: 'it returns false'. Refute it at one input. -/
def fnExactRandNextWrong : ChangeSpec := { name := "fnExactRandNext", fn := fun _ => fun
  | [d] => { results := [.lit (.bool false)], args := [d] }
  | _ => none }
def FnExactRandNextWrongFalsely : Prop := fnExactRandNextRow.holds Try.pinned (OpenSpec.ofChange fnExactRandNextWrong)

/-- 'laws.FnExactMixDegree': WHATEVER THE INPUT: true; the input reads as it did. -/
def fnExactMixDegreeSpec : ChangeSpec := { name := "fnExactMixDegree", fn := fun _ => fun
  | [d1, d2] => { results := [.lit (.bool true)], args := [d1, d2] }
  | _ => none }
def fnExactMixDegreeRow : OpenClaim := { program := "ytokcodoejfcmpaa", sum := "c1f5be6ea5339a58c1f1f73c840df458caa35bb8c78d1d6692b9cb5014fbe9a9", func := "loop.example/bargeman/laws.FnExactMixDegree", spec := "fnExactMixDegree", unfollowed := true, recurses := true, apart := false }
def FnExactMixDegreeSaid : Prop := fnExactMixDegreeRow.holds Try.pinned (OpenSpec.ofChange fnExactMixDegreeSpec)

/-- ITS FALSE NEIGHBOUR: 'it returns false'. Refute it at one input. -/
def fnExactMixDegreeWrong : ChangeSpec := { name := "fnExactMixDegree", fn := fun _ => fun
  | [d1, d2] => { results := [.lit (.bool false)], args := [d1, d2] }
  | _ => none }
def FnExactMixDegreeWrongFalsely : Prop := fnExactMixDegreeRow.holds Try.pinned (OpenSpec.ofChange fnExactMixDegreeWrong)

/-- 'laws.FnExactMixOf': WHATEVER THE INPUT: true; the input reads as it did. -/
def fnExactMixOfSpec : ChangeSpec := { name := "fnExactMixOf", fn := fun _ => fun
  | [d1, d2] => { results := [.lit (.bool true)], args := [d1, d2] }
  | _ => none }
def fnExactMixOfRow : OpenClaim := { program := "ytokcodoejfcmpaa", sum := "c1f5be6ea5339a58c1f1f73c840df458caa35bb8c78d1d6692b9cb5014fbe9a9", func := "loop.example/bargeman/laws.FnExactMixOf", spec := "fnExactMixOf", unfollowed := true, recurses := true, apart := false }
def FnExactMixOfSaid : Prop := fnExactMixOfRow.holds Try.pinned (OpenSpec.ofChange fnExactMixOfSpec)

/-- ITS FALSE NEIGHBOUR: 'it returns false'. Refute it at one input. -/
def fnExactMixOfWrong : ChangeSpec := { name := "fnExactMixOf", fn := fun _ => fun
  | [d1, d2] => { results := [.lit (.bool false)], args := [d1, d2] }
  | _ => none }
def FnExactMixOfWrongFalsely : Prop := fnExactMixOfRow.holds Try.pinned (OpenSpec.ofChange fnExactMixOfWrong)

/- THE SECOND FORM. 'bulk': how many values and letters a reading holds, each counted each time it is reached (what is shared counts as often as it is met; a slice's spare places count too). A statement '..UptoSaid' is the law's where the arguments, and the package variables that the reading takes, are together of bulk at most 1048576: NARROWER than '..Said'. Prove '..Said' where nothing that the law and all that it calls make is longer than what came in: it says more and counts as full. Else prove '..UptoSaid'. A law counts once. -/
mutual
def uptoBulk {H : Type} : DataW H → Nat
  | .lit (.string bytes) => bytes.length + 1
  | .lit _ => 1
  | .nil => 1
  | .ptr d => uptoBulk d + 1
  | .slice elems spare => uptoBulkAll elems + uptoBulkAll spare + 1
  | .agg parts => uptoBulkAll parts + 1
  | .iface _ d => uptoBulk d + 1
  | .map entries => uptoBulkEntries entries + 1
  | .held _ => 1
def uptoBulkAll {H : Type} : List (DataW H) → Nat
  | [] => 0
  | d :: r => uptoBulk d + uptoBulkAll r
def uptoBulkEntries {H : Type} : List (Lit × DataW H) → Nat
  | [] => 0
  | x :: r => uptoBulkEntry x + uptoBulkEntries r
def uptoBulkEntry {H : Type} : Lit × DataW H → Nat
  | (.string bytes, d) => bytes.length + uptoBulk d + 1
  | (_, d) => uptoBulk d + 1
 end
def uptoSmall : (H : Type) → List (DataW H) → Bool := fun _ ds => decide (uptoBulkAll ds ≤ 1048576)
def OpenSpec.upto (s : _root_.Go.ChangeSpec) : _root_.Go.OpenSpec := { _root_.Go.OpenSpec.ofChange s with cond := some uptoSmall }

/-- 'laws.FnRandNext', WHERE WHAT IT READS IS OF BULK AT MOST 1048576: true; the input reads as it did. -/
def fnRandNextUptoRow : OpenClaim := { program := "ytokcodoejfcmpaa", sum := "c1f5be6ea5339a58c1f1f73c840df458caa35bb8c78d1d6692b9cb5014fbe9a9", func := "loop.example/bargeman/laws.FnRandNext", spec := "fnRandNext", apart := false, narrowed := true }
def FnRandNextUptoSaid : Prop := fnRandNextUptoRow.holds Try.pinned (OpenSpec.upto fnRandNextSpec)

/-- 'laws.FnMixDegree', WHERE WHAT IT READS IS OF BULK AT MOST 1048576: true; the input reads as it did. -/
def fnMixDegreeUptoRow : OpenClaim := { program := "ytokcodoejfcmpaa", sum := "c1f5be6ea5339a58c1f1f73c840df458caa35bb8c78d1d6692b9cb5014fbe9a9", func := "loop.example/bargeman/laws.FnMixDegree", spec := "fnMixDegree", unfollowed := true, recurses := true, apart := false, narrowed := true }
def FnMixDegreeUptoSaid : Prop := fnMixDegreeUptoRow.holds Try.pinned (OpenSpec.upto fnMixDegreeSpec)

/-- 'laws.FnMixOf', WHERE WHAT IT READS IS OF BULK AT MOST 1048576: true; the input reads as it did. -/
def fnMixOfUptoRow : OpenClaim := { program := "ytokcodoejfcmpaa", sum := "c1f5be6ea5339a58c1f1f73c840df458caa35bb8c78d1d6692b9cb5014fbe9a9", func := "loop.example/bargeman/laws.FnMixOf", spec := "fnMixOf", unfollowed := true, recurses := true, apart := false, narrowed := true }
def FnMixOfUptoSaid : Prop := fnMixOfUptoRow.holds Try.pinned (OpenSpec.upto fnMixOfSpec)

/-- 'laws.FnMixFirst', WHERE WHAT IT READS IS OF BULK AT MOST 1048576: true; the input reads as it did. -/
def fnMixFirstUptoRow : OpenClaim := { program := "ytokcodoejfcmpaa", sum := "c1f5be6ea5339a58c1f1f73c840df458caa35bb8c78d1d6692b9cb5014fbe9a9", func := "loop.example/bargeman/laws.FnMixFirst", spec := "fnMixFirst", unfollowed := true, recurses := true, apart := false, narrowed := true }
def FnMixFirstUptoSaid : Prop := fnMixFirstUptoRow.holds Try.pinned (OpenSpec.upto fnMixFirstSpec)

/-- 'laws.FnExactRandNext', WHERE WHAT IT READS IS OF BULK AT MOST 1048576: true; the input reads as it did. -/
def fnExactRandNextUptoRow : OpenClaim := { program := "ytokcodoejfcmpaa", sum := "c1f5be6ea5339a58c1f1f73c840df458caa35bb8c78d1d6692b9cb5014fbe9a9", func := "loop.example/bargeman/laws.FnExactRandNext", spec := "fnExactRandNext", apart := false, narrowed := true }
def FnExactRandNextUptoSaid : Prop := fnExactRandNextUptoRow.holds Try.pinned (OpenSpec.upto fnExactRandNextSpec)

/-- 'laws.FnExactMixDegree', WHERE WHAT IT READS IS OF BULK AT MOST 1048576: true; the input reads as it did. -/
def fnExactMixDegreeUptoRow : OpenClaim := { program := "ytokcodoejfcmpaa", sum := "c1f5be6ea5339a58c1f1f73c840df458caa35bb8c78d1d6692b9cb5014fbe9a9", func := "loop.example/bargeman/laws.FnExactMixDegree", spec := "fnExactMixDegree", unfollowed := true, recurses := true, apart := false, narrowed := true }
def FnExactMixDegreeUptoSaid : Prop := fnExactMixDegreeUptoRow.holds Try.pinned (OpenSpec.upto fnExactMixDegreeSpec)

/-- 'laws.FnExactMixOf', WHERE WHAT IT READS IS OF BULK AT MOST 1048576: true; the input reads as it did. -/
def fnExactMixOfUptoRow : OpenClaim := { program := "ytokcodoejfcmpaa", sum := "c1f5be6ea5339a58c1f1f73c840df458caa35bb8c78d1d6692b9cb5014fbe9a9", func := "loop.example/bargeman/laws.FnExactMixOf", spec := "fnExactMixOf", unfollowed := true, recurses := true, apart := false, narrowed := true }
def FnExactMixOfUptoSaid : Prop := fnExactMixOfUptoRow.holds Try.pinned (OpenSpec.upto fnExactMixOfSpec)

end Rows
end Go.Proofs.Ytokcodoejfcmpaa
