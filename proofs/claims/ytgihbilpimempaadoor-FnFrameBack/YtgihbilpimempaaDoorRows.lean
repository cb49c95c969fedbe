/-
  NARROWER THAN 'FOR EVERY INPUT', by the rows' own cells (each row's printed sentence says how): FnFrameBack: ifaces, laid · FnFrameStrict: ifaces, laid · FnFrameSpoilt: ifaces, laid · FnFrameShort: ifaces, laid · FnExactFrameUnpack: ifaces, laid.
  DERIVED. THE GIVEN ROWS OF THIS SEAT. 5 by the template 'for every input the law returns true; each argument reads behind the call as it read before'; 0 by the template 'total and deterministic' (their statements: YtgihbilpimempaaDoorTotals.lean).
  GIVEN WITH THE SEED: the statements are not yours to turn. If you find one false, say at which input.
  Laid BY PROGRAM, IN A SANDBOX (cutbox-rows.mjs): the forced cells as the released guide's own fill.sh prints them over the translation a3d2f972775ac21b… (all of the seat's roots in one cut). By AI agents, Wed Nov 11 2026. No macro, syntax, notation, axiom, sorry.
-/
import Derived.Test.YtgihbilpimempaaDoorChecked
import GoSem.Claim
import GoSem.ClaimJoined
import GoSem.ClaimMapViews
import Derived.JoinedTies
import Derived.KernelRfl
namespace Go.Proofs.YtgihbilpimempaaDoor
/- THE CELL 'sum', in the pinned program and in every row, IS THE sha256 OF THE DUMP (.gsa) THAT YtgihbilpimempaaDoorProg.lean LOADS. Nothing in Lean hashes anything: it is a label: what it is worth is what the hold of that sum in a sandbox is worth. -/
noncomputable def Tryd.pinned : Pinned := { name := "ytgihbilpimempaadoor", sum := "a3d2f972775ac21b7ffcba8fb3f0ee067285be5f5c55bbf39ce8e8188c57834d", checked := Tryd.checked }
namespace Rows
def none {H : Type} : Left H := { results := [], args := [] }

/- WHAT THE LISTED PACKAGE-LEVEL VARIABLES READ AS WHEN THE CALL BEGINS. Each datum BY PROGRAM (the guide's laid-datum.mjs) off the statement by which the dump's own 'gosem.cut.vars' lays the variable. In a bare row this is a premise. The card (YtgihbilpimempaaDoorCards.lean) ties it to the program's text. -/
def laid_loop_example_bargeman_impl_errFrameTooShort {H : Type} : DataW H := .iface "*errors.errorString" (.ptr (.agg [.lit (.string [116, 104, 101, 32, 98, 121, 116, 101, 115, 32, 101, 110, 100, 32, 98, 101, 102, 111, 114, 101, 32, 116, 104, 101, 32, 102, 114, 97, 109, 101, 32, 100, 111, 101, 115])]))
def laid_loop_example_bargeman_impl_errFrameTooLong {H : Type} : DataW H := .iface "*errors.errorString" (.ptr (.agg [.lit (.string [116, 104, 101, 114, 101, 32, 97, 114, 101, 32, 98, 121, 116, 101, 115, 32, 98, 101, 104, 105, 110, 100, 32, 116, 104, 101, 32, 102, 114, 97, 109, 101])]))
def laid_loop_example_bargeman_impl_errFrameSum {H : Type} : DataW H := .iface "*errors.errorString" (.ptr (.agg [.lit (.string [116, 104, 101, 32, 115, 117, 109, 32, 105, 115, 32, 110, 111, 116, 32, 116, 104, 97, 116, 32, 111, 102, 32, 116, 104, 101, 32, 98, 121, 116, 101, 115, 32, 97, 104, 101, 97, 100, 32, 111, 102, 32, 105, 116])]))

/-- 'laws.FnFrameBack': WHATEVER THE INPUT: true; the input reads as it did. -/
def fnFrameBackSpec : ChangeSpec := { name := "fnFrameBack", vars := ["loop.example/bargeman/impl.errFrameTooShort", "loop.example/bargeman/impl.errFrameSum", "loop.example/bargeman/impl.errFrameTooLong"], fn := fun _ => fun
  | [d, g1, g2, g3] => { results := [.lit (.bool true)], args := [d], vars := [g1, g2, g3] }
  | _ => none }
def fnFrameBackRow : OpenClaim := { program := "ytgihbilpimempaadoor", sum := "a3d2f972775ac21b7ffcba8fb3f0ee067285be5f5c55bbf39ce8e8188c57834d", func := "loop.example/bargeman/laws.FnFrameBack", spec := "fnFrameBack", unfollowed := true, recurses := true, named := ["loop.example/bargeman/impl.errFrameTooShort", "loop.example/bargeman/impl.errFrameSum", "loop.example/bargeman/impl.errFrameTooLong"], ifaces := true, apart := false, laid := [("loop.example/bargeman/impl.errFrameTooShort", laid_loop_example_bargeman_impl_errFrameTooShort), ("loop.example/bargeman/impl.errFrameTooLong", laid_loop_example_bargeman_impl_errFrameTooLong), ("loop.example/bargeman/impl.errFrameSum", laid_loop_example_bargeman_impl_errFrameSum)] }
def FnFrameBackSaid : Prop := fnFrameBackRow.holds Tryd.pinned (OpenSpec.ofChange fnFrameBackSpec)

/-- ITS FALSE NEIGHBOUR: 'it returns false'. Refute it at one input. -/
def fnFrameBackWrong : ChangeSpec := { name := "fnFrameBack", vars := ["loop.example/bargeman/impl.errFrameTooShort", "loop.example/bargeman/impl.errFrameSum", "loop.example/bargeman/impl.errFrameTooLong"], fn := fun _ => fun
  | [d, g1, g2, g3] => { results := [.lit (.bool false)], args := [d], vars := [g1, g2, g3] }
  | _ => none }
def FnFrameBackWrongFalsely : Prop := fnFrameBackRow.holds Tryd.pinned (OpenSpec.ofChange fnFrameBackWrong)

/-- 'laws.FnFrameStrict': WHATEVER THE INPUT: true; the input reads as it did. -/
def fnFrameStrictSpec : ChangeSpec := { name := "fnFrameStrict", vars := ["loop.example/bargeman/impl.errFrameTooShort", "loop.example/bargeman/impl.errFrameSum", "loop.example/bargeman/impl.errFrameTooLong"], fn := fun _ => fun
  | [d, g1, g2, g3] => { results := [.lit (.bool true)], args := [d], vars := [g1, g2, g3] }
  | _ => none }
def fnFrameStrictRow : OpenClaim := { program := "ytgihbilpimempaadoor", sum := "a3d2f972775ac21b7ffcba8fb3f0ee067285be5f5c55bbf39ce8e8188c57834d", func := "loop.example/bargeman/laws.FnFrameStrict", spec := "fnFrameStrict", unfollowed := true, recurses := true, named := ["loop.example/bargeman/impl.errFrameTooShort", "loop.example/bargeman/impl.errFrameSum", "loop.example/bargeman/impl.errFrameTooLong"], ifaces := true, apart := false, laid := [("loop.example/bargeman/impl.errFrameTooShort", laid_loop_example_bargeman_impl_errFrameTooShort), ("loop.example/bargeman/impl.errFrameTooLong", laid_loop_example_bargeman_impl_errFrameTooLong), ("loop.example/bargeman/impl.errFrameSum", laid_loop_example_bargeman_impl_errFrameSum)] }
def FnFrameStrictSaid : Prop := fnFrameStrictRow.holds Tryd.pinned (OpenSpec.ofChange fnFrameStrictSpec)

/-- ITS FALSE NEIGHBOUR: 'it returns false'. Refute it at one input. -/
def fnFrameStrictWrong : ChangeSpec := { name := "fnFrameStrict", vars := ["loop.example/bargeman/impl.errFrameTooShort", "loop.example/bargeman/impl.errFrameSum", "loop.example/bargeman/impl.errFrameTooLong"], fn := fun _ => fun
  | [d, g1, g2, g3] => { results := [.lit (.bool false)], args := [d], vars := [g1, g2, g3] }
  | _ => none }
def FnFrameStrictWrongFalsely : Prop := fnFrameStrictRow.holds Tryd.pinned (OpenSpec.ofChange fnFrameStrictWrong)

/-- 'laws.FnFrameSpoilt': WHATEVER THE INPUT: true; the input reads as it did. -/
def fnFrameSpoiltSpec : ChangeSpec := { name := "fnFrameSpoilt", vars := ["loop.example/bargeman/impl.errFrameTooShort", "loop.example/bargeman/impl.errFrameSum", "loop.example/bargeman/impl.errFrameTooLong"], fn := fun _ => fun
  | [d1, d2, g1, g2, g3] => { results := [.lit (.bool true)], args := [d1, d2], vars := [g1, g2, g3] }
  | _ => none }
def fnFrameSpoiltRow : OpenClaim := { program := "ytgihbilpimempaadoor", sum := "a3d2f972775ac21b7ffcba8fb3f0ee067285be5f5c55bbf39ce8e8188c57834d", func := "loop.example/bargeman/laws.FnFrameSpoilt", spec := "fnFrameSpoilt", unfollowed := true, recurses := true, named := ["loop.example/bargeman/impl.errFrameTooShort", "loop.example/bargeman/impl.errFrameSum", "loop.example/bargeman/impl.errFrameTooLong"], ifaces := true, apart := false, laid := [("loop.example/bargeman/impl.errFrameTooShort", laid_loop_example_bargeman_impl_errFrameTooShort), ("loop.example/bargeman/impl.errFrameTooLong", laid_loop_example_bargeman_impl_errFrameTooLong), ("loop.example/bargeman/impl.errFrameSum", laid_loop_example_bargeman_impl_errFrameSum)] }
def FnFrameSpoiltSaid : Prop := fnFrameSpoiltRow.holds Tryd.pinned (OpenSpec.ofChange fnFrameSpoiltSpec)

/-- ITS FALSE NEIGHBOUR: 'it returns false'. Refute it at one input. -/
def fnFrameSpoiltWrong : ChangeSpec := { name := "fnFrameSpoilt", vars := ["loop.example/bargeman/impl.errFrameTooShort", "loop.example/bargeman/impl.errFrameSum", "loop.example/bargeman/impl.errFrameTooLong"], fn := fun _ => fun
  | [d1, d2, g1, g2, g3] => { results := [.lit (.bool false)], args := [d1, d2], vars := [g1, g2, g3] }
  | _ => none }
def FnFrameSpoiltWrongFalsely : Prop := fnFrameSpoiltRow.holds Tryd.pinned (OpenSpec.ofChange fnFrameSpoiltWrong)

/-- 'laws.FnFrameShort': WHATEVER THE INPUT: true; the input reads as it did. -/
def fnFrameShortSpec : ChangeSpec := { name := "fnFrameShort", vars := ["loop.example/bargeman/impl.errFrameTooShort", "loop.example/bargeman/impl.errFrameSum", "loop.example/bargeman/impl.errFrameTooLong"], fn := fun _ => fun
  | [d, g1, g2, g3] => { results := [.lit (.bool true)], args := [d], vars := [g1, g2, g3] }
  | _ => none }
def fnFrameShortRow : OpenClaim := { program := "ytgihbilpimempaadoor", sum := "a3d2f972775ac21b7ffcba8fb3f0ee067285be5f5c55bbf39ce8e8188c57834d", func := "loop.example/bargeman/laws.FnFrameShort", spec := "fnFrameShort", unfollowed := true, recurses := true, named := ["loop.example/bargeman/impl.errFrameTooShort", "loop.example/bargeman/impl.errFrameSum", "loop.example/bargeman/impl.errFrameTooLong"], ifaces := true, apart := false, laid := [("loop.example/bargeman/impl.errFrameTooShort", laid_loop_example_bargeman_impl_errFrameTooShort), ("loop.example/bargeman/impl.errFrameTooLong", laid_loop_example_bargeman_impl_errFrameTooLong), ("loop.example/bargeman/impl.errFrameSum", laid_loop_example_bargeman_impl_errFrameSum)] }
def FnFrameShortSaid : Prop := fnFrameShortRow.holds Tryd.pinned (OpenSpec.ofChange fnFrameShortSpec)

/-- ITS FALSE NEIGHBOUR: 'it returns false'. Refute it at one input. -/
def fnFrameShortWrong : ChangeSpec := { name := "fnFrameShort", vars := ["loop.example/bargeman/impl.errFrameTooShort", "loop.example/bargeman/impl.errFrameSum", "loop.example/bargeman/impl.errFrameTooLong"], fn := fun _ => fun
  | [d, g1, g2, g3] => { results := [.lit (.bool false)], args := [d], vars := [g1, g2, g3] }
  | _ => none }
def FnFrameShortWrongFalsely : Prop := fnFrameShortRow.holds Tryd.pinned (OpenSpec.ofChange fnFrameShortWrong)

/-- 'laws.FnExactFrameUnpack': WHATEVER THE INPUT: true; the input reads as it did. -/
def fnExactFrameUnpackSpec : ChangeSpec := { name := "fnExactFrameUnpack", vars := ["loop.example/bargeman/impl.errFrameTooShort", "loop.example/bargeman/impl.errFrameSum", "loop.example/bargeman/impl.errFrameTooLong"], fn := fun _ => fun
  | [d, g1, g2, g3] => { results := [.lit (.bool true)], args := [d], vars := [g1, g2, g3] }
  | _ => none }
def fnExactFrameUnpackRow : OpenClaim := { program := "ytgihbilpimempaadoor", sum := "a3d2f972775ac21b7ffcba8fb3f0ee067285be5f5c55bbf39ce8e8188c57834d", func := "loop.example/bargeman/laws.FnExactFrameUnpack", spec := "fnExactFrameUnpack", unfollowed := true, recurses := true, named := ["loop.example/bargeman/impl.errFrameTooShort", "loop.example/bargeman/impl.errFrameSum", "loop.example/bargeman/impl.errFrameTooLong"], ifaces := true, apart := false, laid := [("loop.example/bargeman/impl.errFrameTooShort", laid_loop_example_bargeman_impl_errFrameTooShort), ("loop.example/bargeman/impl.errFrameTooLong", laid_loop_example_bargeman_impl_errFrameTooLong), ("loop.example/bargeman/impl.errFrameSum", laid_loop_example_bargeman_impl_errFrameSum)] }
def FnExactFrameUnpackSaid : Prop := fnExactFrameUnpackRow.holds Tryd.pinned (OpenSpec.ofChange fnExactFrameUnpackSpec)

/-- ITS FALSE NEIGHBOUR: 'it returns false'. Refute it at one input. -/
def fnExactFrameUnpackWrong : ChangeSpec := { name := "fnExactFrameUnpack", vars := ["loop.example/bargeman/impl.errFrameTooShort", "loop.example/bargeman/impl.errFrameSum", "loop.example/bargeman/impl.errFrameTooLong"], fn := fun _ => fun
  | [d, g1, g2, g3] => { results := [.lit (.bool false)], args := [d], vars := [g1, g2, g3] }
  | _ => none }
def FnExactFrameUnpackWrongFalsely : Prop := fnExactFrameUnpackRow.holds Tryd.pinned (OpenSpec.ofChange fnExactFrameUnpackWrong)

/- THE SECOND FORM. 'bulk': how many values and letters a reading holds, each counted each time it is reached (what is shared counts as often as it is met; a slice's spare places count too). A statement '..UptoSaid' is the law's where the arguments, and the package variables that the reading takes, are together of bulk at most 1048576: NARROWER than '..Said'. Prove '..Said' where nothing that the law and all that it calls make is longer than what came in: it says more and counts as full. Else prove '..UptoSaid'. A law counts once. -/
mutual
def uptoBulk {H : Type} : DataW H → Nat
  | .lit (.string bytes) => bytes.length + 1
  | .lit _ => 1
  | .nil => 1
  | .ptr d => uptoBulk d + 1
  | .slice elems spare => uptoBulkAll elems + uptoBulkAll spare + 1
  | .agg parts => uptoBulkAll parts + 1
  | .iface _ d => uptoBulk d + 1
  | .map entries => uptoBulkEntries entries + 1
  | .held _ => 1
def uptoBulkAll {H : Type} : List (DataW H) → Nat
  | [] => 0
  | d :: r => uptoBulk d + uptoBulkAll r
def uptoBulkEntries {H : Type} : List (Lit × DataW H) → Nat
  | [] => 0
  | x :: r => uptoBulkEntry x + uptoBulkEntries r
def uptoBulkEntry {H : Type} : Lit × DataW H → Nat
  | (.string bytes, d) => bytes.length + uptoBulk d + 1
  | (_, d) => uptoBulk d + 1
 end
def uptoSmall : (H : Type) → List (DataW H) → Bool := fun _ ds => decide (uptoBulkAll ds ≤ 1048576)
def OpenSpec.upto (s : _root_.Go.ChangeSpec) : _root_.Go.OpenSpec := { _root_.Go.OpenSpec.ofChange s with cond := some uptoSmall }

/-- 'laws.FnFrameBack', WHERE WHAT IT READS IS OF BULK AT MOST 1048576: true; the input reads as it did. -/
def fnFrameBackUptoRow : OpenClaim := { program := "ytgihbilpimempaadoor", sum := "a3d2f972775ac21b7ffcba8fb3f0ee067285be5f5c55bbf39ce8e8188c57834d", func := "loop.example/bargeman/laws.FnFrameBack", spec := "fnFrameBack", unfollowed := true, recurses := true, named := ["loop.example/bargeman/impl.errFrameTooShort", "loop.example/bargeman/impl.errFrameSum", "loop.example/bargeman/impl.errFrameTooLong"], ifaces := true, apart := false, laid := [("loop.example/bargeman/impl.errFrameTooShort", laid_loop_example_bargeman_impl_errFrameTooShort), ("loop.example/bargeman/impl.errFrameTooLong", laid_loop_example_bargeman_impl_errFrameTooLong), ("loop.example/bargeman/impl.errFrameSum", laid_loop_example_bargeman_impl_errFrameSum)], narrowed := true }
def FnFrameBackUptoSaid : Prop := fnFrameBackUptoRow.holds Tryd.pinned (OpenSpec.upto fnFrameBackSpec)

/-- 'laws.FnFrameStrict', WHERE WHAT IT READS IS OF BULK AT MOST 1048576: true; the input reads as it did. -/
def fnFrameStrictUptoRow : OpenClaim := { program := "ytgihbilpimempaadoor", sum := "a3d2f972775ac21b7ffcba8fb3f0ee067285be5f5c55bbf39ce8e8188c57834d", func := "loop.example/bargeman/laws.FnFrameStrict", spec := "fnFrameStrict", unfollowed := true, recurses := true, named := ["loop.example/bargeman/impl.errFrameTooShort", "loop.example/bargeman/impl.errFrameSum", "loop.example/bargeman/impl.errFrameTooLong"], ifaces := true, apart := false, laid := [("loop.example/bargeman/impl.errFrameTooShort", laid_loop_example_bargeman_impl_errFrameTooShort), ("loop.example/bargeman/impl.errFrameTooLong", laid_loop_example_bargeman_impl_errFrameTooLong), ("loop.example/bargeman/impl.errFrameSum", laid_loop_example_bargeman_impl_errFrameSum)], narrowed := true }
def FnFrameStrictUptoSaid : Prop := fnFrameStrictUptoRow.holds Tryd.pinned (OpenSpec.upto fnFrameStrictSpec)

/-- 'laws.FnFrameSpoilt', WHERE WHAT IT READS IS OF BULK AT MOST 1048576: true; the input reads as it did. -/
def fnFrameSpoiltUptoRow : OpenClaim := { program := "ytgihbilpimempaadoor", sum := "a3d2f972775ac21b7ffcba8fb3f0ee067285be5f5c55bbf39ce8e8188c57834d", func := "loop.example/bargeman/laws.FnFrameSpoilt", spec := "fnFrameSpoilt", unfollowed := true, recurses := true, named := ["loop.example/bargeman/impl.errFrameTooShort", "loop.example/bargeman/impl.errFrameSum", "loop.example/bargeman/impl.errFrameTooLong"], ifaces := true, apart := false, laid := [("loop.example/bargeman/impl.errFrameTooShort", laid_loop_example_bargeman_impl_errFrameTooShort), ("loop.example/bargeman/impl.errFrameTooLong", laid_loop_example_bargeman_impl_errFrameTooLong), ("loop.example/bargeman/impl.errFrameSum", laid_loop_example_bargeman_impl_errFrameSum)], narrowed := true }
def FnFrameSpoiltUptoSaid : Prop := fnFrameSpoiltUptoRow.holds Tryd.pinned (OpenSpec.upto fnFrameSpoiltSpec)

/-- 'laws.FnFrameShort', WHERE WHAT IT READS IS OF BULK AT MOST 1048576: true; the input reads as it did. -/
def fnFrameShortUptoRow : OpenClaim := { program := "ytgihbilpimempaadoor", sum := "a3d2f972775ac21b7ffcba8fb3f0ee067285be5f5c55bbf39ce8e8188c57834d", func := "loop.example/bargeman/laws.FnFrameShort", spec := "fnFrameShort", unfollowed := true, recurses := true, named := ["loop.example/bargeman/impl.errFrameTooShort", "loop.example/bargeman/impl.errFrameSum", "loop.example/bargeman/impl.errFrameTooLong"], ifaces := true, apart := false, laid := [("loop.example/bargeman/impl.errFrameTooShort", laid_loop_example_bargeman_impl_errFrameTooShort), ("loop.example/bargeman/impl.errFrameTooLong", laid_loop_example_bargeman_impl_errFrameTooLong), ("loop.example/bargeman/impl.errFrameSum", laid_loop_example_bargeman_impl_errFrameSum)], narrowed := true }
def FnFrameShortUptoSaid : Prop := fnFrameShortUptoRow.holds Tryd.pinned (OpenSpec.upto fnFrameShortSpec)

/-- 'laws.FnExactFrameUnpack', WHERE WHAT IT READS IS OF BULK AT MOST 1048576: true; the input reads as it did. -/
def fnExactFrameUnpackUptoRow : OpenClaim := { program := "ytgihbilpimempaadoor", sum := "a3d2f972775ac21b7ffcba8fb3f0ee067285be5f5c55bbf39ce8e8188c57834d", func := "loop.example/bargeman/laws.FnExactFrameUnpack", spec := "fnExactFrameUnpack", unfollowed := true, recurses := true, named := ["loop.example/bargeman/impl.errFrameTooShort", "loop.example/bargeman/impl.errFrameSum", "loop.example/bargeman/impl.errFrameTooLong"], ifaces := true, apart := false, laid := [("loop.example/bargeman/impl.errFrameTooShort", laid_loop_example_bargeman_impl_errFrameTooShort), ("loop.example/bargeman/impl.errFrameTooLong", laid_loop_example_bargeman_impl_errFrameTooLong), ("loop.example/bargeman/impl.errFrameSum", laid_loop_example_bargeman_impl_errFrameSum)], narrowed := true }
def FnExactFrameUnpackUptoSaid : Prop := fnExactFrameUnpackUptoRow.holds Tryd.pinned (OpenSpec.upto fnExactFrameUnpackSpec)

end Rows
end Go.Proofs.YtgihbilpimempaaDoor
