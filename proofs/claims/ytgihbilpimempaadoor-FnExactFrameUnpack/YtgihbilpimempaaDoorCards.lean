/-
  DERIVED. GIVEN WITH THE SEED: THE CARDS: each row of YtgihbilpimempaaDoorRows.lean that lists a variable, with what it lists TIED to the program's text (the seventh form; the later family's looks); each row that meets fmt, with fmt's text TOLD by the authors' own Lean function (tested against real Go, not proved from fmt's source: count such statements apart). THE CARD IS WHAT COUNTS. Prove the row's statement (the work); the ties are given (YtgihbilpimempaaDoorTie.lean); close each card by the builder's one call (the guide's Derived/Test/ToyasCard.lean, 'card_holds'). Laid BY PROGRAM, IN A SANDBOX (cutbox-door.mjs). By AI agents, Wed Nov 11 2026. No macro, syntax, notation, axiom, sorry.
-/
import Derived.Test.YtgihbilpimempaaDoorRows
import GoSem.ClaimSeven
namespace Go.Proofs.YtgihbilpimempaaDoor
namespace Rows

/-- THE TIED CARD OF 'laws.FnFrameBack'. -/
def fnFrameBackCard : Claim7 := { stood := { row := fnFrameBackRow, standIns := [], harness := (true, "8124b395191f46d9daa81c645c99eae09524d1cac78349357a50e128310eb475"), looks := false }, kinds := [], alts := [], laidByText := true, laidKinds := [.sentinel, .sentinel, .sentinel], laidTests := true, laidLooks := .later }
def FnFrameBackCardSaid : Prop := Claim7.holds Tryd.pinned (.plain (OpenSpec.ofChange fnFrameBackSpec)) fnFrameBackCard

/-- THE TIED CARD OF 'laws.FnFrameStrict'. -/
def fnFrameStrictCard : Claim7 := { stood := { row := fnFrameStrictRow, standIns := [], harness := (true, "8124b395191f46d9daa81c645c99eae09524d1cac78349357a50e128310eb475"), looks := false }, kinds := [], alts := [], laidByText := true, laidKinds := [.sentinel, .sentinel, .sentinel], laidTests := true, laidLooks := .later }
def FnFrameStrictCardSaid : Prop := Claim7.holds Tryd.pinned (.plain (OpenSpec.ofChange fnFrameStrictSpec)) fnFrameStrictCard

/-- THE TIED CARD OF 'laws.FnFrameSpoilt'. -/
def fnFrameSpoiltCard : Claim7 := { stood := { row := fnFrameSpoiltRow, standIns := [], harness := (true, "8124b395191f46d9daa81c645c99eae09524d1cac78349357a50e128310eb475"), looks := false }, kinds := [], alts := [], laidByText := true, laidKinds := [.sentinel, .sentinel, .sentinel], laidTests := true, laidLooks := .later }
def FnFrameSpoiltCardSaid : Prop := Claim7.holds Tryd.pinned (.plain (OpenSpec.ofChange fnFrameSpoiltSpec)) fnFrameSpoiltCard

/-- THE TIED CARD OF 'laws.FnFrameShort'. -/
def fnFrameShortCard : Claim7 := { stood := { row := fnFrameShortRow, standIns := [], harness := (true, "8124b395191f46d9daa81c645c99eae09524d1cac78349357a50e128310eb475"), looks := false }, kinds := [], alts := [], laidByText := true, laidKinds := [.sentinel, .sentinel, .sentinel], laidTests := true, laidLooks := .later }
def FnFrameShortCardSaid : Prop := Claim7.holds Tryd.pinned (.plain (OpenSpec.ofChange fnFrameShortSpec)) fnFrameShortCard

/-- THE TIED CARD OF 'laws.FnExactFrameUnpack'. -/
def fnExactFrameUnpackCard : Claim7 := { stood := { row := fnExactFrameUnpackRow, standIns := [], harness := (true, "8124b395191f46d9daa81c645c99eae09524d1cac78349357a50e128310eb475"), looks := false }, kinds := [], alts := [], laidByText := true, laidKinds := [.sentinel, .sentinel, .sentinel], laidTests := true, laidLooks := .later }
def FnExactFrameUnpackCardSaid : Prop := Claim7.holds Tryd.pinned (.plain (OpenSpec.ofChange fnExactFrameUnpackSpec)) fnExactFrameUnpackCard

/-- THE SECOND FORM's CARD OF 'laws.FnFrameBack'. -/
def fnFrameBackUptoCard : Claim7 := { stood := { row := fnFrameBackUptoRow, standIns := [], harness := (true, "8124b395191f46d9daa81c645c99eae09524d1cac78349357a50e128310eb475"), looks := false }, kinds := [], alts := [], laidByText := true, laidKinds := [.sentinel, .sentinel, .sentinel], laidTests := true, laidLooks := .later }
def FnFrameBackUptoCardSaid : Prop := Claim7.holds Tryd.pinned (.plain (OpenSpec.upto fnFrameBackSpec)) fnFrameBackUptoCard

/-- THE SECOND FORM's CARD OF 'laws.FnFrameStrict'. -/
def fnFrameStrictUptoCard : Claim7 := { stood := { row := fnFrameStrictUptoRow, standIns := [], harness := (true, "8124b395191f46d9daa81c645c99eae09524d1cac78349357a50e128310eb475"), looks := false }, kinds := [], alts := [], laidByText := true, laidKinds := [.sentinel, .sentinel, .sentinel], laidTests := true, laidLooks := .later }
def FnFrameStrictUptoCardSaid : Prop := Claim7.holds Tryd.pinned (.plain (OpenSpec.upto fnFrameStrictSpec)) fnFrameStrictUptoCard

/-- THE SECOND FORM's CARD OF 'laws.FnFrameSpoilt'. -/
def fnFrameSpoiltUptoCard : Claim7 := { stood := { row := fnFrameSpoiltUptoRow, standIns := [], harness := (true, "8124b395191f46d9daa81c645c99eae09524d1cac78349357a50e128310eb475"), looks := false }, kinds := [], alts := [], laidByText := true, laidKinds := [.sentinel, .sentinel, .sentinel], laidTests := true, laidLooks := .later }
def FnFrameSpoiltUptoCardSaid : Prop := Claim7.holds Tryd.pinned (.plain (OpenSpec.upto fnFrameSpoiltSpec)) fnFrameSpoiltUptoCard

/-- THE SECOND FORM's CARD OF 'laws.FnFrameShort'. -/
def fnFrameShortUptoCard : Claim7 := { stood := { row := fnFrameShortUptoRow, standIns := [], harness := (true, "8124b395191f46d9daa81c645c99eae09524d1cac78349357a50e128310eb475"), looks := false }, kinds := [], alts := [], laidByText := true, laidKinds := [.sentinel, .sentinel, .sentinel], laidTests := true, laidLooks := .later }
def FnFrameShortUptoCardSaid : Prop := Claim7.holds Tryd.pinned (.plain (OpenSpec.upto fnFrameShortSpec)) fnFrameShortUptoCard

/-- THE SECOND FORM's CARD OF 'laws.FnExactFrameUnpack'. -/
def fnExactFrameUnpackUptoCard : Claim7 := { stood := { row := fnExactFrameUnpackUptoRow, standIns := [], harness := (true, "8124b395191f46d9daa81c645c99eae09524d1cac78349357a50e128310eb475"), looks := false }, kinds := [], alts := [], laidByText := true, laidKinds := [.sentinel, .sentinel, .sentinel], laidTests := true, laidLooks := .later }
def FnExactFrameUnpackUptoCardSaid : Prop := Claim7.holds Tryd.pinned (.plain (OpenSpec.upto fnExactFrameUnpackSpec)) fnExactFrameUnpackUptoCard
end Rows
end Go.Proofs.YtgihbilpimempaaDoor
