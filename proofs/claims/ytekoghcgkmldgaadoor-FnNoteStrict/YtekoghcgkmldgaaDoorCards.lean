/-
  DERIVED. GIVEN WITH THE SEED: THE CARDS: each row of YtekoghcgkmldgaaDoorRows.lean that lists a variable, with what it lists TIED to the program's text (the seventh form; the later family's looks); each row that meets fmt, with fmt's text TOLD by the authors' own Lean function (tested against real Go, not proved from fmt's source: count such statements apart). THE CARD IS WHAT COUNTS. Prove the row's statement (the work); the ties are given (YtekoghcgkmldgaaDoorTie.lean); close each card by the builder's one call (the guide's Derived/Test/ToyasCard.lean, 'card_holds'). Laid BY PROGRAM, IN A SANDBOX (cutbox-door.mjs). By AI agents, Wed Nov 11 2026. No macro, syntax, notation, axiom, sorry.
-/
import Derived.Test.YtekoghcgkmldgaaDoorRows
import GoSem.ClaimSeven
namespace Go.Proofs.YtekoghcgkmldgaaDoor
namespace Rows

/-- THE TIED CARD OF 'laws.FnNoteText'. -/
def fnNoteTextCard : Claim7 := { stood := { row := fnNoteTextRow, standIns := [], harness := (true, "1977cbb98dfcf1ce57a2f2fd5cc073bab8bee360acecf14334b659527fcfa9df"), looks := true }, kinds := [], alts := [], laidByText := true, laidKinds := [.data, .data, .data, .sentinel, .sentinel], laidTests := true, laidLooks := .later }
def FnNoteTextCardSaid : Prop := Claim7.holds Tryd.pinned (.plain (OpenSpec.ofChange fnNoteTextSpec)) fnNoteTextCard

/-- THE TIED CARD OF 'laws.FnNoteStrict'. -/
def fnNoteStrictCard : Claim7 := { stood := { row := fnNoteStrictRow, standIns := [], harness := (true, "1977cbb98dfcf1ce57a2f2fd5cc073bab8bee360acecf14334b659527fcfa9df"), looks := true }, kinds := [], alts := [], laidByText := true, laidKinds := [.data, .data, .data, .sentinel, .sentinel], laidTests := true, laidLooks := .later }
def FnNoteStrictCardSaid : Prop := Claim7.holds Tryd.pinned (.plain (OpenSpec.ofChange fnNoteStrictSpec)) fnNoteStrictCard

/-- THE TIED CARD OF 'laws.FnExactNoteWrite'. -/
def fnExactNoteWriteCard : Claim7 := { stood := { row := fnExactNoteWriteRow, standIns := [], harness := (true, "1977cbb98dfcf1ce57a2f2fd5cc073bab8bee360acecf14334b659527fcfa9df"), looks := true }, kinds := [], alts := [], laidByText := true, laidKinds := [.data, .data, .data], laidTests := true, laidLooks := .later }
def FnExactNoteWriteCardSaid : Prop := Claim7.holds Tryd.pinned (.plain (OpenSpec.ofChange fnExactNoteWriteSpec)) fnExactNoteWriteCard

/-- THE TIED CARD OF 'laws.FnExactNoteRead'. -/
def fnExactNoteReadCard : Claim7 := { stood := { row := fnExactNoteReadRow, standIns := [], harness := (true, "1977cbb98dfcf1ce57a2f2fd5cc073bab8bee360acecf14334b659527fcfa9df"), looks := true }, kinds := [], alts := [], laidByText := true, laidKinds := [.data, .data, .data, .sentinel, .sentinel], laidTests := true, laidLooks := .later }
def FnExactNoteReadCardSaid : Prop := Claim7.holds Tryd.pinned (.plain (OpenSpec.ofChange fnExactNoteReadSpec)) fnExactNoteReadCard

/-- THE SECOND FORM's CARD OF 'laws.FnNoteText'. -/
def fnNoteTextUptoCard : Claim7 := { stood := { row := fnNoteTextUptoRow, standIns := [], harness := (true, "1977cbb98dfcf1ce57a2f2fd5cc073bab8bee360acecf14334b659527fcfa9df"), looks := true }, kinds := [], alts := [], laidByText := true, laidKinds := [.data, .data, .data, .sentinel, .sentinel], laidTests := true, laidLooks := .later }
def FnNoteTextUptoCardSaid : Prop := Claim7.holds Tryd.pinned (.plain (OpenSpec.upto fnNoteTextSpec)) fnNoteTextUptoCard

/-- THE SECOND FORM's CARD OF 'laws.FnNoteStrict'. -/
def fnNoteStrictUptoCard : Claim7 := { stood := { row := fnNoteStrictUptoRow, standIns := [], harness := (true, "1977cbb98dfcf1ce57a2f2fd5cc073bab8bee360acecf14334b659527fcfa9df"), looks := true }, kinds := [], alts := [], laidByText := true, laidKinds := [.data, .data, .data, .sentinel, .sentinel], laidTests := true, laidLooks := .later }
def FnNoteStrictUptoCardSaid : Prop := Claim7.holds Tryd.pinned (.plain (OpenSpec.upto fnNoteStrictSpec)) fnNoteStrictUptoCard

/-- THE SECOND FORM's CARD OF 'laws.FnExactNoteWrite'. -/
def fnExactNoteWriteUptoCard : Claim7 := { stood := { row := fnExactNoteWriteUptoRow, standIns := [], harness := (true, "1977cbb98dfcf1ce57a2f2fd5cc073bab8bee360acecf14334b659527fcfa9df"), looks := true }, kinds := [], alts := [], laidByText := true, laidKinds := [.data, .data, .data], laidTests := true, laidLooks := .later }
def FnExactNoteWriteUptoCardSaid : Prop := Claim7.holds Tryd.pinned (.plain (OpenSpec.upto fnExactNoteWriteSpec)) fnExactNoteWriteUptoCard

/-- THE SECOND FORM's CARD OF 'laws.FnExactNoteRead'. -/
def fnExactNoteReadUptoCard : Claim7 := { stood := { row := fnExactNoteReadUptoRow, standIns := [], harness := (true, "1977cbb98dfcf1ce57a2f2fd5cc073bab8bee360acecf14334b659527fcfa9df"), looks := true }, kinds := [], alts := [], laidByText := true, laidKinds := [.data, .data, .data, .sentinel, .sentinel], laidTests := true, laidLooks := .later }
def FnExactNoteReadUptoCardSaid : Prop := Claim7.holds Tryd.pinned (.plain (OpenSpec.upto fnExactNoteReadSpec)) fnExactNoteReadUptoCard
end Rows
end Go.Proofs.YtekoghcgkmldgaaDoor
