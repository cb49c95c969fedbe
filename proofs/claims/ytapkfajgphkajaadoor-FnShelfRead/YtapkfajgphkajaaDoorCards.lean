/-
  DERIVED. GIVEN WITH THE SEED: THE CARDS: each row of YtapkfajgphkajaaDoorRows.lean that lists a variable, with what it lists TIED to the program's text (the seventh form; the later family's looks); each row that meets fmt, with fmt's text TOLD by the authors' own Lean function (tested against real Go, not proved from fmt's source: count such statements apart). THE CARD IS WHAT COUNTS. Prove the row's statement (the work); the ties are given (YtapkfajgphkajaaDoorTie.lean); close each card by the builder's one call (the guide's Derived/Test/ToyasCard.lean, 'card_holds'). Laid BY PROGRAM, IN A SANDBOX (cutbox-door.mjs). By AI agents, Wed Nov 11 2026. No macro, syntax, notation, axiom, sorry.
-/
import Derived.Test.YtapkfajgphkajaaDoorRows
import GoSem.ClaimSeven
namespace Go.Proofs.YtapkfajgphkajaaDoor
namespace Rows

/-- THE TIED CARD OF 'laws.FnShelfCut'. -/
def fnShelfCutCard : Claim7 := { stood := { row := fnShelfCutRow, standIns := [], harness := (true, "3c6fec435291172a5c816cfac6ba758a706bebda589e5f6f3d11b3c86231c966"), looks := true }, kinds := [], alts := [], laidByText := true, laidKinds := [.data, .data, .data, .handle, .sentinel, .sentinel], laidTests := true, laidLooks := .later }
def FnShelfCutCardSaid : Prop := Claim7.holds Tryd.pinned (.plain (OpenSpec.ofChange fnShelfCutSpec)) fnShelfCutCard

/-- THE TIED CARD OF 'laws.FnShelfFall'. -/
def fnShelfFallCard : Claim7 := { stood := { row := fnShelfFallRow, standIns := [], harness := (true, "3c6fec435291172a5c816cfac6ba758a706bebda589e5f6f3d11b3c86231c966"), looks := true }, kinds := [], alts := [], laidByText := true, laidKinds := [.data, .data, .data, .handle, .sentinel, .sentinel], laidTests := true, laidLooks := .later }
def FnShelfFallCardSaid : Prop := Claim7.holds Tryd.pinned (.plain (OpenSpec.ofChange fnShelfFallSpec)) fnShelfFallCard

/-- THE TIED CARD OF 'laws.FnShelfForce'. -/
def fnShelfForceCard : Claim7 := { stood := { row := fnShelfForceRow, standIns := [], harness := (true, "3c6fec435291172a5c816cfac6ba758a706bebda589e5f6f3d11b3c86231c966"), looks := true }, kinds := [], alts := [], laidByText := true, laidKinds := [.data, .data, .data, .handle, .sentinel, .sentinel], laidTests := true, laidLooks := .later }
def FnShelfForceCardSaid : Prop := Claim7.holds Tryd.pinned (.plain (OpenSpec.ofChange fnShelfForceSpec)) fnShelfForceCard

/-- THE TIED CARD OF 'laws.FnShelfRead'. -/
def fnShelfReadCard : Claim7 := { stood := { row := fnShelfReadRow, standIns := [], harness := (true, "3c6fec435291172a5c816cfac6ba758a706bebda589e5f6f3d11b3c86231c966"), looks := true }, kinds := [], alts := [], laidByText := true, laidKinds := [.data, .data, .data, .handle, .sentinel, .sentinel], laidTests := true, laidLooks := .later }
def FnShelfReadCardSaid : Prop := Claim7.holds Tryd.pinned (.plain (OpenSpec.ofChange fnShelfReadSpec)) fnShelfReadCard

/-- THE TIED CARD OF 'laws.FnExactShelfRead'. -/
def fnExactShelfReadCard : Claim7 := { stood := { row := fnExactShelfReadRow, standIns := [], harness := (true, "3c6fec435291172a5c816cfac6ba758a706bebda589e5f6f3d11b3c86231c966"), looks := true }, kinds := [], alts := [], laidByText := true, laidKinds := [.data, .data, .data, .handle, .sentinel, .sentinel], laidTests := true, laidLooks := .later }
def FnExactShelfReadCardSaid : Prop := Claim7.holds Tryd.pinned (.plain (OpenSpec.ofChange fnExactShelfReadSpec)) fnExactShelfReadCard

/-- THE TIED CARD OF 'laws.FnExactShelfOk'. -/
def fnExactShelfOkCard : Claim7 := { stood := { row := fnExactShelfOkRow, standIns := [], harness := (true, "3c6fec435291172a5c816cfac6ba758a706bebda589e5f6f3d11b3c86231c966"), looks := true }, kinds := [], alts := [], laidByText := true, laidKinds := [.data, .data, .data, .handle, .sentinel, .sentinel], laidTests := true, laidLooks := .later }
def FnExactShelfOkCardSaid : Prop := Claim7.holds Tryd.pinned (.plain (OpenSpec.ofChange fnExactShelfOkSpec)) fnExactShelfOkCard

/-- THE TIED CARD OF 'laws.FnExactShelfAdd'. -/
def fnExactShelfAddCard : Claim7 := { stood := { row := fnExactShelfAddRow, standIns := [], harness := (true, "3c6fec435291172a5c816cfac6ba758a706bebda589e5f6f3d11b3c86231c966"), looks := true }, kinds := [], alts := [], laidByText := true, laidKinds := [.data, .data, .data, .handle, .sentinel, .sentinel], laidTests := true, laidLooks := .later }
def FnExactShelfAddCardSaid : Prop := Claim7.holds Tryd.pinned (.plain (OpenSpec.ofChange fnExactShelfAddSpec)) fnExactShelfAddCard

/-- THE TIED CARD OF 'laws.FnExactShelfForce'. -/
def fnExactShelfForceCard : Claim7 := { stood := { row := fnExactShelfForceRow, standIns := [], harness := (true, "3c6fec435291172a5c816cfac6ba758a706bebda589e5f6f3d11b3c86231c966"), looks := true }, kinds := [], alts := [], laidByText := true, laidKinds := [.data, .data, .data, .handle, .sentinel, .sentinel], laidTests := true, laidLooks := .later }
def FnExactShelfForceCardSaid : Prop := Claim7.holds Tryd.pinned (.plain (OpenSpec.ofChange fnExactShelfForceSpec)) fnExactShelfForceCard

/-- THE TIED CARD OF 'laws.FnExactShelfFall'. -/
def fnExactShelfFallCard : Claim7 := { stood := { row := fnExactShelfFallRow, standIns := [], harness := (true, "3c6fec435291172a5c816cfac6ba758a706bebda589e5f6f3d11b3c86231c966"), looks := true }, kinds := [], alts := [], laidByText := true, laidKinds := [.data, .data, .data, .handle, .sentinel, .sentinel], laidTests := true, laidLooks := .later }
def FnExactShelfFallCardSaid : Prop := Claim7.holds Tryd.pinned (.plain (OpenSpec.ofChange fnExactShelfFallSpec)) fnExactShelfFallCard

/-- THE TIED CARD OF 'laws.FnExactShelfPack'. -/
def fnExactShelfPackCard : Claim7 := { stood := { row := fnExactShelfPackRow, standIns := [], harness := (true, "3c6fec435291172a5c816cfac6ba758a706bebda589e5f6f3d11b3c86231c966"), looks := true }, kinds := [], alts := [], laidByText := true, laidKinds := [.data, .data, .data, .handle, .sentinel, .sentinel], laidTests := true, laidLooks := .later }
def FnExactShelfPackCardSaid : Prop := Claim7.holds Tryd.pinned (.plain (OpenSpec.ofChange fnExactShelfPackSpec)) fnExactShelfPackCard

/-- THE SECOND FORM's CARD OF 'laws.FnShelfCut'. -/
def fnShelfCutUptoCard : Claim7 := { stood := { row := fnShelfCutUptoRow, standIns := [], harness := (true, "3c6fec435291172a5c816cfac6ba758a706bebda589e5f6f3d11b3c86231c966"), looks := true }, kinds := [], alts := [], laidByText := true, laidKinds := [.data, .data, .data, .handle, .sentinel, .sentinel], laidTests := true, laidLooks := .later }
def FnShelfCutUptoCardSaid : Prop := Claim7.holds Tryd.pinned (.plain (OpenSpec.upto fnShelfCutSpec)) fnShelfCutUptoCard

/-- THE SECOND FORM's CARD OF 'laws.FnShelfFall'. -/
def fnShelfFallUptoCard : Claim7 := { stood := { row := fnShelfFallUptoRow, standIns := [], harness := (true, "3c6fec435291172a5c816cfac6ba758a706bebda589e5f6f3d11b3c86231c966"), looks := true }, kinds := [], alts := [], laidByText := true, laidKinds := [.data, .data, .data, .handle, .sentinel, .sentinel], laidTests := true, laidLooks := .later }
def FnShelfFallUptoCardSaid : Prop := Claim7.holds Tryd.pinned (.plain (OpenSpec.upto fnShelfFallSpec)) fnShelfFallUptoCard

/-- THE SECOND FORM's CARD OF 'laws.FnShelfForce'. -/
def fnShelfForceUptoCard : Claim7 := { stood := { row := fnShelfForceUptoRow, standIns := [], harness := (true, "3c6fec435291172a5c816cfac6ba758a706bebda589e5f6f3d11b3c86231c966"), looks := true }, kinds := [], alts := [], laidByText := true, laidKinds := [.data, .data, .data, .handle, .sentinel, .sentinel], laidTests := true, laidLooks := .later }
def FnShelfForceUptoCardSaid : Prop := Claim7.holds Tryd.pinned (.plain (OpenSpec.upto fnShelfForceSpec)) fnShelfForceUptoCard

/-- THE SECOND FORM's CARD OF 'laws.FnShelfRead'. -/
def fnShelfReadUptoCard : Claim7 := { stood := { row := fnShelfReadUptoRow, standIns := [], harness := (true, "3c6fec435291172a5c816cfac6ba758a706bebda589e5f6f3d11b3c86231c966"), looks := true }, kinds := [], alts := [], laidByText := true, laidKinds := [.data, .data, .data, .handle, .sentinel, .sentinel], laidTests := true, laidLooks := .later }
def FnShelfReadUptoCardSaid : Prop := Claim7.holds Tryd.pinned (.plain (OpenSpec.upto fnShelfReadSpec)) fnShelfReadUptoCard

/-- THE SECOND FORM's CARD OF 'laws.FnExactShelfRead'. -/
def fnExactShelfReadUptoCard : Claim7 := { stood := { row := fnExactShelfReadUptoRow, standIns := [], harness := (true, "3c6fec435291172a5c816cfac6ba758a706bebda589e5f6f3d11b3c86231c966"), looks := true }, kinds := [], alts := [], laidByText := true, laidKinds := [.data, .data, .data, .handle, .sentinel, .sentinel], laidTests := true, laidLooks := .later }
def FnExactShelfReadUptoCardSaid : Prop := Claim7.holds Tryd.pinned (.plain (OpenSpec.upto fnExactShelfReadSpec)) fnExactShelfReadUptoCard

/-- THE SECOND FORM's CARD OF 'laws.FnExactShelfOk'. -/
def fnExactShelfOkUptoCard : Claim7 := { stood := { row := fnExactShelfOkUptoRow, standIns := [], harness := (true, "3c6fec435291172a5c816cfac6ba758a706bebda589e5f6f3d11b3c86231c966"), looks := true }, kinds := [], alts := [], laidByText := true, laidKinds := [.data, .data, .data, .handle, .sentinel, .sentinel], laidTests := true, laidLooks := .later }
def FnExactShelfOkUptoCardSaid : Prop := Claim7.holds Tryd.pinned (.plain (OpenSpec.upto fnExactShelfOkSpec)) fnExactShelfOkUptoCard

/-- THE SECOND FORM's CARD OF 'laws.FnExactShelfAdd'. -/
def fnExactShelfAddUptoCard : Claim7 := { stood := { row := fnExactShelfAddUptoRow, standIns := [], harness := (true, "3c6fec435291172a5c816cfac6ba758a706bebda589e5f6f3d11b3c86231c966"), looks := true }, kinds := [], alts := [], laidByText := true, laidKinds := [.data, .data, .data, .handle, .sentinel, .sentinel], laidTests := true, laidLooks := .later }
def FnExactShelfAddUptoCardSaid : Prop := Claim7.holds Tryd.pinned (.plain (OpenSpec.upto fnExactShelfAddSpec)) fnExactShelfAddUptoCard

/-- THE SECOND FORM's CARD OF 'laws.FnExactShelfForce'. -/
def fnExactShelfForceUptoCard : Claim7 := { stood := { row := fnExactShelfForceUptoRow, standIns := [], harness := (true, "3c6fec435291172a5c816cfac6ba758a706bebda589e5f6f3d11b3c86231c966"), looks := true }, kinds := [], alts := [], laidByText := true, laidKinds := [.data, .data, .data, .handle, .sentinel, .sentinel], laidTests := true, laidLooks := .later }
def FnExactShelfForceUptoCardSaid : Prop := Claim7.holds Tryd.pinned (.plain (OpenSpec.upto fnExactShelfForceSpec)) fnExactShelfForceUptoCard

/-- THE SECOND FORM's CARD OF 'laws.FnExactShelfFall'. -/
def fnExactShelfFallUptoCard : Claim7 := { stood := { row := fnExactShelfFallUptoRow, standIns := [], harness := (true, "3c6fec435291172a5c816cfac6ba758a706bebda589e5f6f3d11b3c86231c966"), looks := true }, kinds := [], alts := [], laidByText := true, laidKinds := [.data, .data, .data, .handle, .sentinel, .sentinel], laidTests := true, laidLooks := .later }
def FnExactShelfFallUptoCardSaid : Prop := Claim7.holds Tryd.pinned (.plain (OpenSpec.upto fnExactShelfFallSpec)) fnExactShelfFallUptoCard

/-- THE SECOND FORM's CARD OF 'laws.FnExactShelfPack'. -/
def fnExactShelfPackUptoCard : Claim7 := { stood := { row := fnExactShelfPackUptoRow, standIns := [], harness := (true, "3c6fec435291172a5c816cfac6ba758a706bebda589e5f6f3d11b3c86231c966"), looks := true }, kinds := [], alts := [], laidByText := true, laidKinds := [.data, .data, .data, .handle, .sentinel, .sentinel], laidTests := true, laidLooks := .later }
def FnExactShelfPackUptoCardSaid : Prop := Claim7.holds Tryd.pinned (.plain (OpenSpec.upto fnExactShelfPackSpec)) fnExactShelfPackUptoCard
end Rows
end Go.Proofs.YtapkfajgphkajaaDoor
