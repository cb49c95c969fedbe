/-
  DERIVED. GIVEN WITH THE SEED: THE CARDS: each row of YtapkfajgphkajaaGreatDoorRows.lean that lists a variable, with what it lists TIED to the program's text (the seventh form; the later family's looks); each row that meets fmt, with fmt's text TOLD by the authors' own Lean function (tested against real Go, not proved from fmt's source: count such statements apart). THE CARD IS WHAT COUNTS. Prove the row's statement (the work); the ties are given (YtapkfajgphkajaaGreatDoorTie.lean); close each card by the builder's one call (the guide's Derived/Test/ToyasCard.lean, 'card_holds'). Laid BY PROGRAM, IN A SANDBOX (cutbox-door.mjs). By AI agents, Wed Nov 11 2026. No macro, syntax, notation, axiom, sorry.
-/
import Derived.Test.YtapkfajgphkajaaGreatDoorRows
import GoSem.ClaimSeven
namespace Go.Proofs.YtapkfajgphkajaaGreatDoor
namespace Rows

/-- THE TIED CARD OF 'laws.FnShelfAdd'. -/
def fnShelfAddCard : Claim7 := { stood := { row := fnShelfAddRow, standIns := [], harness := (true, "c3baf9d8a977e26dd941f862af409529b56fe696911727dd0041dd0408c343d6"), looks := true }, kinds := [], alts := [], laidByText := true, laidKinds := [.data, .data, .data, .handle, .sentinel, .sentinel], laidTests := true, laidLooks := .later }
def FnShelfAddCardSaid : Prop := Claim7.holds Tryz.pinned (.plain (OpenSpec.ofChange fnShelfAddSpec)) fnShelfAddCard

/-- THE TIED CARD OF 'laws.FnShelfPack'. -/
def fnShelfPackCard : Claim7 := { stood := { row := fnShelfPackRow, standIns := [], harness := (true, "c3baf9d8a977e26dd941f862af409529b56fe696911727dd0041dd0408c343d6"), looks := true }, kinds := [], alts := [], laidByText := true, laidKinds := [.data, .data, .data, .handle, .sentinel, .sentinel], laidTests := true, laidLooks := .later }
def FnShelfPackCardSaid : Prop := Claim7.holds Tryz.pinned (.plain (OpenSpec.ofChange fnShelfPackSpec)) fnShelfPackCard

/-- THE TIED CARD OF 'laws.FnShelfNone'. -/
def fnShelfNoneCard : Claim7 := { stood := { row := fnShelfNoneRow, standIns := [], harness := (true, "c3baf9d8a977e26dd941f862af409529b56fe696911727dd0041dd0408c343d6"), looks := true }, kinds := [], alts := [], laidByText := true, laidKinds := [.data, .data, .data, .handle, .sentinel, .sentinel], laidTests := true, laidLooks := .later }
def FnShelfNoneCardSaid : Prop := Claim7.holds Tryz.pinned (.plain (OpenSpec.ofChange fnShelfNoneSpec)) fnShelfNoneCard

/-- THE TIED CARD OF 'laws.FnShelfTwo'. -/
def fnShelfTwoCard : Claim7 := { stood := { row := fnShelfTwoRow, standIns := [], harness := (true, "c3baf9d8a977e26dd941f862af409529b56fe696911727dd0041dd0408c343d6"), looks := true }, kinds := [], alts := [], laidByText := true, laidKinds := [.data, .data, .data, .handle, .sentinel, .sentinel], laidTests := true, laidLooks := .later }
def FnShelfTwoCardSaid : Prop := Claim7.holds Tryz.pinned (.plain (OpenSpec.ofChange fnShelfTwoSpec)) fnShelfTwoCard

/-- THE TIED CARD OF 'laws.FnShelfSafe'. -/
def fnShelfSafeCard : Claim7 := { stood := { row := fnShelfSafeRow, standIns := [], harness := (true, "c3baf9d8a977e26dd941f862af409529b56fe696911727dd0041dd0408c343d6"), looks := true }, kinds := [], alts := [], laidByText := true, laidKinds := [.data, .data, .data, .handle, .sentinel, .sentinel], laidTests := true, laidLooks := .later }
def FnShelfSafeCardSaid : Prop := Claim7.holds Tryz.pinned (.plain (OpenSpec.ofChange fnShelfSafeSpec)) fnShelfSafeCard

/-- THE SECOND FORM's CARD OF 'laws.FnShelfAdd'. -/
def fnShelfAddUptoCard : Claim7 := { stood := { row := fnShelfAddUptoRow, standIns := [], harness := (true, "c3baf9d8a977e26dd941f862af409529b56fe696911727dd0041dd0408c343d6"), looks := true }, kinds := [], alts := [], laidByText := true, laidKinds := [.data, .data, .data, .handle, .sentinel, .sentinel], laidTests := true, laidLooks := .later }
def FnShelfAddUptoCardSaid : Prop := Claim7.holds Tryz.pinned (.plain (OpenSpec.upto fnShelfAddSpec)) fnShelfAddUptoCard

/-- THE SECOND FORM's CARD OF 'laws.FnShelfPack'. -/
def fnShelfPackUptoCard : Claim7 := { stood := { row := fnShelfPackUptoRow, standIns := [], harness := (true, "c3baf9d8a977e26dd941f862af409529b56fe696911727dd0041dd0408c343d6"), looks := true }, kinds := [], alts := [], laidByText := true, laidKinds := [.data, .data, .data, .handle, .sentinel, .sentinel], laidTests := true, laidLooks := .later }
def FnShelfPackUptoCardSaid : Prop := Claim7.holds Tryz.pinned (.plain (OpenSpec.upto fnShelfPackSpec)) fnShelfPackUptoCard

/-- THE SECOND FORM's CARD OF 'laws.FnShelfNone'. -/
def fnShelfNoneUptoCard : Claim7 := { stood := { row := fnShelfNoneUptoRow, standIns := [], harness := (true, "c3baf9d8a977e26dd941f862af409529b56fe696911727dd0041dd0408c343d6"), looks := true }, kinds := [], alts := [], laidByText := true, laidKinds := [.data, .data, .data, .handle, .sentinel, .sentinel], laidTests := true, laidLooks := .later }
def FnShelfNoneUptoCardSaid : Prop := Claim7.holds Tryz.pinned (.plain (OpenSpec.upto fnShelfNoneSpec)) fnShelfNoneUptoCard

/-- THE SECOND FORM's CARD OF 'laws.FnShelfTwo'. -/
def fnShelfTwoUptoCard : Claim7 := { stood := { row := fnShelfTwoUptoRow, standIns := [], harness := (true, "c3baf9d8a977e26dd941f862af409529b56fe696911727dd0041dd0408c343d6"), looks := true }, kinds := [], alts := [], laidByText := true, laidKinds := [.data, .data, .data, .handle, .sentinel, .sentinel], laidTests := true, laidLooks := .later }
def FnShelfTwoUptoCardSaid : Prop := Claim7.holds Tryz.pinned (.plain (OpenSpec.upto fnShelfTwoSpec)) fnShelfTwoUptoCard

/-- THE SECOND FORM's CARD OF 'laws.FnShelfSafe'. -/
def fnShelfSafeUptoCard : Claim7 := { stood := { row := fnShelfSafeUptoRow, standIns := [], harness := (true, "c3baf9d8a977e26dd941f862af409529b56fe696911727dd0041dd0408c343d6"), looks := true }, kinds := [], alts := [], laidByText := true, laidKinds := [.data, .data, .data, .handle, .sentinel, .sentinel], laidTests := true, laidLooks := .later }
def FnShelfSafeUptoCardSaid : Prop := Claim7.holds Tryz.pinned (.plain (OpenSpec.upto fnShelfSafeSpec)) fnShelfSafeUptoCard
end Rows
end Go.Proofs.YtapkfajgphkajaaGreatDoor
