/-
  DERIVED. GIVEN WITH THE SEED: THE CARDS: each row of YthboeppmlhbofabDoorRows.lean that lists a variable, with what it lists TIED to the program's text (the seventh form; the later family's looks); each row that meets fmt, with fmt's text TOLD by the authors' own Lean function (tested against real Go, not proved from fmt's source: count such statements apart). THE CARD IS WHAT COUNTS. Prove the row's statement (the work); the ties are given (YthboeppmlhbofabDoorTie.lean); close each card by the builder's one call (the guide's Derived/Test/ToyasCard.lean, 'card_holds'). Laid BY PROGRAM, IN A SANDBOX (cutbox-door.mjs). By AI agents, Wed Nov 11 2026. No macro, syntax, notation, axiom, sorry.
-/
import Derived.Test.YthboeppmlhbofabDoorRows
import GoSem.ClaimSeven
namespace Go.Proofs.YthboeppmlhbofabDoor
namespace Rows

/-- THE TIED CARD OF 'trailkeep.Logged'. -/
def loggedCard : Claim7 := { stood := { row := loggedRow, standIns := [], harness := (true, "13512eeaddad481bc5172e3afdedbf6c8f611a637dfe6ba9f4f0071527a48c08"), looks := false }, kinds := [], alts := [], laidByText := true, laidKinds := [.data, .data, .data], laidTests := true, laidLooks := .later }
def LoggedCardSaid : Prop := Claim7.holds Tryd.pinned (.plain (OpenSpec.ofChange loggedSpec)) loggedCard

/-- THE TIED CARD OF 'trailkeep.Within'. -/
def withinCard : Claim7 := { stood := { row := withinRow, standIns := [], harness := (true, "13512eeaddad481bc5172e3afdedbf6c8f611a637dfe6ba9f4f0071527a48c08"), looks := false }, kinds := [], alts := [], laidByText := true, laidKinds := [.data, .data, .data], laidTests := true, laidLooks := .later }
def WithinCardSaid : Prop := Claim7.holds Tryd.pinned (.plain (OpenSpec.ofChange withinSpec)) withinCard

/-- THE TIED CARD OF 'trailkeep.Fresh'. -/
def freshCard : Claim7 := { stood := { row := freshRow, standIns := [], harness := (true, "13512eeaddad481bc5172e3afdedbf6c8f611a637dfe6ba9f4f0071527a48c08"), looks := false }, kinds := [], alts := [], laidByText := true, laidKinds := [.data, .data, .data], laidTests := true, laidLooks := .later }
def FreshCardSaid : Prop := Claim7.holds Tryd.pinned (.plain (OpenSpec.ofChange freshSpec)) freshCard

/-- THE TIED CARD OF 'trailkeep.Refused'. -/
def refusedCard : Claim7 := { stood := { row := refusedRow, standIns := [], harness := (true, "13512eeaddad481bc5172e3afdedbf6c8f611a637dfe6ba9f4f0071527a48c08"), looks := false }, kinds := [], alts := [], laidByText := true, laidKinds := [.data, .data, .data], laidTests := true, laidLooks := .later }
def RefusedCardSaid : Prop := Claim7.holds Tryd.pinned (.plain (OpenSpec.ofChange refusedSpec)) refusedCard

/-- THE TIED CARD OF 'trailkeep.Budgets'. -/
def budgetsCard : Claim7 := { stood := { row := budgetsRow, standIns := [], harness := (true, "13512eeaddad481bc5172e3afdedbf6c8f611a637dfe6ba9f4f0071527a48c08"), looks := false }, kinds := [], alts := [], laidByText := true, laidKinds := [.data, .data, .data], laidTests := true, laidLooks := .later }
def BudgetsCardSaid : Prop := Claim7.holds Tryd.pinned (.plain (OpenSpec.ofChange budgetsSpec)) budgetsCard

/-- THE TIED CARD OF 'trailkeep.Anew'. -/
def anewCard : Claim7 := { stood := { row := anewRow, standIns := [], harness := (true, "13512eeaddad481bc5172e3afdedbf6c8f611a637dfe6ba9f4f0071527a48c08"), looks := false }, kinds := [], alts := [], laidByText := true, laidKinds := [.data, .data, .data], laidTests := true, laidLooks := .later }
def AnewCardSaid : Prop := Claim7.holds Tryd.pinned (.plain (OpenSpec.ofChange anewSpec)) anewCard

/-- THE TIED CARD OF 'trailkeep.Reduced'. -/
def reducedCard : Claim7 := { stood := { row := reducedRow, standIns := [], harness := (true, "13512eeaddad481bc5172e3afdedbf6c8f611a637dfe6ba9f4f0071527a48c08"), looks := false }, kinds := [], alts := [], laidByText := true, laidKinds := [.data, .data, .data], laidTests := true, laidLooks := .later }
def ReducedCardSaid : Prop := Claim7.holds Tryd.pinned (.plain (OpenSpec.ofChange reducedSpec)) reducedCard

/-- THE SECOND FORM's CARD OF 'trailkeep.Logged'. -/
def loggedUptoCard : Claim7 := { stood := { row := loggedUptoRow, standIns := [], harness := (true, "13512eeaddad481bc5172e3afdedbf6c8f611a637dfe6ba9f4f0071527a48c08"), looks := false }, kinds := [], alts := [], laidByText := true, laidKinds := [.data, .data, .data], laidTests := true, laidLooks := .later }
def LoggedUptoCardSaid : Prop := Claim7.holds Tryd.pinned (.plain (OpenSpec.upto loggedSpec)) loggedUptoCard

/-- THE SECOND FORM's CARD OF 'trailkeep.Within'. -/
def withinUptoCard : Claim7 := { stood := { row := withinUptoRow, standIns := [], harness := (true, "13512eeaddad481bc5172e3afdedbf6c8f611a637dfe6ba9f4f0071527a48c08"), looks := false }, kinds := [], alts := [], laidByText := true, laidKinds := [.data, .data, .data], laidTests := true, laidLooks := .later }
def WithinUptoCardSaid : Prop := Claim7.holds Tryd.pinned (.plain (OpenSpec.upto withinSpec)) withinUptoCard

/-- THE SECOND FORM's CARD OF 'trailkeep.Fresh'. -/
def freshUptoCard : Claim7 := { stood := { row := freshUptoRow, standIns := [], harness := (true, "13512eeaddad481bc5172e3afdedbf6c8f611a637dfe6ba9f4f0071527a48c08"), looks := false }, kinds := [], alts := [], laidByText := true, laidKinds := [.data, .data, .data], laidTests := true, laidLooks := .later }
def FreshUptoCardSaid : Prop := Claim7.holds Tryd.pinned (.plain (OpenSpec.upto freshSpec)) freshUptoCard

/-- THE SECOND FORM's CARD OF 'trailkeep.Refused'. -/
def refusedUptoCard : Claim7 := { stood := { row := refusedUptoRow, standIns := [], harness := (true, "13512eeaddad481bc5172e3afdedbf6c8f611a637dfe6ba9f4f0071527a48c08"), looks := false }, kinds := [], alts := [], laidByText := true, laidKinds := [.data, .data, .data], laidTests := true, laidLooks := .later }
def RefusedUptoCardSaid : Prop := Claim7.holds Tryd.pinned (.plain (OpenSpec.upto refusedSpec)) refusedUptoCard

/-- THE SECOND FORM's CARD OF 'trailkeep.Budgets'. -/
def budgetsUptoCard : Claim7 := { stood := { row := budgetsUptoRow, standIns := [], harness := (true, "13512eeaddad481bc5172e3afdedbf6c8f611a637dfe6ba9f4f0071527a48c08"), looks := false }, kinds := [], alts := [], laidByText := true, laidKinds := [.data, .data, .data], laidTests := true, laidLooks := .later }
def BudgetsUptoCardSaid : Prop := Claim7.holds Tryd.pinned (.plain (OpenSpec.upto budgetsSpec)) budgetsUptoCard

/-- THE SECOND FORM's CARD OF 'trailkeep.Anew'. -/
def anewUptoCard : Claim7 := { stood := { row := anewUptoRow, standIns := [], harness := (true, "13512eeaddad481bc5172e3afdedbf6c8f611a637dfe6ba9f4f0071527a48c08"), looks := false }, kinds := [], alts := [], laidByText := true, laidKinds := [.data, .data, .data], laidTests := true, laidLooks := .later }
def AnewUptoCardSaid : Prop := Claim7.holds Tryd.pinned (.plain (OpenSpec.upto anewSpec)) anewUptoCard

/-- THE SECOND FORM's CARD OF 'trailkeep.Reduced'. -/
def reducedUptoCard : Claim7 := { stood := { row := reducedUptoRow, standIns := [], harness := (true, "13512eeaddad481bc5172e3afdedbf6c8f611a637dfe6ba9f4f0071527a48c08"), looks := false }, kinds := [], alts := [], laidByText := true, laidKinds := [.data, .data, .data], laidTests := true, laidLooks := .later }
def ReducedUptoCardSaid : Prop := Claim7.holds Tryd.pinned (.plain (OpenSpec.upto reducedSpec)) reducedUptoCard
end Rows
end Go.Proofs.YthboeppmlhbofabDoor
