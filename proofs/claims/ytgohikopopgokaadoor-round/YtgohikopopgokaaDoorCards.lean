/-
  DERIVED. GIVEN WITH THE SEED: THE CARDS: each row of YtgohikopopgokaaDoorRows.lean that lists a variable, with what it lists TIED to the program's text (the seventh form; the later family's looks); each row that meets fmt, with fmt's text TOLD by the authors' own Lean function (tested against real Go, not proved from fmt's source: count such statements apart). THE CARD IS WHAT COUNTS. Prove the row's statement (the work); the ties are given (YtgohikopopgokaaDoorTie.lean); close each card by the builder's one call (the guide's Derived/Test/ToyasCard.lean, 'card_holds'). Laid BY PROGRAM, IN A SANDBOX (cutbox-door.mjs). By AI agents, Wed Nov 11 2026. No macro, syntax, notation, axiom, sorry.
-/
import Derived.Test.YtgohikopopgokaaDoorRows
import GoSem.ClaimSeven
namespace Go.Proofs.YtgohikopopgokaaDoor
namespace Rows

/-- THE TIED CARD OF 'trailkeep.Round'. -/
def roundCard : Claim7 := { stood := { row := roundRow, standIns := [], harness := (true, "2ac1be8518effb9fec89e2123d96a534bfff3fb1d42a889d308b91f6fe43cfc5"), looks := false }, kinds := [], alts := [], laidByText := true, laidKinds := [.data, .data, .data], laidTests := true, laidLooks := .later }
def RoundCardSaid : Prop := Claim7.holds Tryd.pinned (.plain (OpenSpec.ofChange roundSpec)) roundCard

/-- THE TIED CARD OF 'trailkeep.Satisfied'. -/
def satisfiedCard : Claim7 := { stood := { row := satisfiedRow, standIns := [], harness := (true, "2ac1be8518effb9fec89e2123d96a534bfff3fb1d42a889d308b91f6fe43cfc5"), looks := false }, kinds := [], alts := [], laidByText := true, laidKinds := [.data, .data, .data], laidTests := true, laidLooks := .later }
def SatisfiedCardSaid : Prop := Claim7.holds Tryd.pinned (.plain (OpenSpec.ofChange satisfiedSpec)) satisfiedCard

/-- THE TIED CARD OF 'trailkeep.Refuted'. -/
def refutedCard : Claim7 := { stood := { row := refutedRow, standIns := [], harness := (true, "2ac1be8518effb9fec89e2123d96a534bfff3fb1d42a889d308b91f6fe43cfc5"), looks := false }, kinds := [], alts := [], laidByText := true, laidKinds := [.data, .data, .data], laidTests := true, laidLooks := .later }
def RefutedCardSaid : Prop := Claim7.holds Tryd.pinned (.plain (OpenSpec.ofChange refutedSpec)) refutedCard

/-- THE SECOND FORM's CARD OF 'trailkeep.Round'. -/
def roundUptoCard : Claim7 := { stood := { row := roundUptoRow, standIns := [], harness := (true, "2ac1be8518effb9fec89e2123d96a534bfff3fb1d42a889d308b91f6fe43cfc5"), looks := false }, kinds := [], alts := [], laidByText := true, laidKinds := [.data, .data, .data], laidTests := true, laidLooks := .later }
def RoundUptoCardSaid : Prop := Claim7.holds Tryd.pinned (.plain (OpenSpec.upto roundSpec)) roundUptoCard

/-- THE SECOND FORM's CARD OF 'trailkeep.Satisfied'. -/
def satisfiedUptoCard : Claim7 := { stood := { row := satisfiedUptoRow, standIns := [], harness := (true, "2ac1be8518effb9fec89e2123d96a534bfff3fb1d42a889d308b91f6fe43cfc5"), looks := false }, kinds := [], alts := [], laidByText := true, laidKinds := [.data, .data, .data], laidTests := true, laidLooks := .later }
def SatisfiedUptoCardSaid : Prop := Claim7.holds Tryd.pinned (.plain (OpenSpec.upto satisfiedSpec)) satisfiedUptoCard

/-- THE SECOND FORM's CARD OF 'trailkeep.Refuted'. -/
def refutedUptoCard : Claim7 := { stood := { row := refutedUptoRow, standIns := [], harness := (true, "2ac1be8518effb9fec89e2123d96a534bfff3fb1d42a889d308b91f6fe43cfc5"), looks := false }, kinds := [], alts := [], laidByText := true, laidKinds := [.data, .data, .data], laidTests := true, laidLooks := .later }
def RefutedUptoCardSaid : Prop := Claim7.holds Tryd.pinned (.plain (OpenSpec.upto refutedSpec)) refutedUptoCard
end Rows
end Go.Proofs.YtgohikopopgokaaDoor
