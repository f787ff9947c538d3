/-
  DERIVED. GIVEN WITH THE SEED: THE CARDS: each row of YthboeppmlhbofaaDoorRows.lean that lists a variable, with what it lists TIED to the program's text (the seventh form; the later family's looks); each row that meets fmt, with fmt's text TOLD by the authors' own Lean function (tested against real Go, not proved from fmt's source: count such statements apart). THE CARD IS WHAT COUNTS. Prove the row's statement (the work); the ties are given (YthboeppmlhbofaaDoorTie.lean); close each card by the builder's one call (the guide's Derived/Test/ToyasCard.lean, 'card_holds'). Laid BY PROGRAM, IN A SANDBOX (cutbox-door.mjs). By AI agents, Wed Nov 11 2026. No macro, syntax, notation, axiom, sorry.
-/
import Derived.Test.YthboeppmlhbofaaDoorRows
import GoSem.ClaimSeven
namespace Go.Proofs.YthboeppmlhbofaaDoor
namespace Rows

/-- THE TIED CARD OF 'trailkeep.Round'. -/
def roundCard : Claim7 := { stood := { row := roundRow, standIns := [], harness := (true, "a88b9ff724ce7af8484ddbcb9bafcc58867c10b0be12807e2be35b88b792c7cf"), looks := false }, kinds := [], alts := [], laidByText := true, laidKinds := [.data, .data, .data], laidTests := true, laidLooks := .later }
def RoundCardSaid : Prop := Claim7.holds Tryd.pinned (.plain (OpenSpec.ofChange roundSpec)) roundCard

/-- THE TIED CARD OF 'trailkeep.Satisfied'. -/
def satisfiedCard : Claim7 := { stood := { row := satisfiedRow, standIns := [], harness := (true, "a88b9ff724ce7af8484ddbcb9bafcc58867c10b0be12807e2be35b88b792c7cf"), looks := false }, kinds := [], alts := [], laidByText := true, laidKinds := [.data, .data, .data], laidTests := true, laidLooks := .later }
def SatisfiedCardSaid : Prop := Claim7.holds Tryd.pinned (.plain (OpenSpec.ofChange satisfiedSpec)) satisfiedCard

/-- THE TIED CARD OF 'trailkeep.Refuted'. -/
def refutedCard : Claim7 := { stood := { row := refutedRow, standIns := [], harness := (true, "a88b9ff724ce7af8484ddbcb9bafcc58867c10b0be12807e2be35b88b792c7cf"), looks := false }, kinds := [], alts := [], laidByText := true, laidKinds := [.data, .data, .data], laidTests := true, laidLooks := .later }
def RefutedCardSaid : Prop := Claim7.holds Tryd.pinned (.plain (OpenSpec.ofChange refutedSpec)) refutedCard

/-- THE TIED CARD OF 'trailkeep.Answered'. -/
def answeredCard : Claim7 := { stood := { row := answeredRow, standIns := [], harness := (true, "a88b9ff724ce7af8484ddbcb9bafcc58867c10b0be12807e2be35b88b792c7cf"), looks := false }, kinds := [], alts := [], laidByText := true, laidKinds := [.data, .data, .data], laidTests := true, laidLooks := .later }
def AnsweredCardSaid : Prop := Claim7.holds Tryd.pinned (.plain (OpenSpec.ofChange answeredSpec)) answeredCard

/-- THE SECOND FORM's CARD OF 'trailkeep.Round'. -/
def roundUptoCard : Claim7 := { stood := { row := roundUptoRow, standIns := [], harness := (true, "a88b9ff724ce7af8484ddbcb9bafcc58867c10b0be12807e2be35b88b792c7cf"), looks := false }, kinds := [], alts := [], laidByText := true, laidKinds := [.data, .data, .data], laidTests := true, laidLooks := .later }
def RoundUptoCardSaid : Prop := Claim7.holds Tryd.pinned (.plain (OpenSpec.upto roundSpec)) roundUptoCard

/-- THE SECOND FORM's CARD OF 'trailkeep.Satisfied'. -/
def satisfiedUptoCard : Claim7 := { stood := { row := satisfiedUptoRow, standIns := [], harness := (true, "a88b9ff724ce7af8484ddbcb9bafcc58867c10b0be12807e2be35b88b792c7cf"), looks := false }, kinds := [], alts := [], laidByText := true, laidKinds := [.data, .data, .data], laidTests := true, laidLooks := .later }
def SatisfiedUptoCardSaid : Prop := Claim7.holds Tryd.pinned (.plain (OpenSpec.upto satisfiedSpec)) satisfiedUptoCard

/-- THE SECOND FORM's CARD OF 'trailkeep.Refuted'. -/
def refutedUptoCard : Claim7 := { stood := { row := refutedUptoRow, standIns := [], harness := (true, "a88b9ff724ce7af8484ddbcb9bafcc58867c10b0be12807e2be35b88b792c7cf"), looks := false }, kinds := [], alts := [], laidByText := true, laidKinds := [.data, .data, .data], laidTests := true, laidLooks := .later }
def RefutedUptoCardSaid : Prop := Claim7.holds Tryd.pinned (.plain (OpenSpec.upto refutedSpec)) refutedUptoCard

/-- THE SECOND FORM's CARD OF 'trailkeep.Answered'. -/
def answeredUptoCard : Claim7 := { stood := { row := answeredUptoRow, standIns := [], harness := (true, "a88b9ff724ce7af8484ddbcb9bafcc58867c10b0be12807e2be35b88b792c7cf"), looks := false }, kinds := [], alts := [], laidByText := true, laidKinds := [.data, .data, .data], laidTests := true, laidLooks := .later }
def AnsweredUptoCardSaid : Prop := Claim7.holds Tryd.pinned (.plain (OpenSpec.upto answeredSpec)) answeredUptoCard
end Rows
end Go.Proofs.YthboeppmlhbofaaDoor
