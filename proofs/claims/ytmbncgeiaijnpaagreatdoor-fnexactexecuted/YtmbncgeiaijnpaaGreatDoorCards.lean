/-
  DERIVED. GIVEN WITH THE SEED: THE CARDS: each row of YtmbncgeiaijnpaaGreatDoorRows.lean that lists a variable, with what it lists TIED to the program's text (the seventh form; the later family's looks); each row that meets fmt, with fmt's text TOLD by the authors' own Lean function (tested against real Go, not proved from fmt's source: count such statements apart). THE CARD IS WHAT COUNTS. Prove the row's statement (the work); the ties are given (YtmbncgeiaijnpaaGreatDoorTie.lean); close each card by the builder's one call (the guide's Derived/Test/ToyasCard.lean, 'card_holds'). Laid BY PROGRAM, IN A SANDBOX (cutbox-door.mjs). By AI agents, Wed Nov 11 2026. No macro, syntax, notation, axiom, sorry.
-/
import Derived.Test.YtmbncgeiaijnpaaGreatDoorRows
import GoSem.ClaimSeven
namespace Go.Proofs.YtmbncgeiaijnpaaGreatDoor
namespace Rows

/-- THE TIED CARD OF 'laws.FnExecuted'. -/
def fnExecutedCard : Claim7 := { stood := { row := fnExecutedRow, standIns := [], harness := (true, "1d00f4ad683ca564e83b11b3fb0b8c4222380d1ca58276db54a5e1c46563f901"), looks := false }, kinds := [], alts := [], laidByText := true, laidKinds := [.data], laidTests := true, laidLooks := .later }
def FnExecutedCardSaid : Prop := Claim7.holds Tryz.pinned (.plain (OpenSpec.ofChange fnExecutedSpec)) fnExecutedCard

/-- THE TIED CARD OF 'laws.FnExactExecuted'. -/
def fnExactExecutedCard : Claim7 := { stood := { row := fnExactExecutedRow, standIns := [], harness := (true, "1d00f4ad683ca564e83b11b3fb0b8c4222380d1ca58276db54a5e1c46563f901"), looks := false }, kinds := [], alts := [], laidByText := true, laidKinds := [.data], laidTests := true, laidLooks := .later }
def FnExactExecutedCardSaid : Prop := Claim7.holds Tryz.pinned (.plain (OpenSpec.ofChange fnExactExecutedSpec)) fnExactExecutedCard

/-- THE SECOND FORM's CARD OF 'laws.FnExecuted'. -/
def fnExecutedUptoCard : Claim7 := { stood := { row := fnExecutedUptoRow, standIns := [], harness := (true, "1d00f4ad683ca564e83b11b3fb0b8c4222380d1ca58276db54a5e1c46563f901"), looks := false }, kinds := [], alts := [], laidByText := true, laidKinds := [.data], laidTests := true, laidLooks := .later }
def FnExecutedUptoCardSaid : Prop := Claim7.holds Tryz.pinned (.plain (OpenSpec.upto fnExecutedSpec)) fnExecutedUptoCard

/-- THE SECOND FORM's CARD OF 'laws.FnExactExecuted'. -/
def fnExactExecutedUptoCard : Claim7 := { stood := { row := fnExactExecutedUptoRow, standIns := [], harness := (true, "1d00f4ad683ca564e83b11b3fb0b8c4222380d1ca58276db54a5e1c46563f901"), looks := false }, kinds := [], alts := [], laidByText := true, laidKinds := [.data], laidTests := true, laidLooks := .later }
def FnExactExecutedUptoCardSaid : Prop := Claim7.holds Tryz.pinned (.plain (OpenSpec.upto fnExactExecutedSpec)) fnExactExecutedUptoCard
end Rows
end Go.Proofs.YtmbncgeiaijnpaaGreatDoor
