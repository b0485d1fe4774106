/-
  DERIVED. GIVEN WITH THE SEED: THE CARDS: each row of YtocofjimkfffeaaGreatDoorRows.lean that lists a variable, with what it lists TIED to the program's text (the seventh form; the later family's looks); each row that meets fmt, with fmt's text TOLD by the authors' own Lean function (tested against real Go, not proved from fmt's source: count such statements apart). THE CARD IS WHAT COUNTS. Prove the row's statement (the work); the ties are given (YtocofjimkfffeaaGreatDoorTie.lean); close each card by the builder's one call (the guide's Derived/Test/ToyasCard.lean, 'card_holds'). Laid BY PROGRAM, IN A SANDBOX (cutbox-door.mjs). By AI agents, Wed Nov 11 2026. No macro, syntax, notation, axiom, sorry.
-/
import Derived.Test.YtocofjimkfffeaaGreatDoorRows
import GoSem.ClaimSeven
namespace Go.Proofs.YtocofjimkfffeaaGreatDoor
namespace Rows

/-- THE TIED CARD OF 'laws.FnExecuted'. -/
def fnExecutedCard : Claim7 := { stood := { row := fnExecutedRow, standIns := [], harness := (true, "3f864d29f6522d78c6cb5b3096e63051937989edf5a590c67944126a3967fd00"), looks := false }, kinds := [], alts := [], laidByText := true, laidKinds := [.data], laidTests := true, laidLooks := .later }
def FnExecutedCardSaid : Prop := Claim7.holds Tryz.pinned (.plain (OpenSpec.ofChange fnExecutedSpec)) fnExecutedCard

/-- THE TIED CARD OF 'laws.FnCalledAway'. -/
def fnCalledAwayCard : Claim7 := { stood := { row := fnCalledAwayRow, standIns := [], harness := (true, "3f864d29f6522d78c6cb5b3096e63051937989edf5a590c67944126a3967fd00"), looks := false }, kinds := [], alts := [], laidByText := true, laidKinds := [.data], laidTests := true, laidLooks := .later }
def FnCalledAwayCardSaid : Prop := Claim7.holds Tryz.pinned (.plain (OpenSpec.ofChange fnCalledAwaySpec)) fnCalledAwayCard

/-- THE SECOND FORM's CARD OF 'laws.FnExecuted'. -/
def fnExecutedUptoCard : Claim7 := { stood := { row := fnExecutedUptoRow, standIns := [], harness := (true, "3f864d29f6522d78c6cb5b3096e63051937989edf5a590c67944126a3967fd00"), looks := false }, kinds := [], alts := [], laidByText := true, laidKinds := [.data], laidTests := true, laidLooks := .later }
def FnExecutedUptoCardSaid : Prop := Claim7.holds Tryz.pinned (.plain (OpenSpec.upto fnExecutedSpec)) fnExecutedUptoCard

/-- THE SECOND FORM's CARD OF 'laws.FnCalledAway'. -/
def fnCalledAwayUptoCard : Claim7 := { stood := { row := fnCalledAwayUptoRow, standIns := [], harness := (true, "3f864d29f6522d78c6cb5b3096e63051937989edf5a590c67944126a3967fd00"), looks := false }, kinds := [], alts := [], laidByText := true, laidKinds := [.data], laidTests := true, laidLooks := .later }
def FnCalledAwayUptoCardSaid : Prop := Claim7.holds Tryz.pinned (.plain (OpenSpec.upto fnCalledAwaySpec)) fnCalledAwayUptoCard
end Rows
end Go.Proofs.YtocofjimkfffeaaGreatDoor
