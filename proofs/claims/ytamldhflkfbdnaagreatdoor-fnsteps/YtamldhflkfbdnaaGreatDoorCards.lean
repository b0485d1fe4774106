/-
  DERIVED. GIVEN WITH THE SEED: THE CARDS: each row of YtamldhflkfbdnaaGreatDoorRows.lean that lists a variable, with what it lists TIED to the program's text (the seventh form; the later family's looks); each row that meets fmt, with fmt's text TOLD by the authors' own Lean function (tested against real Go, not proved from fmt's source: count such statements apart). THE CARD IS WHAT COUNTS. Prove the row's statement (the work); the ties are given (YtamldhflkfbdnaaGreatDoorTie.lean); close each card by the builder's one call (the guide's Derived/Test/ToyasCard.lean, 'card_holds'). Laid BY PROGRAM, IN A SANDBOX (cutbox-door.mjs). By AI agents, Wed Nov 11 2026. No macro, syntax, notation, axiom, sorry.
-/
import Derived.Test.YtamldhflkfbdnaaGreatDoorRows
import GoSem.ClaimSeven
namespace Go.Proofs.YtamldhflkfbdnaaGreatDoor
namespace Rows

/-- THE TIED CARD OF 'laws.FnSteps'. -/
def fnStepsCard : Claim7 := { stood := { row := fnStepsRow, standIns := [], harness := (true, "4e6b2f7fef9343af001868d69325d3fbc12f61f412f5bc72ac2c71e1d0d5727f"), looks := false }, kinds := [], alts := [], laidByText := true, laidKinds := [.data], laidTests := true, laidLooks := .later }
def FnStepsCardSaid : Prop := Claim7.holds Tryz.pinned (.plain (OpenSpec.ofChange fnStepsSpec)) fnStepsCard

/-- THE TIED CARD OF 'laws.FnRuns'. -/
def fnRunsCard : Claim7 := { stood := { row := fnRunsRow, standIns := [], harness := (true, "4e6b2f7fef9343af001868d69325d3fbc12f61f412f5bc72ac2c71e1d0d5727f"), looks := false }, kinds := [], alts := [], laidByText := true, laidKinds := [.data], laidTests := true, laidLooks := .later }
def FnRunsCardSaid : Prop := Claim7.holds Tryz.pinned (.plain (OpenSpec.ofChange fnRunsSpec)) fnRunsCard

/-- THE TIED CARD OF 'laws.FnPairs'. -/
def fnPairsCard : Claim7 := { stood := { row := fnPairsRow, standIns := [], harness := (true, "4e6b2f7fef9343af001868d69325d3fbc12f61f412f5bc72ac2c71e1d0d5727f"), looks := false }, kinds := [], alts := [], laidByText := true, laidKinds := [.data], laidTests := true, laidLooks := .later }
def FnPairsCardSaid : Prop := Claim7.holds Tryz.pinned (.plain (OpenSpec.ofChange fnPairsSpec)) fnPairsCard

/-- THE TIED CARD OF 'laws.FnPairTo'. -/
def fnPairToCard : Claim7 := { stood := { row := fnPairToRow, standIns := [], harness := (true, "4e6b2f7fef9343af001868d69325d3fbc12f61f412f5bc72ac2c71e1d0d5727f"), looks := false }, kinds := [], alts := [], laidByText := true, laidKinds := [.data], laidTests := true, laidLooks := .later }
def FnPairToCardSaid : Prop := Claim7.holds Tryz.pinned (.plain (OpenSpec.ofChange fnPairToSpec)) fnPairToCard

/-- THE TIED CARD OF 'laws.FnTrade'. -/
def fnTradeCard : Claim7 := { stood := { row := fnTradeRow, standIns := [], harness := (true, "4e6b2f7fef9343af001868d69325d3fbc12f61f412f5bc72ac2c71e1d0d5727f"), looks := false }, kinds := [], alts := [], laidByText := true, laidKinds := [.data], laidTests := true, laidLooks := .later }
def FnTradeCardSaid : Prop := Claim7.holds Tryz.pinned (.plain (OpenSpec.ofChange fnTradeSpec)) fnTradeCard

/-- THE TIED CARD OF 'laws.FnExactPairStep'. -/
def fnExactPairStepCard : Claim7 := { stood := { row := fnExactPairStepRow, standIns := [], harness := (true, "4e6b2f7fef9343af001868d69325d3fbc12f61f412f5bc72ac2c71e1d0d5727f"), looks := false }, kinds := [], alts := [], laidByText := true, laidKinds := [.data], laidTests := true, laidLooks := .later }
def FnExactPairStepCardSaid : Prop := Claim7.holds Tryz.pinned (.plain (OpenSpec.ofChange fnExactPairStepSpec)) fnExactPairStepCard

/-- THE TIED CARD OF 'laws.FnExactPairTo'. -/
def fnExactPairToCard : Claim7 := { stood := { row := fnExactPairToRow, standIns := [], harness := (true, "4e6b2f7fef9343af001868d69325d3fbc12f61f412f5bc72ac2c71e1d0d5727f"), looks := false }, kinds := [], alts := [], laidByText := true, laidKinds := [.data], laidTests := true, laidLooks := .later }
def FnExactPairToCardSaid : Prop := Claim7.holds Tryz.pinned (.plain (OpenSpec.ofChange fnExactPairToSpec)) fnExactPairToCard

/-- THE SECOND FORM's CARD OF 'laws.FnSteps'. -/
def fnStepsUptoCard : Claim7 := { stood := { row := fnStepsUptoRow, standIns := [], harness := (true, "4e6b2f7fef9343af001868d69325d3fbc12f61f412f5bc72ac2c71e1d0d5727f"), looks := false }, kinds := [], alts := [], laidByText := true, laidKinds := [.data], laidTests := true, laidLooks := .later }
def FnStepsUptoCardSaid : Prop := Claim7.holds Tryz.pinned (.plain (OpenSpec.upto fnStepsSpec)) fnStepsUptoCard

/-- THE SECOND FORM's CARD OF 'laws.FnRuns'. -/
def fnRunsUptoCard : Claim7 := { stood := { row := fnRunsUptoRow, standIns := [], harness := (true, "4e6b2f7fef9343af001868d69325d3fbc12f61f412f5bc72ac2c71e1d0d5727f"), looks := false }, kinds := [], alts := [], laidByText := true, laidKinds := [.data], laidTests := true, laidLooks := .later }
def FnRunsUptoCardSaid : Prop := Claim7.holds Tryz.pinned (.plain (OpenSpec.upto fnRunsSpec)) fnRunsUptoCard

/-- THE SECOND FORM's CARD OF 'laws.FnPairs'. -/
def fnPairsUptoCard : Claim7 := { stood := { row := fnPairsUptoRow, standIns := [], harness := (true, "4e6b2f7fef9343af001868d69325d3fbc12f61f412f5bc72ac2c71e1d0d5727f"), looks := false }, kinds := [], alts := [], laidByText := true, laidKinds := [.data], laidTests := true, laidLooks := .later }
def FnPairsUptoCardSaid : Prop := Claim7.holds Tryz.pinned (.plain (OpenSpec.upto fnPairsSpec)) fnPairsUptoCard

/-- THE SECOND FORM's CARD OF 'laws.FnPairTo'. -/
def fnPairToUptoCard : Claim7 := { stood := { row := fnPairToUptoRow, standIns := [], harness := (true, "4e6b2f7fef9343af001868d69325d3fbc12f61f412f5bc72ac2c71e1d0d5727f"), looks := false }, kinds := [], alts := [], laidByText := true, laidKinds := [.data], laidTests := true, laidLooks := .later }
def FnPairToUptoCardSaid : Prop := Claim7.holds Tryz.pinned (.plain (OpenSpec.upto fnPairToSpec)) fnPairToUptoCard

/-- THE SECOND FORM's CARD OF 'laws.FnTrade'. -/
def fnTradeUptoCard : Claim7 := { stood := { row := fnTradeUptoRow, standIns := [], harness := (true, "4e6b2f7fef9343af001868d69325d3fbc12f61f412f5bc72ac2c71e1d0d5727f"), looks := false }, kinds := [], alts := [], laidByText := true, laidKinds := [.data], laidTests := true, laidLooks := .later }
def FnTradeUptoCardSaid : Prop := Claim7.holds Tryz.pinned (.plain (OpenSpec.upto fnTradeSpec)) fnTradeUptoCard

/-- THE SECOND FORM's CARD OF 'laws.FnExactPairStep'. -/
def fnExactPairStepUptoCard : Claim7 := { stood := { row := fnExactPairStepUptoRow, standIns := [], harness := (true, "4e6b2f7fef9343af001868d69325d3fbc12f61f412f5bc72ac2c71e1d0d5727f"), looks := false }, kinds := [], alts := [], laidByText := true, laidKinds := [.data], laidTests := true, laidLooks := .later }
def FnExactPairStepUptoCardSaid : Prop := Claim7.holds Tryz.pinned (.plain (OpenSpec.upto fnExactPairStepSpec)) fnExactPairStepUptoCard

/-- THE SECOND FORM's CARD OF 'laws.FnExactPairTo'. -/
def fnExactPairToUptoCard : Claim7 := { stood := { row := fnExactPairToUptoRow, standIns := [], harness := (true, "4e6b2f7fef9343af001868d69325d3fbc12f61f412f5bc72ac2c71e1d0d5727f"), looks := false }, kinds := [], alts := [], laidByText := true, laidKinds := [.data], laidTests := true, laidLooks := .later }
def FnExactPairToUptoCardSaid : Prop := Claim7.holds Tryz.pinned (.plain (OpenSpec.upto fnExactPairToSpec)) fnExactPairToUptoCard
end Rows
end Go.Proofs.YtamldhflkfbdnaaGreatDoor
