/-
  NARROWER THAN 'FOR EVERY INPUT', by the rows' own cells (each row's printed sentence says how): FnSteps: laid · FnRuns: laid · FnPairs: laid · FnPairTo: laid · FnTrade: laid · FnExactPairStep: laid · FnExactPairTo: laid.
  DERIVED. THE GIVEN ROWS OF THIS SEAT. 7 by the template 'for every input the law returns true; each argument reads behind the call as it read before'; 0 by the template 'total and deterministic' (their statements: YtamldhflkfbdnaaGreatDoorTotals.lean).
  GIVEN WITH THE SEED: the statements are not yours to turn. If you find one false, say at which input.
  Laid BY PROGRAM, IN A SANDBOX (cutbox-rows.mjs): the forced cells as the released guide's own fill.sh prints them over the translation b19e91954ae23933… (all of the seat's roots in one cut). By AI agents, Wed Nov 11 2026. No macro, syntax, notation, axiom, sorry.
-/
import Derived.Test.YtamldhflkfbdnaaGreatDoorChecked
import GoSem.Claim
import GoSem.ClaimJoined
import GoSem.ClaimMapViews
import Derived.JoinedTies
import Derived.KernelRfl
namespace Go.Proofs.YtamldhflkfbdnaaGreatDoor
/- THE CELL 'sum', in the pinned program and in every row, IS THE sha256 OF THE DUMP (.gsa) THAT YtamldhflkfbdnaaGreatDoorProg.lean LOADS. Nothing in Lean hashes anything: it is a label: what it is worth is what the hold of that sum in a sandbox is worth. -/
noncomputable def Tryz.pinned : Pinned := { name := "ytamldhflkfbdnaagreatdoor", sum := "b19e91954ae23933471fbde4e95a2292c6243dbd04dbf88c1b05c6660b03b18c", checked := Tryz.checked }
namespace Rows
def none {H : Type} : Left H := { results := [], args := [] }

/- WHAT THE LISTED PACKAGE-LEVEL VARIABLES READ AS WHEN THE CALL BEGINS. Each datum BY PROGRAM (the guide's laid-datum.mjs) off the statement by which the dump's own 'gosem.cut.vars' lays the variable. In a bare row this is a premise. The card (YtamldhflkfbdnaaGreatDoorCards.lean) ties it to the program's text. -/
def laid_loop_example_g00741_impl_opLines {H : Type} : DataW H := .agg [.agg [.lit (.string [110, 111, 112]), .lit (.int .i64 1), .lit (.int .i64 1)], .agg [.lit (.string [108, 100, 97]), .lit (.int .i64 2), .lit (.int .i64 2)], .agg [.lit (.string [108, 100, 98]), .lit (.int .i64 2), .lit (.int .i64 2)], .agg [.lit (.string [109, 97, 98]), .lit (.int .i64 1), .lit (.int .i64 1)], .agg [.lit (.string [109, 98, 97]), .lit (.int .i64 1), .lit (.int .i64 1)], .agg [.lit (.string [103, 101, 116]), .lit (.int .i64 2), .lit (.int .i64 3)], .agg [.lit (.string [112, 117, 116]), .lit (.int .i64 2), .lit (.int .i64 3)], .agg [.lit (.string [103, 105, 98]), .lit (.int .i64 1), .lit (.int .i64 2)], .agg [.lit (.string [112, 105, 98]), .lit (.int .i64 1), .lit (.int .i64 2)], .agg [.lit (.string [97, 100, 100]), .lit (.int .i64 2), .lit (.int .i64 2)], .agg [.lit (.string [97, 100, 98]), .lit (.int .i64 1), .lit (.int .i64 1)], .agg [.lit (.string [115, 117, 98]), .lit (.int .i64 2), .lit (.int .i64 2)], .agg [.lit (.string [99, 109, 112]), .lit (.int .i64 2), .lit (.int .i64 2)], .agg [.lit (.string [97, 110, 100]), .lit (.int .i64 2), .lit (.int .i64 2)], .agg [.lit (.string [120, 111, 114]), .lit (.int .i64 2), .lit (.int .i64 2)], .agg [.lit (.string [114, 111, 108]), .lit (.int .i64 1), .lit (.int .i64 1)], .agg [.lit (.string [114, 111, 114]), .lit (.int .i64 1), .lit (.int .i64 1)], .agg [.lit (.string [105, 110, 98]), .lit (.int .i64 1), .lit (.int .i64 1)], .agg [.lit (.string [100, 101, 98]), .lit (.int .i64 1), .lit (.int .i64 1)], .agg [.lit (.string [106, 109, 112]), .lit (.int .i64 2), .lit (.int .i64 3)], .agg [.lit (.string [106, 112, 122]), .lit (.int .i64 2), .lit (.int .i64 3)], .agg [.lit (.string [106, 110, 122]), .lit (.int .i64 2), .lit (.int .i64 3)], .agg [.lit (.string [106, 112, 99]), .lit (.int .i64 2), .lit (.int .i64 3)], .agg [.lit (.string [99, 97, 108]), .lit (.int .i64 2), .lit (.int .i64 4)], .agg [.lit (.string [114, 101, 116]), .lit (.int .i64 1), .lit (.int .i64 4)], .agg [.lit (.string [112, 115, 104]), .lit (.int .i64 1), .lit (.int .i64 3)], .agg [.lit (.string [112, 111, 112]), .lit (.int .i64 1), .lit (.int .i64 3)], .agg [.lit (.string [101, 110, 105]), .lit (.int .i64 1), .lit (.int .i64 1)], .agg [.lit (.string [100, 105, 115]), .lit (.int .i64 1), .lit (.int .i64 1)], .agg [.lit (.string [114, 116, 105]), .lit (.int .i64 1), .lit (.int .i64 4)], .agg [.lit (.string [104, 108, 116]), .lit (.int .i64 1), .lit (.int .i64 1)]]

/-- 'laws.FnSteps': WHATEVER THE INPUT: true; the input reads as it did. -/
def fnStepsSpec : ChangeSpec := { name := "fnSteps", vars := ["loop.example/g00741/impl.opLines"], fn := fun _ => fun
  | [d, g1] => { results := [.lit (.bool true)], args := [d], vars := [g1] }
  | _ => none }
def fnStepsRow : OpenClaim := { program := "ytamldhflkfbdnaagreatdoor", sum := "b19e91954ae23933471fbde4e95a2292c6243dbd04dbf88c1b05c6660b03b18c", func := "loop.example/g00741/laws.FnSteps", spec := "fnSteps", unfollowed := true, recurses := true, named := ["loop.example/g00741/impl.opLines"], apart := false, laid := [("loop.example/g00741/impl.opLines", laid_loop_example_g00741_impl_opLines)] }
def FnStepsSaid : Prop := fnStepsRow.holds Tryz.pinned (OpenSpec.ofChange fnStepsSpec)

/-- ITS FALSE NEIGHBOUR: 'it returns false'. Refute it at one input. -/
def fnStepsWrong : ChangeSpec := { name := "fnSteps", vars := ["loop.example/g00741/impl.opLines"], fn := fun _ => fun
  | [d, g1] => { results := [.lit (.bool false)], args := [d], vars := [g1] }
  | _ => none }
def FnStepsWrongFalsely : Prop := fnStepsRow.holds Tryz.pinned (OpenSpec.ofChange fnStepsWrong)

/-- 'laws.FnRuns': WHATEVER THE INPUT: true; the input reads as it did. -/
def fnRunsSpec : ChangeSpec := { name := "fnRuns", vars := ["loop.example/g00741/impl.opLines"], fn := fun _ => fun
  | [d, g1] => { results := [.lit (.bool true)], args := [d], vars := [g1] }
  | _ => none }
def fnRunsRow : OpenClaim := { program := "ytamldhflkfbdnaagreatdoor", sum := "b19e91954ae23933471fbde4e95a2292c6243dbd04dbf88c1b05c6660b03b18c", func := "loop.example/g00741/laws.FnRuns", spec := "fnRuns", unfollowed := true, recurses := true, named := ["loop.example/g00741/impl.opLines"], apart := false, laid := [("loop.example/g00741/impl.opLines", laid_loop_example_g00741_impl_opLines)] }
def FnRunsSaid : Prop := fnRunsRow.holds Tryz.pinned (OpenSpec.ofChange fnRunsSpec)

/-- ITS FALSE NEIGHBOUR: 'it returns false'. Refute it at one input. -/
def fnRunsWrong : ChangeSpec := { name := "fnRuns", vars := ["loop.example/g00741/impl.opLines"], fn := fun _ => fun
  | [d, g1] => { results := [.lit (.bool false)], args := [d], vars := [g1] }
  | _ => none }
def FnRunsWrongFalsely : Prop := fnRunsRow.holds Tryz.pinned (OpenSpec.ofChange fnRunsWrong)

/-- 'laws.FnPairs': WHATEVER THE INPUT: true; the input reads as it did. -/
def fnPairsSpec : ChangeSpec := { name := "fnPairs", vars := ["loop.example/g00741/impl.opLines"], fn := fun _ => fun
  | [d, g1] => { results := [.lit (.bool true)], args := [d], vars := [g1] }
  | _ => none }
def fnPairsRow : OpenClaim := { program := "ytamldhflkfbdnaagreatdoor", sum := "b19e91954ae23933471fbde4e95a2292c6243dbd04dbf88c1b05c6660b03b18c", func := "loop.example/g00741/laws.FnPairs", spec := "fnPairs", unfollowed := true, recurses := true, named := ["loop.example/g00741/impl.opLines"], apart := false, laid := [("loop.example/g00741/impl.opLines", laid_loop_example_g00741_impl_opLines)] }
def FnPairsSaid : Prop := fnPairsRow.holds Tryz.pinned (OpenSpec.ofChange fnPairsSpec)

/-- ITS FALSE NEIGHBOUR: 'it returns false'. Refute it at one input. -/
def fnPairsWrong : ChangeSpec := { name := "fnPairs", vars := ["loop.example/g00741/impl.opLines"], fn := fun _ => fun
  | [d, g1] => { results := [.lit (.bool false)], args := [d], vars := [g1] }
  | _ => none }
def FnPairsWrongFalsely : Prop := fnPairsRow.holds Tryz.pinned (OpenSpec.ofChange fnPairsWrong)

/-- 'laws.FnPairTo': WHATEVER THE INPUT: true; the input reads as it did. -/
def fnPairToSpec : ChangeSpec := { name := "fnPairTo", vars := ["loop.example/g00741/impl.opLines"], fn := fun _ => fun
  | [d, g1] => { results := [.lit (.bool true)], args := [d], vars := [g1] }
  | _ => none }
def fnPairToRow : OpenClaim := { program := "ytamldhflkfbdnaagreatdoor", sum := "b19e91954ae23933471fbde4e95a2292c6243dbd04dbf88c1b05c6660b03b18c", func := "loop.example/g00741/laws.FnPairTo", spec := "fnPairTo", unfollowed := true, recurses := true, named := ["loop.example/g00741/impl.opLines"], apart := false, laid := [("loop.example/g00741/impl.opLines", laid_loop_example_g00741_impl_opLines)] }
def FnPairToSaid : Prop := fnPairToRow.holds Tryz.pinned (OpenSpec.ofChange fnPairToSpec)

/-- ITS FALSE NEIGHBOUR: 'it returns false'. Refute it at one input. -/
def fnPairToWrong : ChangeSpec := { name := "fnPairTo", vars := ["loop.example/g00741/impl.opLines"], fn := fun _ => fun
  | [d, g1] => { results := [.lit (.bool false)], args := [d], vars := [g1] }
  | _ => none }
def FnPairToWrongFalsely : Prop := fnPairToRow.holds Tryz.pinned (OpenSpec.ofChange fnPairToWrong)

/-- 'laws.FnTrade': WHATEVER THE INPUT: true; the input reads as it did. -/
def fnTradeSpec : ChangeSpec := { name := "fnTrade", vars := ["loop.example/g00741/impl.opLines"], fn := fun _ => fun
  | [d, g1] => { results := [.lit (.bool true)], args := [d], vars := [g1] }
  | _ => none }
def fnTradeRow : OpenClaim := { program := "ytamldhflkfbdnaagreatdoor", sum := "b19e91954ae23933471fbde4e95a2292c6243dbd04dbf88c1b05c6660b03b18c", func := "loop.example/g00741/laws.FnTrade", spec := "fnTrade", unfollowed := true, recurses := true, named := ["loop.example/g00741/impl.opLines"], apart := false, laid := [("loop.example/g00741/impl.opLines", laid_loop_example_g00741_impl_opLines)] }
def FnTradeSaid : Prop := fnTradeRow.holds Tryz.pinned (OpenSpec.ofChange fnTradeSpec)

/-- ITS FALSE NEIGHBOUR: 'it returns false'. Refute it at one input. -/
def fnTradeWrong : ChangeSpec := { name := "fnTrade", vars := ["loop.example/g00741/impl.opLines"], fn := fun _ => fun
  | [d, g1] => { results := [.lit (.bool false)], args := [d], vars := [g1] }
  | _ => none }
def FnTradeWrongFalsely : Prop := fnTradeRow.holds Tryz.pinned (OpenSpec.ofChange fnTradeWrong)

/-- 'laws.FnExactPairStep': WHATEVER THE INPUT: true; the input reads as it did. -/
def fnExactPairStepSpec : ChangeSpec := { name := "fnExactPairStep", vars := ["loop.example/g00741/impl.opLines"], fn := fun _ => fun
  | [d, g1] => { results := [.lit (.bool true)], args := [d], vars := [g1] }
  | _ => none }
def fnExactPairStepRow : OpenClaim := { program := "ytamldhflkfbdnaagreatdoor", sum := "b19e91954ae23933471fbde4e95a2292c6243dbd04dbf88c1b05c6660b03b18c", func := "loop.example/g00741/laws.FnExactPairStep", spec := "fnExactPairStep", unfollowed := true, recurses := true, named := ["loop.example/g00741/impl.opLines"], apart := false, laid := [("loop.example/g00741/impl.opLines", laid_loop_example_g00741_impl_opLines)] }
def FnExactPairStepSaid : Prop := fnExactPairStepRow.holds Tryz.pinned (OpenSpec.ofChange fnExactPairStepSpec)

/-- ITS FALSE NEIGHBOUR: 'it returns false'. Refute it at one input. -/
def fnExactPairStepWrong : ChangeSpec := { name := "fnExactPairStep", vars := ["loop.example/g00741/impl.opLines"], fn := fun _ => fun
  | [d, g1] => { results := [.lit (.bool false)], args := [d], vars := [g1] }
  | _ => none }
def FnExactPairStepWrongFalsely : Prop := fnExactPairStepRow.holds Tryz.pinned (OpenSpec.ofChange fnExactPairStepWrong)

/-- 'laws.FnExactPairTo': WHATEVER THE INPUT: true; the input reads as it did. -/
def fnExactPairToSpec : ChangeSpec := { name := "fnExactPairTo", vars := ["loop.example/g00741/impl.opLines"], fn := fun _ => fun
  | [d1, d2, g1] => { results := [.lit (.bool true)], args := [d1, d2], vars := [g1] }
  | _ => none }
def fnExactPairToRow : OpenClaim := { program := "ytamldhflkfbdnaagreatdoor", sum := "b19e91954ae23933471fbde4e95a2292c6243dbd04dbf88c1b05c6660b03b18c", func := "loop.example/g00741/laws.FnExactPairTo", spec := "fnExactPairTo", unfollowed := true, recurses := true, named := ["loop.example/g00741/impl.opLines"], apart := false, laid := [("loop.example/g00741/impl.opLines", laid_loop_example_g00741_impl_opLines)] }
def FnExactPairToSaid : Prop := fnExactPairToRow.holds Tryz.pinned (OpenSpec.ofChange fnExactPairToSpec)

/-- ITS FALSE NEIGHBOUR: 'it returns false'. Refute it at one input. -/
def fnExactPairToWrong : ChangeSpec := { name := "fnExactPairTo", vars := ["loop.example/g00741/impl.opLines"], fn := fun _ => fun
  | [d1, d2, g1] => { results := [.lit (.bool false)], args := [d1, d2], vars := [g1] }
  | _ => none }
def FnExactPairToWrongFalsely : Prop := fnExactPairToRow.holds Tryz.pinned (OpenSpec.ofChange fnExactPairToWrong)

/- THE SECOND FORM. 'bulk': how many values and letters a reading holds, each counted each time it is reached (what is shared counts as often as it is met; a slice's spare places count too). A statement '..UptoSaid' is the law's where the arguments, and the package variables that the reading takes, are together of bulk at most 1048576: NARROWER than '..Said'. Prove '..Said' where nothing that the law and all that it calls make is longer than what came in: it says more and counts as full. Else prove '..UptoSaid'. A law counts once. -/
mutual
def uptoBulk {H : Type} : DataW H → Nat
  | .lit (.string bytes) => bytes.length + 1
  | .lit _ => 1
  | .nil => 1
  | .ptr d => uptoBulk d + 1
  | .slice elems spare => uptoBulkAll elems + uptoBulkAll spare + 1
  | .agg parts => uptoBulkAll parts + 1
  | .iface _ d => uptoBulk d + 1
  | .map entries => uptoBulkEntries entries + 1
  | .held _ => 1
def uptoBulkAll {H : Type} : List (DataW H) → Nat
  | [] => 0
  | d :: r => uptoBulk d + uptoBulkAll r
def uptoBulkEntries {H : Type} : List (Lit × DataW H) → Nat
  | [] => 0
  | x :: r => uptoBulkEntry x + uptoBulkEntries r
def uptoBulkEntry {H : Type} : Lit × DataW H → Nat
  | (.string bytes, d) => bytes.length + uptoBulk d + 1
  | (_, d) => uptoBulk d + 1
 end
def uptoSmall : (H : Type) → List (DataW H) → Bool := fun _ ds => decide (uptoBulkAll ds ≤ 1048576)
def OpenSpec.upto (s : _root_.Go.ChangeSpec) : _root_.Go.OpenSpec := { _root_.Go.OpenSpec.ofChange s with cond := some uptoSmall }

/-- 'laws.FnSteps', WHERE WHAT IT READS IS OF BULK AT MOST 1048576: true; the input reads as it did. -/
def fnStepsUptoRow : OpenClaim := { program := "ytamldhflkfbdnaagreatdoor", sum := "b19e91954ae23933471fbde4e95a2292c6243dbd04dbf88c1b05c6660b03b18c", func := "loop.example/g00741/laws.FnSteps", spec := "fnSteps", unfollowed := true, recurses := true, named := ["loop.example/g00741/impl.opLines"], apart := false, laid := [("loop.example/g00741/impl.opLines", laid_loop_example_g00741_impl_opLines)], narrowed := true }
def FnStepsUptoSaid : Prop := fnStepsUptoRow.holds Tryz.pinned (OpenSpec.upto fnStepsSpec)

/-- 'laws.FnRuns', WHERE WHAT IT READS IS OF BULK AT MOST 1048576: true; the input reads as it did. -/
def fnRunsUptoRow : OpenClaim := { program := "ytamldhflkfbdnaagreatdoor", sum := "b19e91954ae23933471fbde4e95a2292c6243dbd04dbf88c1b05c6660b03b18c", func := "loop.example/g00741/laws.FnRuns", spec := "fnRuns", unfollowed := true, recurses := true, named := ["loop.example/g00741/impl.opLines"], apart := false, laid := [("loop.example/g00741/impl.opLines", laid_loop_example_g00741_impl_opLines)], narrowed := true }
def FnRunsUptoSaid : Prop := fnRunsUptoRow.holds Tryz.pinned (OpenSpec.upto fnRunsSpec)

/-- 'laws.FnPairs', WHERE WHAT IT READS IS OF BULK AT MOST 1048576: true; the input reads as it did. -/
def fnPairsUptoRow : OpenClaim := { program := "ytamldhflkfbdnaagreatdoor", sum := "b19e91954ae23933471fbde4e95a2292c6243dbd04dbf88c1b05c6660b03b18c", func := "loop.example/g00741/laws.FnPairs", spec := "fnPairs", unfollowed := true, recurses := true, named := ["loop.example/g00741/impl.opLines"], apart := false, laid := [("loop.example/g00741/impl.opLines", laid_loop_example_g00741_impl_opLines)], narrowed := true }
def FnPairsUptoSaid : Prop := fnPairsUptoRow.holds Tryz.pinned (OpenSpec.upto fnPairsSpec)

/-- 'laws.FnPairTo', WHERE WHAT IT READS IS OF BULK AT MOST 1048576: true; the input reads as it did. -/
def fnPairToUptoRow : OpenClaim := { program := "ytamldhflkfbdnaagreatdoor", sum := "b19e91954ae23933471fbde4e95a2292c6243dbd04dbf88c1b05c6660b03b18c", func := "loop.example/g00741/laws.FnPairTo", spec := "fnPairTo", unfollowed := true, recurses := true, named := ["loop.example/g00741/impl.opLines"], apart := false, laid := [("loop.example/g00741/impl.opLines", laid_loop_example_g00741_impl_opLines)], narrowed := true }
def FnPairToUptoSaid : Prop := fnPairToUptoRow.holds Tryz.pinned (OpenSpec.upto fnPairToSpec)

/-- 'laws.FnTrade', WHERE WHAT IT READS IS OF BULK AT MOST 1048576: true; the input reads as it did. -/
def fnTradeUptoRow : OpenClaim := { program := "ytamldhflkfbdnaagreatdoor", sum := "b19e91954ae23933471fbde4e95a2292c6243dbd04dbf88c1b05c6660b03b18c", func := "loop.example/g00741/laws.FnTrade", spec := "fnTrade", unfollowed := true, recurses := true, named := ["loop.example/g00741/impl.opLines"], apart := false, laid := [("loop.example/g00741/impl.opLines", laid_loop_example_g00741_impl_opLines)], narrowed := true }
def FnTradeUptoSaid : Prop := fnTradeUptoRow.holds Tryz.pinned (OpenSpec.upto fnTradeSpec)

/-- 'laws.FnExactPairStep', WHERE WHAT IT READS IS OF BULK AT MOST 1048576: true; the input reads as it did. -/
def fnExactPairStepUptoRow : OpenClaim := { program := "ytamldhflkfbdnaagreatdoor", sum := "b19e91954ae23933471fbde4e95a2292c6243dbd04dbf88c1b05c6660b03b18c", func := "loop.example/g00741/laws.FnExactPairStep", spec := "fnExactPairStep", unfollowed := true, recurses := true, named := ["loop.example/g00741/impl.opLines"], apart := false, laid := [("loop.example/g00741/impl.opLines", laid_loop_example_g00741_impl_opLines)], narrowed := true }
def FnExactPairStepUptoSaid : Prop := fnExactPairStepUptoRow.holds Tryz.pinned (OpenSpec.upto fnExactPairStepSpec)

/-- 'laws.FnExactPairTo', WHERE WHAT IT READS IS OF BULK AT MOST 1048576: true; the input reads as it did. -/
def fnExactPairToUptoRow : OpenClaim := { program := "ytamldhflkfbdnaagreatdoor", sum := "b19e91954ae23933471fbde4e95a2292c6243dbd04dbf88c1b05c6660b03b18c", func := "loop.example/g00741/laws.FnExactPairTo", spec := "fnExactPairTo", unfollowed := true, recurses := true, named := ["loop.example/g00741/impl.opLines"], apart := false, laid := [("loop.example/g00741/impl.opLines", laid_loop_example_g00741_impl_opLines)], narrowed := true }
def FnExactPairToUptoSaid : Prop := fnExactPairToUptoRow.holds Tryz.pinned (OpenSpec.upto fnExactPairToSpec)

end Rows
end Go.Proofs.YtamldhflkfbdnaaGreatDoor
