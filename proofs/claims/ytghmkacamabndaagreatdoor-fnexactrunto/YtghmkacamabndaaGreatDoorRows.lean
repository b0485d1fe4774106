/-
  NARROWER THAN 'FOR EVERY INPUT', by the rows' own cells (each row's printed sentence says how): FnSteps: laid · FnRuns: laid · FnExactStepOf: laid · FnExactRunTo: laid.
  DERIVED. THE GIVEN ROWS OF THIS SEAT. 4 by the template 'for every input the law returns true; each argument reads behind the call as it read before'; 0 by the template 'total and deterministic' (their statements: YtghmkacamabndaaGreatDoorTotals.lean).
  GIVEN WITH THE SEED: the statements are not yours to turn. If you find one false, say at which input.
  Laid BY PROGRAM, IN A SANDBOX (cutbox-rows.mjs): the forced cells as the released guide's own fill.sh prints them over the translation 3c9579ad9c53bd6b… (all of the seat's roots in one cut). By AI agents, Wed Nov 11 2026. No macro, syntax, notation, axiom, sorry.
-/
import Derived.Test.YtghmkacamabndaaGreatDoorChecked
import GoSem.Claim
import GoSem.ClaimJoined
import GoSem.ClaimMapViews
import Derived.JoinedTies
import Derived.KernelRfl
namespace Go.Proofs.YtghmkacamabndaaGreatDoor
/- THE CELL 'sum', in the pinned program and in every row, IS THE sha256 OF THE DUMP (.gsa) THAT YtghmkacamabndaaGreatDoorProg.lean LOADS. Nothing in Lean hashes anything: it is a label: what it is worth is what the hold of that sum in a sandbox is worth. -/
noncomputable def Tryz.pinned : Pinned := { name := "ytghmkacamabndaagreatdoor", sum := "3c9579ad9c53bd6b2f555b62d926b5f3539adcc72d08b02cf284341df9957569", checked := Tryz.checked }
namespace Rows
def none {H : Type} : Left H := { results := [], args := [] }

/- WHAT THE LISTED PACKAGE-LEVEL VARIABLES READ AS WHEN THE CALL BEGINS. Each datum BY PROGRAM (the guide's laid-datum.mjs) off the statement by which the dump's own 'gosem.cut.vars' lays the variable. In a bare row this is a premise. The card (YtghmkacamabndaaGreatDoorCards.lean) ties it to the program's text. -/
def laid_loop_example_g00741_impl_opLines {H : Type} : DataW H := .agg [.agg [.lit (.string [110, 111, 112]), .lit (.int .i64 1), .lit (.int .i64 1)], .agg [.lit (.string [108, 100, 97]), .lit (.int .i64 2), .lit (.int .i64 2)], .agg [.lit (.string [108, 100, 98]), .lit (.int .i64 2), .lit (.int .i64 2)], .agg [.lit (.string [109, 97, 98]), .lit (.int .i64 1), .lit (.int .i64 1)], .agg [.lit (.string [109, 98, 97]), .lit (.int .i64 1), .lit (.int .i64 1)], .agg [.lit (.string [103, 101, 116]), .lit (.int .i64 2), .lit (.int .i64 3)], .agg [.lit (.string [112, 117, 116]), .lit (.int .i64 2), .lit (.int .i64 3)], .agg [.lit (.string [103, 105, 98]), .lit (.int .i64 1), .lit (.int .i64 2)], .agg [.lit (.string [112, 105, 98]), .lit (.int .i64 1), .lit (.int .i64 2)], .agg [.lit (.string [97, 100, 100]), .lit (.int .i64 2), .lit (.int .i64 2)], .agg [.lit (.string [97, 100, 98]), .lit (.int .i64 1), .lit (.int .i64 1)], .agg [.lit (.string [115, 117, 98]), .lit (.int .i64 2), .lit (.int .i64 2)], .agg [.lit (.string [99, 109, 112]), .lit (.int .i64 2), .lit (.int .i64 2)], .agg [.lit (.string [97, 110, 100]), .lit (.int .i64 2), .lit (.int .i64 2)], .agg [.lit (.string [120, 111, 114]), .lit (.int .i64 2), .lit (.int .i64 2)], .agg [.lit (.string [114, 111, 108]), .lit (.int .i64 1), .lit (.int .i64 1)], .agg [.lit (.string [114, 111, 114]), .lit (.int .i64 1), .lit (.int .i64 1)], .agg [.lit (.string [105, 110, 98]), .lit (.int .i64 1), .lit (.int .i64 1)], .agg [.lit (.string [100, 101, 98]), .lit (.int .i64 1), .lit (.int .i64 1)], .agg [.lit (.string [106, 109, 112]), .lit (.int .i64 2), .lit (.int .i64 3)], .agg [.lit (.string [106, 112, 122]), .lit (.int .i64 2), .lit (.int .i64 3)], .agg [.lit (.string [106, 110, 122]), .lit (.int .i64 2), .lit (.int .i64 3)], .agg [.lit (.string [106, 112, 99]), .lit (.int .i64 2), .lit (.int .i64 3)], .agg [.lit (.string [99, 97, 108]), .lit (.int .i64 2), .lit (.int .i64 4)], .agg [.lit (.string [114, 101, 116]), .lit (.int .i64 1), .lit (.int .i64 4)], .agg [.lit (.string [112, 115, 104]), .lit (.int .i64 1), .lit (.int .i64 3)], .agg [.lit (.string [112, 111, 112]), .lit (.int .i64 1), .lit (.int .i64 3)], .agg [.lit (.string [101, 110, 105]), .lit (.int .i64 1), .lit (.int .i64 1)], .agg [.lit (.string [100, 105, 115]), .lit (.int .i64 1), .lit (.int .i64 1)], .agg [.lit (.string [114, 116, 105]), .lit (.int .i64 1), .lit (.int .i64 4)], .agg [.lit (.string [104, 108, 116]), .lit (.int .i64 1), .lit (.int .i64 1)]]

/-- 'laws.FnSteps': WHATEVER THE INPUT: true; the input reads as it did. -/
def fnStepsSpec : ChangeSpec := { name := "fnSteps", vars := ["loop.example/g00741/impl.opLines"], fn := fun _ => fun
  | [d, g1] => { results := [.lit (.bool true)], args := [d], vars := [g1] }
  | _ => none }
def fnStepsRow : OpenClaim := { program := "ytghmkacamabndaagreatdoor", sum := "3c9579ad9c53bd6b2f555b62d926b5f3539adcc72d08b02cf284341df9957569", func := "loop.example/g00741/laws.FnSteps", spec := "fnSteps", unfollowed := true, recurses := true, named := ["loop.example/g00741/impl.opLines"], apart := false, laid := [("loop.example/g00741/impl.opLines", laid_loop_example_g00741_impl_opLines)] }
def FnStepsSaid : Prop := fnStepsRow.holds Tryz.pinned (OpenSpec.ofChange fnStepsSpec)

/-- ITS FALSE NEIGHBOUR: 'it returns false'. Refute it at one input. -/
def fnStepsWrong : ChangeSpec := { name := "fnSteps", vars := ["loop.example/g00741/impl.opLines"], fn := fun _ => fun
  | [d, g1] => { results := [.lit (.bool false)], args := [d], vars := [g1] }
  | _ => none }
def FnStepsWrongFalsely : Prop := fnStepsRow.holds Tryz.pinned (OpenSpec.ofChange fnStepsWrong)

/-- 'laws.FnRuns': WHATEVER THE INPUT: true; the input reads as it did. -/
def fnRunsSpec : ChangeSpec := { name := "fnRuns", vars := ["loop.example/g00741/impl.opLines"], fn := fun _ => fun
  | [d, g1] => { results := [.lit (.bool true)], args := [d], vars := [g1] }
  | _ => none }
def fnRunsRow : OpenClaim := { program := "ytghmkacamabndaagreatdoor", sum := "3c9579ad9c53bd6b2f555b62d926b5f3539adcc72d08b02cf284341df9957569", func := "loop.example/g00741/laws.FnRuns", spec := "fnRuns", unfollowed := true, recurses := true, named := ["loop.example/g00741/impl.opLines"], apart := false, laid := [("loop.example/g00741/impl.opLines", laid_loop_example_g00741_impl_opLines)] }
def FnRunsSaid : Prop := fnRunsRow.holds Tryz.pinned (OpenSpec.ofChange fnRunsSpec)

/-- ITS FALSE NEIGHBOUR: 'it returns false'. Refute it at one input. -/
def fnRunsWrong : ChangeSpec := { name := "fnRuns", vars := ["loop.example/g00741/impl.opLines"], fn := fun _ => fun
  | [d, g1] => { results := [.lit (.bool false)], args := [d], vars := [g1] }
  | _ => none }
def FnRunsWrongFalsely : Prop := fnRunsRow.holds Tryz.pinned (OpenSpec.ofChange fnRunsWrong)

/-- 'laws.FnExactStepOf': WHATEVER THE INPUT: true; the input reads as it did. -/
def fnExactStepOfSpec : ChangeSpec := { name := "fnExactStepOf", vars := ["loop.example/g00741/impl.opLines"], fn := fun _ => fun
  | [d1, d2, g1] => { results := [.lit (.bool true)], args := [d1, d2], vars := [g1] }
  | _ => none }
def fnExactStepOfRow : OpenClaim := { program := "ytghmkacamabndaagreatdoor", sum := "3c9579ad9c53bd6b2f555b62d926b5f3539adcc72d08b02cf284341df9957569", func := "loop.example/g00741/laws.FnExactStepOf", spec := "fnExactStepOf", unfollowed := true, recurses := true, named := ["loop.example/g00741/impl.opLines"], apart := false, laid := [("loop.example/g00741/impl.opLines", laid_loop_example_g00741_impl_opLines)] }
def FnExactStepOfSaid : Prop := fnExactStepOfRow.holds Tryz.pinned (OpenSpec.ofChange fnExactStepOfSpec)

/-- ITS FALSE NEIGHBOUR: 'it returns false'. Refute it at one input. -/
def fnExactStepOfWrong : ChangeSpec := { name := "fnExactStepOf", vars := ["loop.example/g00741/impl.opLines"], fn := fun _ => fun
  | [d1, d2, g1] => { results := [.lit (.bool false)], args := [d1, d2], vars := [g1] }
  | _ => none }
def FnExactStepOfWrongFalsely : Prop := fnExactStepOfRow.holds Tryz.pinned (OpenSpec.ofChange fnExactStepOfWrong)

/-- 'laws.FnExactRunTo': WHATEVER THE INPUT: true; the input reads as it did. -/
def fnExactRunToSpec : ChangeSpec := { name := "fnExactRunTo", vars := ["loop.example/g00741/impl.opLines"], fn := fun _ => fun
  | [d1, d2, d3, g1] => { results := [.lit (.bool true)], args := [d1, d2, d3], vars := [g1] }
  | _ => none }
def fnExactRunToRow : OpenClaim := { program := "ytghmkacamabndaagreatdoor", sum := "3c9579ad9c53bd6b2f555b62d926b5f3539adcc72d08b02cf284341df9957569", func := "loop.example/g00741/laws.FnExactRunTo", spec := "fnExactRunTo", unfollowed := true, recurses := true, named := ["loop.example/g00741/impl.opLines"], apart := false, laid := [("loop.example/g00741/impl.opLines", laid_loop_example_g00741_impl_opLines)] }
def FnExactRunToSaid : Prop := fnExactRunToRow.holds Tryz.pinned (OpenSpec.ofChange fnExactRunToSpec)

/-- ITS FALSE NEIGHBOUR: 'it returns false'. Refute it at one input. -/
def fnExactRunToWrong : ChangeSpec := { name := "fnExactRunTo", vars := ["loop.example/g00741/impl.opLines"], fn := fun _ => fun
  | [d1, d2, d3, g1] => { results := [.lit (.bool false)], args := [d1, d2, d3], vars := [g1] }
  | _ => none }
def FnExactRunToWrongFalsely : Prop := fnExactRunToRow.holds Tryz.pinned (OpenSpec.ofChange fnExactRunToWrong)

/- THE SECOND FORM. 'bulk': how many values and letters a reading holds, each counted each time it is reached (what is shared counts as often as it is met; a slice's spare places count too). A statement '..UptoSaid' is the law's where the arguments, and the package variables that the reading takes, are together of bulk at most 1048576: NARROWER than '..Said'. Prove '..Said' where nothing that the law and all that it calls make is longer than what came in: it says more and counts as full. Else prove '..UptoSaid'. A law counts once. -/
mutual
def uptoBulk {H : Type} : DataW H → Nat
  | .lit (.string bytes) => bytes.length + 1
  | .lit _ => 1
  | .nil => 1
  | .ptr d => uptoBulk d + 1
  | .slice elems spare => uptoBulkAll elems + uptoBulkAll spare + 1
  | .agg parts => uptoBulkAll parts + 1
  | .iface _ d => uptoBulk d + 1
  | .map entries => uptoBulkEntries entries + 1
  | .held _ => 1
def uptoBulkAll {H : Type} : List (DataW H) → Nat
  | [] => 0
  | d :: r => uptoBulk d + uptoBulkAll r
def uptoBulkEntries {H : Type} : List (Lit × DataW H) → Nat
  | [] => 0
  | x :: r => uptoBulkEntry x + uptoBulkEntries r
def uptoBulkEntry {H : Type} : Lit × DataW H → Nat
  | (.string bytes, d) => bytes.length + uptoBulk d + 1
  | (_, d) => uptoBulk d + 1
 end
def uptoSmall : (H : Type) → List (DataW H) → Bool := fun _ ds => decide (uptoBulkAll ds ≤ 1048576)
def OpenSpec.upto (s : _root_.Go.ChangeSpec) : _root_.Go.OpenSpec := { _root_.Go.OpenSpec.ofChange s with cond := some uptoSmall }

/-- 'laws.FnSteps', WHERE WHAT IT READS IS OF BULK AT MOST 1048576: true; the input reads as it did. -/
def fnStepsUptoRow : OpenClaim := { program := "ytghmkacamabndaagreatdoor", sum := "3c9579ad9c53bd6b2f555b62d926b5f3539adcc72d08b02cf284341df9957569", func := "loop.example/g00741/laws.FnSteps", spec := "fnSteps", unfollowed := true, recurses := true, named := ["loop.example/g00741/impl.opLines"], apart := false, laid := [("loop.example/g00741/impl.opLines", laid_loop_example_g00741_impl_opLines)], narrowed := true }
def FnStepsUptoSaid : Prop := fnStepsUptoRow.holds Tryz.pinned (OpenSpec.upto fnStepsSpec)

/-- 'laws.FnRuns', WHERE WHAT IT READS IS OF BULK AT MOST 1048576: true; the input reads as it did. -/
def fnRunsUptoRow : OpenClaim := { program := "ytghmkacamabndaagreatdoor", sum := "3c9579ad9c53bd6b2f555b62d926b5f3539adcc72d08b02cf284341df9957569", func := "loop.example/g00741/laws.FnRuns", spec := "fnRuns", unfollowed := true, recurses := true, named := ["loop.example/g00741/impl.opLines"], apart := false, laid := [("loop.example/g00741/impl.opLines", laid_loop_example_g00741_impl_opLines)], narrowed := true }
def FnRunsUptoSaid : Prop := fnRunsUptoRow.holds Tryz.pinned (OpenSpec.upto fnRunsSpec)

/-- 'laws.FnExactStepOf', WHERE WHAT IT READS IS OF BULK AT MOST 1048576: true; the input reads as it did. -/
def fnExactStepOfUptoRow : OpenClaim := { program := "ytghmkacamabndaagreatdoor", sum := "3c9579ad9c53bd6b2f555b62d926b5f3539adcc72d08b02cf284341df9957569", func := "loop.example/g00741/laws.FnExactStepOf", spec := "fnExactStepOf", unfollowed := true, recurses := true, named := ["loop.example/g00741/impl.opLines"], apart := false, laid := [("loop.example/g00741/impl.opLines", laid_loop_example_g00741_impl_opLines)], narrowed := true }
def FnExactStepOfUptoSaid : Prop := fnExactStepOfUptoRow.holds Tryz.pinned (OpenSpec.upto fnExactStepOfSpec)

/-- 'laws.FnExactRunTo', WHERE WHAT IT READS IS OF BULK AT MOST 1048576: true; the input reads as it did. -/
def fnExactRunToUptoRow : OpenClaim := { program := "ytghmkacamabndaagreatdoor", sum := "3c9579ad9c53bd6b2f555b62d926b5f3539adcc72d08b02cf284341df9957569", func := "loop.example/g00741/laws.FnExactRunTo", spec := "fnExactRunTo", unfollowed := true, recurses := true, named := ["loop.example/g00741/impl.opLines"], apart := false, laid := [("loop.example/g00741/impl.opLines", laid_loop_example_g00741_impl_opLines)], narrowed := true }
def FnExactRunToUptoSaid : Prop := fnExactRunToUptoRow.holds Tryz.pinned (OpenSpec.upto fnExactRunToSpec)

end Rows
end Go.Proofs.YtghmkacamabndaaGreatDoor
