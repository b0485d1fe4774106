/-
  NARROWER THAN 'FOR EVERY INPUT', by the rows' own cells (each row's printed sentence says how): FnExecuted: laid · FnCalledAway: laid.
  DERIVED. THE GIVEN ROWS OF THIS SEAT. 2 by the template 'for every input the law returns true; each argument reads behind the call as it read before'; 0 by the template 'total and deterministic' (their statements: YtocofjimkfffeaaGreatDoorTotals.lean).
  GIVEN WITH THE SEED: the statements are not yours to turn. If you find one false, say at which input.
  Laid BY PROGRAM, IN A SANDBOX (cutbox-rows.mjs): the forced cells as the released guide's own fill.sh prints them over the translation fdabead0a6f52108… (all of the seat's roots in one cut). By AI agents, Wed Nov 11 2026. No macro, syntax, notation, axiom, sorry.
-/
import Derived.Test.YtocofjimkfffeaaGreatDoorChecked
import GoSem.Claim
import GoSem.ClaimJoined
import GoSem.ClaimMapViews
import Derived.JoinedTies
import Derived.KernelRfl
namespace Go.Proofs.YtocofjimkfffeaaGreatDoor
/- THE CELL 'sum', in the pinned program and in every row, IS THE sha256 OF THE DUMP (.gsa) THAT YtocofjimkfffeaaGreatDoorProg.lean LOADS. Nothing in Lean hashes anything: it is a label: what it is worth is what the hold of that sum in a sandbox is worth. -/
noncomputable def Tryz.pinned : Pinned := { name := "ytocofjimkfffeaagreatdoor", sum := "fdabead0a6f521080e7af69a816a39baad9d305151b174e95200544f4af8294b", checked := Tryz.checked }
namespace Rows
def none {H : Type} : Left H := { results := [], args := [] }

/- WHAT THE LISTED PACKAGE-LEVEL VARIABLES READ AS WHEN THE CALL BEGINS. Each datum BY PROGRAM (the guide's laid-datum.mjs) off the statement by which the dump's own 'gosem.cut.vars' lays the variable. In a bare row this is a premise. The card (YtocofjimkfffeaaGreatDoorCards.lean) ties it to the program's text. -/
def laid_loop_example_g00741_impl_opLines {H : Type} : DataW H := .agg [.agg [.lit (.string [110, 111, 112]), .lit (.int .i64 1), .lit (.int .i64 1)], .agg [.lit (.string [108, 100, 97]), .lit (.int .i64 2), .lit (.int .i64 2)], .agg [.lit (.string [108, 100, 98]), .lit (.int .i64 2), .lit (.int .i64 2)], .agg [.lit (.string [109, 97, 98]), .lit (.int .i64 1), .lit (.int .i64 1)], .agg [.lit (.string [109, 98, 97]), .lit (.int .i64 1), .lit (.int .i64 1)], .agg [.lit (.string [103, 101, 116]), .lit (.int .i64 2), .lit (.int .i64 3)], .agg [.lit (.string [112, 117, 116]), .lit (.int .i64 2), .lit (.int .i64 3)], .agg [.lit (.string [103, 105, 98]), .lit (.int .i64 1), .lit (.int .i64 2)], .agg [.lit (.string [112, 105, 98]), .lit (.int .i64 1), .lit (.int .i64 2)], .agg [.lit (.string [97, 100, 100]), .lit (.int .i64 2), .lit (.int .i64 2)], .agg [.lit (.string [97, 100, 98]), .lit (.int .i64 1), .lit (.int .i64 1)], .agg [.lit (.string [115, 117, 98]), .lit (.int .i64 2), .lit (.int .i64 2)], .agg [.lit (.string [99, 109, 112]), .lit (.int .i64 2), .lit (.int .i64 2)], .agg [.lit (.string [97, 110, 100]), .lit (.int .i64 2), .lit (.int .i64 2)], .agg [.lit (.string [120, 111, 114]), .lit (.int .i64 2), .lit (.int .i64 2)], .agg [.lit (.string [114, 111, 108]), .lit (.int .i64 1), .lit (.int .i64 1)], .agg [.lit (.string [114, 111, 114]), .lit (.int .i64 1), .lit (.int .i64 1)], .agg [.lit (.string [105, 110, 98]), .lit (.int .i64 1), .lit (.int .i64 1)], .agg [.lit (.string [100, 101, 98]), .lit (.int .i64 1), .lit (.int .i64 1)], .agg [.lit (.string [106, 109, 112]), .lit (.int .i64 2), .lit (.int .i64 3)], .agg [.lit (.string [106, 112, 122]), .lit (.int .i64 2), .lit (.int .i64 3)], .agg [.lit (.string [106, 110, 122]), .lit (.int .i64 2), .lit (.int .i64 3)], .agg [.lit (.string [106, 112, 99]), .lit (.int .i64 2), .lit (.int .i64 3)], .agg [.lit (.string [99, 97, 108]), .lit (.int .i64 2), .lit (.int .i64 4)], .agg [.lit (.string [114, 101, 116]), .lit (.int .i64 1), .lit (.int .i64 4)], .agg [.lit (.string [112, 115, 104]), .lit (.int .i64 1), .lit (.int .i64 3)], .agg [.lit (.string [112, 111, 112]), .lit (.int .i64 1), .lit (.int .i64 3)], .agg [.lit (.string [101, 110, 105]), .lit (.int .i64 1), .lit (.int .i64 1)], .agg [.lit (.string [100, 105, 115]), .lit (.int .i64 1), .lit (.int .i64 1)], .agg [.lit (.string [114, 116, 105]), .lit (.int .i64 1), .lit (.int .i64 4)], .agg [.lit (.string [104, 108, 116]), .lit (.int .i64 1), .lit (.int .i64 1)]]

/-- 'laws.FnExecuted': WHATEVER THE INPUT: true; the input reads as it did. -/
def fnExecutedSpec : ChangeSpec := { name := "fnExecuted", vars := ["loop.example/g00741/impl.opLines"], fn := fun _ => fun
  | [d, g1] => { results := [.lit (.bool true)], args := [d], vars := [g1] }
  | _ => none }
def fnExecutedRow : OpenClaim := { program := "ytocofjimkfffeaagreatdoor", sum := "fdabead0a6f521080e7af69a816a39baad9d305151b174e95200544f4af8294b", func := "loop.example/g00741/laws.FnExecuted", spec := "fnExecuted", unfollowed := true, recurses := true, named := ["loop.example/g00741/impl.opLines"], apart := false, laid := [("loop.example/g00741/impl.opLines", laid_loop_example_g00741_impl_opLines)] }
def FnExecutedSaid : Prop := fnExecutedRow.holds Tryz.pinned (OpenSpec.ofChange fnExecutedSpec)

/-- ITS FALSE NEIGHBOUR: 'it returns false'. Refute it at one input. -/
def fnExecutedWrong : ChangeSpec := { name := "fnExecuted", vars := ["loop.example/g00741/impl.opLines"], fn := fun _ => fun
  | [d, g1] => { results := [.lit (.bool false)], args := [d], vars := [g1] }
  | _ => none }
def FnExecutedWrongFalsely : Prop := fnExecutedRow.holds Tryz.pinned (OpenSpec.ofChange fnExecutedWrong)

/-- 'laws.FnCalledAway': WHATEVER THE INPUT: true; the input reads as it did. -/
def fnCalledAwaySpec : ChangeSpec := { name := "fnCalledAway", vars := ["loop.example/g00741/impl.opLines"], fn := fun _ => fun
  | [d, g1] => { results := [.lit (.bool true)], args := [d], vars := [g1] }
  | _ => none }
def fnCalledAwayRow : OpenClaim := { program := "ytocofjimkfffeaagreatdoor", sum := "fdabead0a6f521080e7af69a816a39baad9d305151b174e95200544f4af8294b", func := "loop.example/g00741/laws.FnCalledAway", spec := "fnCalledAway", unfollowed := true, recurses := true, named := ["loop.example/g00741/impl.opLines"], apart := false, laid := [("loop.example/g00741/impl.opLines", laid_loop_example_g00741_impl_opLines)] }
def FnCalledAwaySaid : Prop := fnCalledAwayRow.holds Tryz.pinned (OpenSpec.ofChange fnCalledAwaySpec)

/-- ITS FALSE NEIGHBOUR: 'it returns false'. Refute it at one input. -/
def fnCalledAwayWrong : ChangeSpec := { name := "fnCalledAway", vars := ["loop.example/g00741/impl.opLines"], fn := fun _ => fun
  | [d, g1] => { results := [.lit (.bool false)], args := [d], vars := [g1] }
  | _ => none }
def FnCalledAwayWrongFalsely : Prop := fnCalledAwayRow.holds Tryz.pinned (OpenSpec.ofChange fnCalledAwayWrong)

/- THE SECOND FORM. 'bulk': how many values and letters a reading holds, each counted each time it is reached (what is shared counts as often as it is met; a slice's spare places count too). A statement '..UptoSaid' is the law's where the arguments, and the package variables that the reading takes, are together of bulk at most 1048576: NARROWER than '..Said'. Prove '..Said' where nothing that the law and all that it calls make is longer than what came in: it says more and counts as full. Else prove '..UptoSaid'. A law counts once. -/
mutual
def uptoBulk {H : Type} : DataW H → Nat
  | .lit (.string bytes) => bytes.length + 1
  | .lit _ => 1
  | .nil => 1
  | .ptr d => uptoBulk d + 1
  | .slice elems spare => uptoBulkAll elems + uptoBulkAll spare + 1
  | .agg parts => uptoBulkAll parts + 1
  | .iface _ d => uptoBulk d + 1
  | .map entries => uptoBulkEntries entries + 1
  | .held _ => 1
def uptoBulkAll {H : Type} : List (DataW H) → Nat
  | [] => 0
  | d :: r => uptoBulk d + uptoBulkAll r
def uptoBulkEntries {H : Type} : List (Lit × DataW H) → Nat
  | [] => 0
  | x :: r => uptoBulkEntry x + uptoBulkEntries r
def uptoBulkEntry {H : Type} : Lit × DataW H → Nat
  | (.string bytes, d) => bytes.length + uptoBulk d + 1
  | (_, d) => uptoBulk d + 1
 end
def uptoSmall : (H : Type) → List (DataW H) → Bool := fun _ ds => decide (uptoBulkAll ds ≤ 1048576)
def OpenSpec.upto (s : _root_.Go.ChangeSpec) : _root_.Go.OpenSpec := { _root_.Go.OpenSpec.ofChange s with cond := some uptoSmall }

/-- 'laws.FnExecuted', WHERE WHAT IT READS IS OF BULK AT MOST 1048576: true; the input reads as it did. -/
def fnExecutedUptoRow : OpenClaim := { program := "ytocofjimkfffeaagreatdoor", sum := "fdabead0a6f521080e7af69a816a39baad9d305151b174e95200544f4af8294b", func := "loop.example/g00741/laws.FnExecuted", spec := "fnExecuted", unfollowed := true, recurses := true, named := ["loop.example/g00741/impl.opLines"], apart := false, laid := [("loop.example/g00741/impl.opLines", laid_loop_example_g00741_impl_opLines)], narrowed := true }
def FnExecutedUptoSaid : Prop := fnExecutedUptoRow.holds Tryz.pinned (OpenSpec.upto fnExecutedSpec)

/-- 'laws.FnCalledAway', WHERE WHAT IT READS IS OF BULK AT MOST 1048576: true; the input reads as it did. -/
def fnCalledAwayUptoRow : OpenClaim := { program := "ytocofjimkfffeaagreatdoor", sum := "fdabead0a6f521080e7af69a816a39baad9d305151b174e95200544f4af8294b", func := "loop.example/g00741/laws.FnCalledAway", spec := "fnCalledAway", unfollowed := true, recurses := true, named := ["loop.example/g00741/impl.opLines"], apart := false, laid := [("loop.example/g00741/impl.opLines", laid_loop_example_g00741_impl_opLines)], narrowed := true }
def FnCalledAwayUptoSaid : Prop := fnCalledAwayUptoRow.holds Tryz.pinned (OpenSpec.upto fnCalledAwaySpec)

end Rows
end Go.Proofs.YtocofjimkfffeaaGreatDoor
