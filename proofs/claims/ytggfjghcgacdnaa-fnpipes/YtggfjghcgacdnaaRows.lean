/-
  No cell of these rows narrows 'for every input' (looked for: loops, veiled, ifaces, maps, wideKeys, modest, calm, conditions, laid).
  DERIVED. THE GIVEN ROWS OF THIS SEAT. 5 by the template 'for every input the law returns true; each argument reads behind the call as it read before'; 0 by the template 'total and deterministic' (their statements: YtggfjghcgacdnaaTotals.lean).
  GIVEN WITH THE SEED: the statements are not yours to turn. If you find one false, say at which input.
  Laid BY PROGRAM, IN A SANDBOX (cutbox-rows.mjs): the forced cells as the released guide's own fill.sh prints them over the translation bdc373bad77c44ed… (all of the seat's roots in one cut). By AI agents, Wed Nov 11 2026. No macro, syntax, notation, axiom, sorry.
-/
import Derived.Test.YtggfjghcgacdnaaChecked
import GoSem.Claim
import GoSem.ClaimJoined
import GoSem.ClaimMapViews
import Derived.JoinedTies
import Derived.KernelRfl
namespace Go.Proofs.Ytggfjghcgacdnaa
/- THE CELL 'sum', in the pinned program and in every row, IS THE sha256 OF THE DUMP (.gsa) THAT YtggfjghcgacdnaaProg.lean LOADS. Nothing in Lean hashes anything: it is a label: what it is worth is what the hold of that sum in a sandbox is worth. -/
noncomputable def Try.pinned : Pinned := { name := "ytggfjghcgacdnaa", sum := "bdc373bad77c44edf33fdba40e3b0d6763b8690a975de63144482380f3930a07", checked := Try.checked }
namespace Rows
def none {H : Type} : Left H := { results := [], args := [] }

/-- 'laws.FnPipes': WHATEVER THE INPUT: true; the input reads as it did. -/
def fnPipesSpec : ChangeSpec := { name := "fnPipes", fn := fun _ => fun
  | [d] => { results := [.lit (.bool true)], args := [d] }
  | _ => none }
def fnPipesRow : OpenClaim := { program := "ytggfjghcgacdnaa", sum := "bdc373bad77c44edf33fdba40e3b0d6763b8690a975de63144482380f3930a07", func := "loop.example/g00741/laws.FnPipes", spec := "fnPipes", unfollowed := true, recurses := true, apart := false }
def FnPipesSaid : Prop := fnPipesRow.holds Try.pinned (OpenSpec.ofChange fnPipesSpec)

/-- ITS FALSE NEIGHBOUR: 'it returns false'. Refute it at one input. -/
def fnPipesWrong : ChangeSpec := { name := "fnPipes", fn := fun _ => fun
  | [d] => { results := [.lit (.bool false)], args := [d] }
  | _ => none }
def FnPipesWrongFalsely : Prop := fnPipesRow.holds Try.pinned (OpenSpec.ofChange fnPipesWrong)

/-- 'laws.FnExactNoteOk': WHATEVER THE INPUT: true; the input reads as it did. -/
def fnExactNoteOkSpec : ChangeSpec := { name := "fnExactNoteOk", fn := fun _ => fun
  | [d] => { results := [.lit (.bool true)], args := [d] }
  | _ => none }
def fnExactNoteOkRow : OpenClaim := { program := "ytggfjghcgacdnaa", sum := "bdc373bad77c44edf33fdba40e3b0d6763b8690a975de63144482380f3930a07", func := "loop.example/g00741/laws.FnExactNoteOk", spec := "fnExactNoteOk", apart := false }
def FnExactNoteOkSaid : Prop := fnExactNoteOkRow.holds Try.pinned (OpenSpec.ofChange fnExactNoteOkSpec)

/-- ITS FALSE NEIGHBOUR: 'it returns false'. Refute it at one input. -/
def fnExactNoteOkWrong : ChangeSpec := { name := "fnExactNoteOk", fn := fun _ => fun
  | [d] => { results := [.lit (.bool false)], args := [d] }
  | _ => none }
def FnExactNoteOkWrongFalsely : Prop := fnExactNoteOkRow.holds Try.pinned (OpenSpec.ofChange fnExactNoteOkWrong)

/-- 'laws.FnExactPipeOk': WHATEVER THE INPUT: true; the input reads as it did. -/
def fnExactPipeOkSpec : ChangeSpec := { name := "fnExactPipeOk", fn := fun _ => fun
  | [d] => { results := [.lit (.bool true)], args := [d] }
  | _ => none }
def fnExactPipeOkRow : OpenClaim := { program := "ytggfjghcgacdnaa", sum := "bdc373bad77c44edf33fdba40e3b0d6763b8690a975de63144482380f3930a07", func := "loop.example/g00741/laws.FnExactPipeOk", spec := "fnExactPipeOk", unfollowed := true, recurses := true, apart := false }
def FnExactPipeOkSaid : Prop := fnExactPipeOkRow.holds Try.pinned (OpenSpec.ofChange fnExactPipeOkSpec)

/-- ITS FALSE NEIGHBOUR: 'it returns false'. Refute it at one input. -/
def fnExactPipeOkWrong : ChangeSpec := { name := "fnExactPipeOk", fn := fun _ => fun
  | [d] => { results := [.lit (.bool false)], args := [d] }
  | _ => none }
def FnExactPipeOkWrongFalsely : Prop := fnExactPipeOkRow.holds Try.pinned (OpenSpec.ofChange fnExactPipeOkWrong)

/-- 'laws.FnExactPipeWith': WHATEVER THE INPUT: true; the input reads as it did. -/
def fnExactPipeWithSpec : ChangeSpec := { name := "fnExactPipeWith", fn := fun _ => fun
  | [d1, d2] => { results := [.lit (.bool true)], args := [d1, d2] }
  | _ => none }
def fnExactPipeWithRow : OpenClaim := { program := "ytggfjghcgacdnaa", sum := "bdc373bad77c44edf33fdba40e3b0d6763b8690a975de63144482380f3930a07", func := "loop.example/g00741/laws.FnExactPipeWith", spec := "fnExactPipeWith", unfollowed := true, recurses := true, apart := false }
def FnExactPipeWithSaid : Prop := fnExactPipeWithRow.holds Try.pinned (OpenSpec.ofChange fnExactPipeWithSpec)

/-- ITS FALSE NEIGHBOUR: 'it returns false'. Refute it at one input. -/
def fnExactPipeWithWrong : ChangeSpec := { name := "fnExactPipeWith", fn := fun _ => fun
  | [d1, d2] => { results := [.lit (.bool false)], args := [d1, d2] }
  | _ => none }
def FnExactPipeWithWrongFalsely : Prop := fnExactPipeWithRow.holds Try.pinned (OpenSpec.ofChange fnExactPipeWithWrong)

/-- 'laws.FnExactPipeFirst': WHATEVER THE INPUT: true; the input reads as it did. -/
def fnExactPipeFirstSpec : ChangeSpec := { name := "fnExactPipeFirst", fn := fun _ => fun
  | [d] => { results := [.lit (.bool true)], args := [d] }
  | _ => none }
def fnExactPipeFirstRow : OpenClaim := { program := "ytggfjghcgacdnaa", sum := "bdc373bad77c44edf33fdba40e3b0d6763b8690a975de63144482380f3930a07", func := "loop.example/g00741/laws.FnExactPipeFirst", spec := "fnExactPipeFirst", unfollowed := true, recurses := true, apart := false }
def FnExactPipeFirstSaid : Prop := fnExactPipeFirstRow.holds Try.pinned (OpenSpec.ofChange fnExactPipeFirstSpec)

/-- ITS FALSE NEIGHBOUR: 'it returns false'. Refute it at one input. -/
def fnExactPipeFirstWrong : ChangeSpec := { name := "fnExactPipeFirst", fn := fun _ => fun
  | [d] => { results := [.lit (.bool false)], args := [d] }
  | _ => none }
def FnExactPipeFirstWrongFalsely : Prop := fnExactPipeFirstRow.holds Try.pinned (OpenSpec.ofChange fnExactPipeFirstWrong)

/- THE SECOND FORM. 'bulk': how many values and letters a reading holds, each counted each time it is reached (what is shared counts as often as it is met; a slice's spare places count too). A statement '..UptoSaid' is the law's where the arguments, and the package variables that the reading takes, are together of bulk at most 1048576: NARROWER than '..Said'. Prove '..Said' where nothing that the law and all that it calls make is longer than what came in: it says more and counts as full. Else prove '..UptoSaid'. A law counts once. -/
mutual
def uptoBulk {H : Type} : DataW H → Nat
  | .lit (.string bytes) => bytes.length + 1
  | .lit _ => 1
  | .nil => 1
  | .ptr d => uptoBulk d + 1
  | .slice elems spare => uptoBulkAll elems + uptoBulkAll spare + 1
  | .agg parts => uptoBulkAll parts + 1
  | .iface _ d => uptoBulk d + 1
  | .map entries => uptoBulkEntries entries + 1
  | .held _ => 1
def uptoBulkAll {H : Type} : List (DataW H) → Nat
  | [] => 0
  | d :: r => uptoBulk d + uptoBulkAll r
def uptoBulkEntries {H : Type} : List (Lit × DataW H) → Nat
  | [] => 0
  | x :: r => uptoBulkEntry x + uptoBulkEntries r
def uptoBulkEntry {H : Type} : Lit × DataW H → Nat
  | (.string bytes, d) => bytes.length + uptoBulk d + 1
  | (_, d) => uptoBulk d + 1
 end
def uptoSmall : (H : Type) → List (DataW H) → Bool := fun _ ds => decide (uptoBulkAll ds ≤ 1048576)
def OpenSpec.upto (s : _root_.Go.ChangeSpec) : _root_.Go.OpenSpec := { _root_.Go.OpenSpec.ofChange s with cond := some uptoSmall }

/-- 'laws.FnPipes', WHERE WHAT IT READS IS OF BULK AT MOST 1048576: true; the input reads as it did. -/
def fnPipesUptoRow : OpenClaim := { program := "ytggfjghcgacdnaa", sum := "bdc373bad77c44edf33fdba40e3b0d6763b8690a975de63144482380f3930a07", func := "loop.example/g00741/laws.FnPipes", spec := "fnPipes", unfollowed := true, recurses := true, apart := false, narrowed := true }
def FnPipesUptoSaid : Prop := fnPipesUptoRow.holds Try.pinned (OpenSpec.upto fnPipesSpec)

/-- 'laws.FnExactNoteOk', WHERE WHAT IT READS IS OF BULK AT MOST 1048576: true; the input reads as it did. -/
def fnExactNoteOkUptoRow : OpenClaim := { program := "ytggfjghcgacdnaa", sum := "bdc373bad77c44edf33fdba40e3b0d6763b8690a975de63144482380f3930a07", func := "loop.example/g00741/laws.FnExactNoteOk", spec := "fnExactNoteOk", apart := false, narrowed := true }
def FnExactNoteOkUptoSaid : Prop := fnExactNoteOkUptoRow.holds Try.pinned (OpenSpec.upto fnExactNoteOkSpec)

/-- 'laws.FnExactPipeOk', WHERE WHAT IT READS IS OF BULK AT MOST 1048576: true; the input reads as it did. -/
def fnExactPipeOkUptoRow : OpenClaim := { program := "ytggfjghcgacdnaa", sum := "bdc373bad77c44edf33fdba40e3b0d6763b8690a975de63144482380f3930a07", func := "loop.example/g00741/laws.FnExactPipeOk", spec := "fnExactPipeOk", unfollowed := true, recurses := true, apart := false, narrowed := true }
def FnExactPipeOkUptoSaid : Prop := fnExactPipeOkUptoRow.holds Try.pinned (OpenSpec.upto fnExactPipeOkSpec)

/-- 'laws.FnExactPipeWith', WHERE WHAT IT READS IS OF BULK AT MOST 1048576: true; the input reads as it did. -/
def fnExactPipeWithUptoRow : OpenClaim := { program := "ytggfjghcgacdnaa", sum := "bdc373bad77c44edf33fdba40e3b0d6763b8690a975de63144482380f3930a07", func := "loop.example/g00741/laws.FnExactPipeWith", spec := "fnExactPipeWith", unfollowed := true, recurses := true, apart := false, narrowed := true }
def FnExactPipeWithUptoSaid : Prop := fnExactPipeWithUptoRow.holds Try.pinned (OpenSpec.upto fnExactPipeWithSpec)

/-- 'laws.FnExactPipeFirst', WHERE WHAT IT READS IS OF BULK AT MOST 1048576: true; the input reads as it did. -/
def fnExactPipeFirstUptoRow : OpenClaim := { program := "ytggfjghcgacdnaa", sum := "bdc373bad77c44edf33fdba40e3b0d6763b8690a975de63144482380f3930a07", func := "loop.example/g00741/laws.FnExactPipeFirst", spec := "fnExactPipeFirst", unfollowed := true, recurses := true, apart := false, narrowed := true }
def FnExactPipeFirstUptoSaid : Prop := fnExactPipeFirstUptoRow.holds Try.pinned (OpenSpec.upto fnExactPipeFirstSpec)

end Rows
end Go.Proofs.Ytggfjghcgacdnaa
