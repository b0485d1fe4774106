/-
  No cell of these rows narrows 'for every input' (looked for: loops, veiled, ifaces, maps, wideKeys, modest, calm, conditions, laid).
  DERIVED. THE GIVEN ROWS OF THIS SEAT. 6 by the template 'for every input the law returns true; each argument reads behind the call as it read before'; 0 by the template 'total and deterministic' (their statements: YtgghhigggopndaaTotals.lean).
  GIVEN WITH THE SEED: the statements are not yours to turn. If you find one false, say at which input.
  Laid BY PROGRAM, IN A SANDBOX (cutbox-rows.mjs): the forced cells as the released guide's own fill.sh prints them over the translation 5f87ae2d011dd795… (all of the seat's roots in one cut). By AI agents, Wed Nov 11 2026. No macro, syntax, notation, axiom, sorry.
-/
import Derived.Test.YtgghhigggopndaaChecked
import GoSem.Claim
import GoSem.ClaimJoined
import GoSem.ClaimMapViews
import Derived.JoinedTies
import Derived.KernelRfl
namespace Go.Proofs.Ytgghhigggopndaa
/- THE CELL 'sum', in the pinned program and in every row, IS THE sha256 OF THE DUMP (.gsa) THAT YtgghhigggopndaaProg.lean LOADS. Nothing in Lean hashes anything: it is a label: what it is worth is what the hold of that sum in a sandbox is worth. -/
noncomputable def Try.pinned : Pinned := { name := "ytgghhigggopndaa", sum := "5f87ae2d011dd795b52a3539912606c20871d5c9d3998d79c66c11cb5b937c14", checked := Try.checked }
namespace Rows
def none {H : Type} : Left H := { results := [], args := [] }

/-- 'laws.FnNums': WHATEVER THE INPUT: true; the input reads as it did. -/
def fnNumsSpec : ChangeSpec := { name := "fnNums", fn := fun _ => fun
  | [d] => { results := [.lit (.bool true)], args := [d] }
  | _ => none }
def fnNumsRow : OpenClaim := { program := "ytgghhigggopndaa", sum := "5f87ae2d011dd795b52a3539912606c20871d5c9d3998d79c66c11cb5b937c14", func := "loop.example/g00741/laws.FnNums", spec := "fnNums", unfollowed := true, recurses := true, apart := false }
def FnNumsSaid : Prop := fnNumsRow.holds Try.pinned (OpenSpec.ofChange fnNumsSpec)

/-- ITS FALSE NEIGHBOUR: 'it returns false'. Refute it at one input. -/
def fnNumsWrong : ChangeSpec := { name := "fnNums", fn := fun _ => fun
  | [d] => { results := [.lit (.bool false)], args := [d] }
  | _ => none }
def FnNumsWrongFalsely : Prop := fnNumsRow.holds Try.pinned (OpenSpec.ofChange fnNumsWrong)

/-- 'laws.FnExactByteOk': WHATEVER THE INPUT: true; the input reads as it did. -/
def fnExactByteOkSpec : ChangeSpec := { name := "fnExactByteOk", fn := fun _ => fun
  | [d] => { results := [.lit (.bool true)], args := [d] }
  | _ => none }
def fnExactByteOkRow : OpenClaim := { program := "ytgghhigggopndaa", sum := "5f87ae2d011dd795b52a3539912606c20871d5c9d3998d79c66c11cb5b937c14", func := "loop.example/g00741/laws.FnExactByteOk", spec := "fnExactByteOk", apart := false }
def FnExactByteOkSaid : Prop := fnExactByteOkRow.holds Try.pinned (OpenSpec.ofChange fnExactByteOkSpec)

/-- ITS FALSE NEIGHBOUR: 'it returns false'. Refute it at one input. -/
def fnExactByteOkWrong : ChangeSpec := { name := "fnExactByteOk", fn := fun _ => fun
  | [d] => { results := [.lit (.bool false)], args := [d] }
  | _ => none }
def FnExactByteOkWrongFalsely : Prop := fnExactByteOkRow.holds Try.pinned (OpenSpec.ofChange fnExactByteOkWrong)

/-- 'laws.FnExactAddByte': WHATEVER THE INPUT: true; the input reads as it did. -/
def fnExactAddByteSpec : ChangeSpec := { name := "fnExactAddByte", fn := fun _ => fun
  | [d1, d2] => { results := [.lit (.bool true)], args := [d1, d2] }
  | _ => none }
def fnExactAddByteRow : OpenClaim := { program := "ytgghhigggopndaa", sum := "5f87ae2d011dd795b52a3539912606c20871d5c9d3998d79c66c11cb5b937c14", func := "loop.example/g00741/laws.FnExactAddByte", spec := "fnExactAddByte", unfollowed := true, recurses := true, apart := false }
def FnExactAddByteSaid : Prop := fnExactAddByteRow.holds Try.pinned (OpenSpec.ofChange fnExactAddByteSpec)

/-- ITS FALSE NEIGHBOUR: 'it returns false'. Refute it at one input. -/
def fnExactAddByteWrong : ChangeSpec := { name := "fnExactAddByte", fn := fun _ => fun
  | [d1, d2] => { results := [.lit (.bool false)], args := [d1, d2] }
  | _ => none }
def FnExactAddByteWrongFalsely : Prop := fnExactAddByteRow.holds Try.pinned (OpenSpec.ofChange fnExactAddByteWrong)

/-- 'laws.FnExactSubByte': WHATEVER THE INPUT: true; the input reads as it did. -/
def fnExactSubByteSpec : ChangeSpec := { name := "fnExactSubByte", fn := fun _ => fun
  | [d1, d2] => { results := [.lit (.bool true)], args := [d1, d2] }
  | _ => none }
def fnExactSubByteRow : OpenClaim := { program := "ytgghhigggopndaa", sum := "5f87ae2d011dd795b52a3539912606c20871d5c9d3998d79c66c11cb5b937c14", func := "loop.example/g00741/laws.FnExactSubByte", spec := "fnExactSubByte", unfollowed := true, recurses := true, apart := false }
def FnExactSubByteSaid : Prop := fnExactSubByteRow.holds Try.pinned (OpenSpec.ofChange fnExactSubByteSpec)

/-- ITS FALSE NEIGHBOUR: 'it returns false'. Refute it at one input. -/
def fnExactSubByteWrong : ChangeSpec := { name := "fnExactSubByte", fn := fun _ => fun
  | [d1, d2] => { results := [.lit (.bool false)], args := [d1, d2] }
  | _ => none }
def FnExactSubByteWrongFalsely : Prop := fnExactSubByteRow.holds Try.pinned (OpenSpec.ofChange fnExactSubByteWrong)

/-- 'laws.FnExactTurnedLeft': WHATEVER THE INPUT: true; the input reads as it did. -/
def fnExactTurnedLeftSpec : ChangeSpec := { name := "fnExactTurnedLeft", fn := fun _ => fun
  | [d] => { results := [.lit (.bool true)], args := [d] }
  | _ => none }
def fnExactTurnedLeftRow : OpenClaim := { program := "ytgghhigggopndaa", sum := "5f87ae2d011dd795b52a3539912606c20871d5c9d3998d79c66c11cb5b937c14", func := "loop.example/g00741/laws.FnExactTurnedLeft", spec := "fnExactTurnedLeft", unfollowed := true, recurses := true, apart := false }
def FnExactTurnedLeftSaid : Prop := fnExactTurnedLeftRow.holds Try.pinned (OpenSpec.ofChange fnExactTurnedLeftSpec)

/-- ITS FALSE NEIGHBOUR: 'it returns false'. Refute it at one input. -/
def fnExactTurnedLeftWrong : ChangeSpec := { name := "fnExactTurnedLeft", fn := fun _ => fun
  | [d] => { results := [.lit (.bool false)], args := [d] }
  | _ => none }
def FnExactTurnedLeftWrongFalsely : Prop := fnExactTurnedLeftRow.holds Try.pinned (OpenSpec.ofChange fnExactTurnedLeftWrong)

/-- 'laws.FnExactTurnedRight': WHATEVER THE INPUT: true; the input reads as it did. -/
def fnExactTurnedRightSpec : ChangeSpec := { name := "fnExactTurnedRight", fn := fun _ => fun
  | [d] => { results := [.lit (.bool true)], args := [d] }
  | _ => none }
def fnExactTurnedRightRow : OpenClaim := { program := "ytgghhigggopndaa", sum := "5f87ae2d011dd795b52a3539912606c20871d5c9d3998d79c66c11cb5b937c14", func := "loop.example/g00741/laws.FnExactTurnedRight", spec := "fnExactTurnedRight", unfollowed := true, recurses := true, apart := false }
def FnExactTurnedRightSaid : Prop := fnExactTurnedRightRow.holds Try.pinned (OpenSpec.ofChange fnExactTurnedRightSpec)

/-- ITS FALSE NEIGHBOUR: 'it returns false'. Refute it at one input. -/
def fnExactTurnedRightWrong : ChangeSpec := { name := "fnExactTurnedRight", fn := fun _ => fun
  | [d] => { results := [.lit (.bool false)], args := [d] }
  | _ => none }
def FnExactTurnedRightWrongFalsely : Prop := fnExactTurnedRightRow.holds Try.pinned (OpenSpec.ofChange fnExactTurnedRightWrong)

/- THE SECOND FORM. 'bulk': how many values and letters a reading holds, each counted each time it is reached (what is shared counts as often as it is met; a slice's spare places count too). A statement '..UptoSaid' is the law's where the arguments, and the package variables that the reading takes, are together of bulk at most 1048576: NARROWER than '..Said'. Prove '..Said' where nothing that the law and all that it calls make is longer than what came in: it says more and counts as full. Else prove '..UptoSaid'. A law counts once. -/
mutual
def uptoBulk {H : Type} : DataW H → Nat
  | .lit (.string bytes) => bytes.length + 1
  | .lit _ => 1
  | .nil => 1
  | .ptr d => uptoBulk d + 1
  | .slice elems spare => uptoBulkAll elems + uptoBulkAll spare + 1
  | .agg parts => uptoBulkAll parts + 1
  | .iface _ d => uptoBulk d + 1
  | .map entries => uptoBulkEntries entries + 1
  | .held _ => 1
def uptoBulkAll {H : Type} : List (DataW H) → Nat
  | [] => 0
  | d :: r => uptoBulk d + uptoBulkAll r
def uptoBulkEntries {H : Type} : List (Lit × DataW H) → Nat
  | [] => 0
  | x :: r => uptoBulkEntry x + uptoBulkEntries r
def uptoBulkEntry {H : Type} : Lit × DataW H → Nat
  | (.string bytes, d) => bytes.length + uptoBulk d + 1
  | (_, d) => uptoBulk d + 1
 end
def uptoSmall : (H : Type) → List (DataW H) → Bool := fun _ ds => decide (uptoBulkAll ds ≤ 1048576)
def OpenSpec.upto (s : _root_.Go.ChangeSpec) : _root_.Go.OpenSpec := { _root_.Go.OpenSpec.ofChange s with cond := some uptoSmall }

/-- 'laws.FnNums', WHERE WHAT IT READS IS OF BULK AT MOST 1048576: true; the input reads as it did. -/
def fnNumsUptoRow : OpenClaim := { program := "ytgghhigggopndaa", sum := "5f87ae2d011dd795b52a3539912606c20871d5c9d3998d79c66c11cb5b937c14", func := "loop.example/g00741/laws.FnNums", spec := "fnNums", unfollowed := true, recurses := true, apart := false, narrowed := true }
def FnNumsUptoSaid : Prop := fnNumsUptoRow.holds Try.pinned (OpenSpec.upto fnNumsSpec)

/-- 'laws.FnExactByteOk', WHERE WHAT IT READS IS OF BULK AT MOST 1048576: true; the input reads as it did. -/
def fnExactByteOkUptoRow : OpenClaim := { program := "ytgghhigggopndaa", sum := "5f87ae2d011dd795b52a3539912606c20871d5c9d3998d79c66c11cb5b937c14", func := "loop.example/g00741/laws.FnExactByteOk", spec := "fnExactByteOk", apart := false, narrowed := true }
def FnExactByteOkUptoSaid : Prop := fnExactByteOkUptoRow.holds Try.pinned (OpenSpec.upto fnExactByteOkSpec)

/-- 'laws.FnExactAddByte', WHERE WHAT IT READS IS OF BULK AT MOST 1048576: true; the input reads as it did. -/
def fnExactAddByteUptoRow : OpenClaim := { program := "ytgghhigggopndaa", sum := "5f87ae2d011dd795b52a3539912606c20871d5c9d3998d79c66c11cb5b937c14", func := "loop.example/g00741/laws.FnExactAddByte", spec := "fnExactAddByte", unfollowed := true, recurses := true, apart := false, narrowed := true }
def FnExactAddByteUptoSaid : Prop := fnExactAddByteUptoRow.holds Try.pinned (OpenSpec.upto fnExactAddByteSpec)

/-- 'laws.FnExactSubByte', WHERE WHAT IT READS IS OF BULK AT MOST 1048576: true; the input reads as it did. -/
def fnExactSubByteUptoRow : OpenClaim := { program := "ytgghhigggopndaa", sum := "5f87ae2d011dd795b52a3539912606c20871d5c9d3998d79c66c11cb5b937c14", func := "loop.example/g00741/laws.FnExactSubByte", spec := "fnExactSubByte", unfollowed := true, recurses := true, apart := false, narrowed := true }
def FnExactSubByteUptoSaid : Prop := fnExactSubByteUptoRow.holds Try.pinned (OpenSpec.upto fnExactSubByteSpec)

/-- 'laws.FnExactTurnedLeft', WHERE WHAT IT READS IS OF BULK AT MOST 1048576: true; the input reads as it did. -/
def fnExactTurnedLeftUptoRow : OpenClaim := { program := "ytgghhigggopndaa", sum := "5f87ae2d011dd795b52a3539912606c20871d5c9d3998d79c66c11cb5b937c14", func := "loop.example/g00741/laws.FnExactTurnedLeft", spec := "fnExactTurnedLeft", unfollowed := true, recurses := true, apart := false, narrowed := true }
def FnExactTurnedLeftUptoSaid : Prop := fnExactTurnedLeftUptoRow.holds Try.pinned (OpenSpec.upto fnExactTurnedLeftSpec)

/-- 'laws.FnExactTurnedRight', WHERE WHAT IT READS IS OF BULK AT MOST 1048576: true; the input reads as it did. -/
def fnExactTurnedRightUptoRow : OpenClaim := { program := "ytgghhigggopndaa", sum := "5f87ae2d011dd795b52a3539912606c20871d5c9d3998d79c66c11cb5b937c14", func := "loop.example/g00741/laws.FnExactTurnedRight", spec := "fnExactTurnedRight", unfollowed := true, recurses := true, apart := false, narrowed := true }
def FnExactTurnedRightUptoSaid : Prop := fnExactTurnedRightUptoRow.holds Try.pinned (OpenSpec.upto fnExactTurnedRightSpec)

end Rows
end Go.Proofs.Ytgghhigggopndaa
