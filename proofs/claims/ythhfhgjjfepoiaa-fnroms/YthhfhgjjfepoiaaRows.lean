/-
  No cell of these rows narrows 'for every input' (looked for: loops, veiled, ifaces, maps, wideKeys, modest, calm, conditions, laid).
  DERIVED. THE GIVEN ROWS OF THIS SEAT. 4 by the template 'for every input the law returns true; each argument reads behind the call as it read before'; 0 by the template 'total and deterministic' (their statements: YthhfhgjjfepoiaaTotals.lean).
  GIVEN WITH THE SEED: the statements are not yours to turn. If you find one false, say at which input.
  Laid BY PROGRAM, IN A SANDBOX (cutbox-rows.mjs): the forced cells as the released guide's own fill.sh prints them over the translation ba4815c5b2074aa6… (all of the seat's roots in one cut). By AI agents, Wed Nov 11 2026. No macro, syntax, notation, axiom, sorry.
-/
import Derived.Test.YthhfhgjjfepoiaaChecked
import GoSem.Claim
import GoSem.ClaimJoined
import GoSem.ClaimMapViews
import Derived.JoinedTies
import Derived.KernelRfl
namespace Go.Proofs.Ythhfhgjjfepoiaa
/- THE CELL 'sum', in the pinned program and in every row, IS THE sha256 OF THE DUMP (.gsa) THAT YthhfhgjjfepoiaaProg.lean LOADS. Nothing in Lean hashes anything: it is a label: what it is worth is what the hold of that sum in a sandbox is worth. -/
noncomputable def Try.pinned : Pinned := { name := "ythhfhgjjfepoiaa", sum := "ba4815c5b2074aa6af9b19fd142b2076d6114fa782a63cc91e542047da66239e", checked := Try.checked }
namespace Rows
def none {H : Type} : Left H := { results := [], args := [] }

/-- 'laws.FnRoms': WHATEVER THE INPUT: true; the input reads as it did. -/
def fnRomsSpec : ChangeSpec := { name := "fnRoms", fn := fun _ => fun
  | [d] => { results := [.lit (.bool true)], args := [d] }
  | _ => none }
def fnRomsRow : OpenClaim := { program := "ythhfhgjjfepoiaa", sum := "ba4815c5b2074aa6af9b19fd142b2076d6114fa782a63cc91e542047da66239e", func := "loop.example/g00741/laws.FnRoms", spec := "fnRoms", unfollowed := true, recurses := true, apart := false }
def FnRomsSaid : Prop := fnRomsRow.holds Try.pinned (OpenSpec.ofChange fnRomsSpec)

/-- ITS FALSE NEIGHBOUR: 'it returns false'. Refute it at one input. -/
def fnRomsWrong : ChangeSpec := { name := "fnRoms", fn := fun _ => fun
  | [d] => { results := [.lit (.bool false)], args := [d] }
  | _ => none }
def FnRomsWrongFalsely : Prop := fnRomsRow.holds Try.pinned (OpenSpec.ofChange fnRomsWrong)

/-- 'laws.FnExactCheckOf': WHATEVER THE INPUT: true; the input reads as it did. -/
def fnExactCheckOfSpec : ChangeSpec := { name := "fnExactCheckOf", fn := fun _ => fun
  | [d] => { results := [.lit (.bool true)], args := [d] }
  | _ => none }
def fnExactCheckOfRow : OpenClaim := { program := "ythhfhgjjfepoiaa", sum := "ba4815c5b2074aa6af9b19fd142b2076d6114fa782a63cc91e542047da66239e", func := "loop.example/g00741/laws.FnExactCheckOf", spec := "fnExactCheckOf", unfollowed := true, recurses := true, apart := false }
def FnExactCheckOfSaid : Prop := fnExactCheckOfRow.holds Try.pinned (OpenSpec.ofChange fnExactCheckOfSpec)

/-- ITS FALSE NEIGHBOUR: 'it returns false'. Refute it at one input. -/
def fnExactCheckOfWrong : ChangeSpec := { name := "fnExactCheckOf", fn := fun _ => fun
  | [d] => { results := [.lit (.bool false)], args := [d] }
  | _ => none }
def FnExactCheckOfWrongFalsely : Prop := fnExactCheckOfRow.holds Try.pinned (OpenSpec.ofChange fnExactCheckOfWrong)

/-- 'laws.FnExactRomOk': WHATEVER THE INPUT: true; the input reads as it did. -/
def fnExactRomOkSpec : ChangeSpec := { name := "fnExactRomOk", fn := fun _ => fun
  | [d] => { results := [.lit (.bool true)], args := [d] }
  | _ => none }
def fnExactRomOkRow : OpenClaim := { program := "ythhfhgjjfepoiaa", sum := "ba4815c5b2074aa6af9b19fd142b2076d6114fa782a63cc91e542047da66239e", func := "loop.example/g00741/laws.FnExactRomOk", spec := "fnExactRomOk", unfollowed := true, recurses := true, apart := false }
def FnExactRomOkSaid : Prop := fnExactRomOkRow.holds Try.pinned (OpenSpec.ofChange fnExactRomOkSpec)

/-- ITS FALSE NEIGHBOUR: 'it returns false'. Refute it at one input. -/
def fnExactRomOkWrong : ChangeSpec := { name := "fnExactRomOk", fn := fun _ => fun
  | [d] => { results := [.lit (.bool false)], args := [d] }
  | _ => none }
def FnExactRomOkWrongFalsely : Prop := fnExactRomOkRow.holds Try.pinned (OpenSpec.ofChange fnExactRomOkWrong)

/-- 'laws.FnExactRomOf': WHATEVER THE INPUT: true; the input reads as it did. -/
def fnExactRomOfSpec : ChangeSpec := { name := "fnExactRomOf", fn := fun _ => fun
  | [d] => { results := [.lit (.bool true)], args := [d] }
  | _ => none }
def fnExactRomOfRow : OpenClaim := { program := "ythhfhgjjfepoiaa", sum := "ba4815c5b2074aa6af9b19fd142b2076d6114fa782a63cc91e542047da66239e", func := "loop.example/g00741/laws.FnExactRomOf", spec := "fnExactRomOf", unfollowed := true, recurses := true, apart := false }
def FnExactRomOfSaid : Prop := fnExactRomOfRow.holds Try.pinned (OpenSpec.ofChange fnExactRomOfSpec)

/-- ITS FALSE NEIGHBOUR: 'it returns false'. Refute it at one input. -/
def fnExactRomOfWrong : ChangeSpec := { name := "fnExactRomOf", fn := fun _ => fun
  | [d] => { results := [.lit (.bool false)], args := [d] }
  | _ => none }
def FnExactRomOfWrongFalsely : Prop := fnExactRomOfRow.holds Try.pinned (OpenSpec.ofChange fnExactRomOfWrong)

/- THE SECOND FORM. 'bulk': how many values and letters a reading holds, each counted each time it is reached (what is shared counts as often as it is met; a slice's spare places count too). A statement '..UptoSaid' is the law's where the arguments, and the package variables that the reading takes, are together of bulk at most 1048576: NARROWER than '..Said'. Prove '..Said' where nothing that the law and all that it calls make is longer than what came in: it says more and counts as full. Else prove '..UptoSaid'. A law counts once. -/
mutual
def uptoBulk {H : Type} : DataW H → Nat
  | .lit (.string bytes) => bytes.length + 1
  | .lit _ => 1
  | .nil => 1
  | .ptr d => uptoBulk d + 1
  | .slice elems spare => uptoBulkAll elems + uptoBulkAll spare + 1
  | .agg parts => uptoBulkAll parts + 1
  | .iface _ d => uptoBulk d + 1
  | .map entries => uptoBulkEntries entries + 1
  | .held _ => 1
def uptoBulkAll {H : Type} : List (DataW H) → Nat
  | [] => 0
  | d :: r => uptoBulk d + uptoBulkAll r
def uptoBulkEntries {H : Type} : List (Lit × DataW H) → Nat
  | [] => 0
  | x :: r => uptoBulkEntry x + uptoBulkEntries r
def uptoBulkEntry {H : Type} : Lit × DataW H → Nat
  | (.string bytes, d) => bytes.length + uptoBulk d + 1
  | (_, d) => uptoBulk d + 1
 end
def uptoSmall : (H : Type) → List (DataW H) → Bool := fun _ ds => decide (uptoBulkAll ds ≤ 1048576)
def OpenSpec.upto (s : _root_.Go.ChangeSpec) : _root_.Go.OpenSpec := { _root_.Go.OpenSpec.ofChange s with cond := some uptoSmall }

/-- 'laws.FnRoms', WHERE WHAT IT READS IS OF BULK AT MOST 1048576: true; the input reads as it did. -/
def fnRomsUptoRow : OpenClaim := { program := "ythhfhgjjfepoiaa", sum := "ba4815c5b2074aa6af9b19fd142b2076d6114fa782a63cc91e542047da66239e", func := "loop.example/g00741/laws.FnRoms", spec := "fnRoms", unfollowed := true, recurses := true, apart := false, narrowed := true }
def FnRomsUptoSaid : Prop := fnRomsUptoRow.holds Try.pinned (OpenSpec.upto fnRomsSpec)

/-- 'laws.FnExactCheckOf', WHERE WHAT IT READS IS OF BULK AT MOST 1048576: true; the input reads as it did. -/
def fnExactCheckOfUptoRow : OpenClaim := { program := "ythhfhgjjfepoiaa", sum := "ba4815c5b2074aa6af9b19fd142b2076d6114fa782a63cc91e542047da66239e", func := "loop.example/g00741/laws.FnExactCheckOf", spec := "fnExactCheckOf", unfollowed := true, recurses := true, apart := false, narrowed := true }
def FnExactCheckOfUptoSaid : Prop := fnExactCheckOfUptoRow.holds Try.pinned (OpenSpec.upto fnExactCheckOfSpec)

/-- 'laws.FnExactRomOk', WHERE WHAT IT READS IS OF BULK AT MOST 1048576: true; the input reads as it did. -/
def fnExactRomOkUptoRow : OpenClaim := { program := "ythhfhgjjfepoiaa", sum := "ba4815c5b2074aa6af9b19fd142b2076d6114fa782a63cc91e542047da66239e", func := "loop.example/g00741/laws.FnExactRomOk", spec := "fnExactRomOk", unfollowed := true, recurses := true, apart := false, narrowed := true }
def FnExactRomOkUptoSaid : Prop := fnExactRomOkUptoRow.holds Try.pinned (OpenSpec.upto fnExactRomOkSpec)

/-- 'laws.FnExactRomOf', WHERE WHAT IT READS IS OF BULK AT MOST 1048576: true; the input reads as it did. -/
def fnExactRomOfUptoRow : OpenClaim := { program := "ythhfhgjjfepoiaa", sum := "ba4815c5b2074aa6af9b19fd142b2076d6114fa782a63cc91e542047da66239e", func := "loop.example/g00741/laws.FnExactRomOf", spec := "fnExactRomOf", unfollowed := true, recurses := true, apart := false, narrowed := true }
def FnExactRomOfUptoSaid : Prop := fnExactRomOfUptoRow.holds Try.pinned (OpenSpec.upto fnExactRomOfSpec)

end Rows
end Go.Proofs.Ythhfhgjjfepoiaa
