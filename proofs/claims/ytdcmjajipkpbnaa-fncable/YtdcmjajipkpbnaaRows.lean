/-
  No cell of these rows narrows 'for every input' (looked for: loops, veiled, ifaces, maps, wideKeys, modest, calm, conditions, laid).
  DERIVED. THE GIVEN ROWS OF THIS SEAT. 7 by the template 'for every input the law returns true; each argument reads behind the call as it read before'; 0 by the template 'total and deterministic' (their statements: YtdcmjajipkpbnaaTotals.lean).
  GIVEN WITH THE SEED: the statements are not yours to turn. If you find one false, say at which input.
  Laid BY PROGRAM, IN A SANDBOX (cutbox-rows.mjs): the forced cells as the released guide's own fill.sh prints them over the translation 3602afd7e01faae6… (all of the seat's roots in one cut). By AI agents, Wed Nov 11 2026. No macro, syntax, notation, axiom, sorry.
-/
import Derived.Test.YtdcmjajipkpbnaaChecked
import GoSem.Claim
import GoSem.ClaimJoined
import GoSem.ClaimMapViews
import Derived.JoinedTies
import Derived.KernelRfl
namespace Go.Proofs.Ytdcmjajipkpbnaa
/- THE CELL 'sum', in the pinned program and in every row, IS THE sha256 OF THE DUMP (.gsa) THAT YtdcmjajipkpbnaaProg.lean LOADS. Nothing in Lean hashes anything: it is a label: what it is worth is what the hold of that sum in a sandbox is worth. -/
noncomputable def Try.pinned : Pinned := { name := "ytdcmjajipkpbnaa", sum := "3602afd7e01faae6d74dc242c9a6066b0ce76c6a62e5519aaceca5f3c23faa3d", checked := Try.checked }
namespace Rows
def none {H : Type} : Left H := { results := [], args := [] }

/-- 'laws.FnCable': WHATEVER THE INPUT: true; the input reads as it did. -/
def fnCableSpec : ChangeSpec := { name := "fnCable", fn := fun _ => fun
  | [d] => { results := [.lit (.bool true)], args := [d] }
  | _ => none }
def fnCableRow : OpenClaim := { program := "ytdcmjajipkpbnaa", sum := "3602afd7e01faae6d74dc242c9a6066b0ce76c6a62e5519aaceca5f3c23faa3d", func := "loop.example/g00741/laws.FnCable", spec := "fnCable", unfollowed := true, recurses := true, apart := false }
def FnCableSaid : Prop := fnCableRow.holds Try.pinned (OpenSpec.ofChange fnCableSpec)

/-- ITS FALSE NEIGHBOUR: 'it returns false'. Refute it at one input. -/
def fnCableWrong : ChangeSpec := { name := "fnCable", fn := fun _ => fun
  | [d] => { results := [.lit (.bool false)], args := [d] }
  | _ => none }
def FnCableWrongFalsely : Prop := fnCableRow.holds Try.pinned (OpenSpec.ofChange fnCableWrong)

/-- 'laws.FnSerials': WHATEVER THE INPUT: true; the input reads as it did. -/
def fnSerialsSpec : ChangeSpec := { name := "fnSerials", fn := fun _ => fun
  | [d] => { results := [.lit (.bool true)], args := [d] }
  | _ => none }
def fnSerialsRow : OpenClaim := { program := "ytdcmjajipkpbnaa", sum := "3602afd7e01faae6d74dc242c9a6066b0ce76c6a62e5519aaceca5f3c23faa3d", func := "loop.example/g00741/laws.FnSerials", spec := "fnSerials", unfollowed := true, recurses := true, apart := false }
def FnSerialsSaid : Prop := fnSerialsRow.holds Try.pinned (OpenSpec.ofChange fnSerialsSpec)

/-- ITS FALSE NEIGHBOUR: 'it returns false'. Refute it at one input. -/
def fnSerialsWrong : ChangeSpec := { name := "fnSerials", fn := fun _ => fun
  | [d] => { results := [.lit (.bool false)], args := [d] }
  | _ => none }
def FnSerialsWrongFalsely : Prop := fnSerialsRow.holds Try.pinned (OpenSpec.ofChange fnSerialsWrong)

/-- 'laws.FnExactSerialOk': WHATEVER THE INPUT: true; the input reads as it did. -/
def fnExactSerialOkSpec : ChangeSpec := { name := "fnExactSerialOk", fn := fun _ => fun
  | [d] => { results := [.lit (.bool true)], args := [d] }
  | _ => none }
def fnExactSerialOkRow : OpenClaim := { program := "ytdcmjajipkpbnaa", sum := "3602afd7e01faae6d74dc242c9a6066b0ce76c6a62e5519aaceca5f3c23faa3d", func := "loop.example/g00741/laws.FnExactSerialOk", spec := "fnExactSerialOk", apart := false }
def FnExactSerialOkSaid : Prop := fnExactSerialOkRow.holds Try.pinned (OpenSpec.ofChange fnExactSerialOkSpec)

/-- ITS FALSE NEIGHBOUR: 'it returns false'. Refute it at one input. -/
def fnExactSerialOkWrong : ChangeSpec := { name := "fnExactSerialOk", fn := fun _ => fun
  | [d] => { results := [.lit (.bool false)], args := [d] }
  | _ => none }
def FnExactSerialOkWrongFalsely : Prop := fnExactSerialOkRow.holds Try.pinned (OpenSpec.ofChange fnExactSerialOkWrong)

/-- 'laws.FnExactSerialStart': WHATEVER THE INPUT: true; the input reads as it did. -/
def fnExactSerialStartSpec : ChangeSpec := { name := "fnExactSerialStart", fn := fun _ => fun
  | [d1, d2, d3] => { results := [.lit (.bool true)], args := [d1, d2, d3] }
  | _ => none }
def fnExactSerialStartRow : OpenClaim := { program := "ytdcmjajipkpbnaa", sum := "3602afd7e01faae6d74dc242c9a6066b0ce76c6a62e5519aaceca5f3c23faa3d", func := "loop.example/g00741/laws.FnExactSerialStart", spec := "fnExactSerialStart", apart := false }
def FnExactSerialStartSaid : Prop := fnExactSerialStartRow.holds Try.pinned (OpenSpec.ofChange fnExactSerialStartSpec)

/-- ITS FALSE NEIGHBOUR: 'it returns false'. Refute it at one input. -/
def fnExactSerialStartWrong : ChangeSpec := { name := "fnExactSerialStart", fn := fun _ => fun
  | [d1, d2, d3] => { results := [.lit (.bool false)], args := [d1, d2, d3] }
  | _ => none }
def FnExactSerialStartWrongFalsely : Prop := fnExactSerialStartRow.holds Try.pinned (OpenSpec.ofChange fnExactSerialStartWrong)

/-- 'laws.FnExactSerialSends': WHATEVER THE INPUT: true; the input reads as it did. -/
def fnExactSerialSendsSpec : ChangeSpec := { name := "fnExactSerialSends", fn := fun _ => fun
  | [d1, d2] => { results := [.lit (.bool true)], args := [d1, d2] }
  | _ => none }
def fnExactSerialSendsRow : OpenClaim := { program := "ytdcmjajipkpbnaa", sum := "3602afd7e01faae6d74dc242c9a6066b0ce76c6a62e5519aaceca5f3c23faa3d", func := "loop.example/g00741/laws.FnExactSerialSends", spec := "fnExactSerialSends", unfollowed := true, recurses := true, apart := false }
def FnExactSerialSendsSaid : Prop := fnExactSerialSendsRow.holds Try.pinned (OpenSpec.ofChange fnExactSerialSendsSpec)

/-- ITS FALSE NEIGHBOUR: 'it returns false'. Refute it at one input. -/
def fnExactSerialSendsWrong : ChangeSpec := { name := "fnExactSerialSends", fn := fun _ => fun
  | [d1, d2] => { results := [.lit (.bool false)], args := [d1, d2] }
  | _ => none }
def FnExactSerialSendsWrongFalsely : Prop := fnExactSerialSendsRow.holds Try.pinned (OpenSpec.ofChange fnExactSerialSendsWrong)

/-- 'laws.FnExactSerialBeat': WHATEVER THE INPUT: true; the input reads as it did. -/
def fnExactSerialBeatSpec : ChangeSpec := { name := "fnExactSerialBeat", fn := fun _ => fun
  | [d1, d2] => { results := [.lit (.bool true)], args := [d1, d2] }
  | _ => none }
def fnExactSerialBeatRow : OpenClaim := { program := "ytdcmjajipkpbnaa", sum := "3602afd7e01faae6d74dc242c9a6066b0ce76c6a62e5519aaceca5f3c23faa3d", func := "loop.example/g00741/laws.FnExactSerialBeat", spec := "fnExactSerialBeat", unfollowed := true, recurses := true, apart := false }
def FnExactSerialBeatSaid : Prop := fnExactSerialBeatRow.holds Try.pinned (OpenSpec.ofChange fnExactSerialBeatSpec)

/-- ITS FALSE NEIGHBOUR: 'it returns false'. Refute it at one input. -/
def fnExactSerialBeatWrong : ChangeSpec := { name := "fnExactSerialBeat", fn := fun _ => fun
  | [d1, d2] => { results := [.lit (.bool false)], args := [d1, d2] }
  | _ => none }
def FnExactSerialBeatWrongFalsely : Prop := fnExactSerialBeatRow.holds Try.pinned (OpenSpec.ofChange fnExactSerialBeatWrong)

/-- 'laws.FnExactSerialAnswer': WHATEVER THE INPUT: true; the input reads as it did. -/
def fnExactSerialAnswerSpec : ChangeSpec := { name := "fnExactSerialAnswer", fn := fun _ => fun
  | [d1, d2, d3] => { results := [.lit (.bool true)], args := [d1, d2, d3] }
  | _ => none }
def fnExactSerialAnswerRow : OpenClaim := { program := "ytdcmjajipkpbnaa", sum := "3602afd7e01faae6d74dc242c9a6066b0ce76c6a62e5519aaceca5f3c23faa3d", func := "loop.example/g00741/laws.FnExactSerialAnswer", spec := "fnExactSerialAnswer", unfollowed := true, recurses := true, apart := false }
def FnExactSerialAnswerSaid : Prop := fnExactSerialAnswerRow.holds Try.pinned (OpenSpec.ofChange fnExactSerialAnswerSpec)

/-- ITS FALSE NEIGHBOUR: 'it returns false'. Refute it at one input. -/
def fnExactSerialAnswerWrong : ChangeSpec := { name := "fnExactSerialAnswer", fn := fun _ => fun
  | [d1, d2, d3] => { results := [.lit (.bool false)], args := [d1, d2, d3] }
  | _ => none }
def FnExactSerialAnswerWrongFalsely : Prop := fnExactSerialAnswerRow.holds Try.pinned (OpenSpec.ofChange fnExactSerialAnswerWrong)

/- THE SECOND FORM. 'bulk': how many values and letters a reading holds, each counted each time it is reached (what is shared counts as often as it is met; a slice's spare places count too). A statement '..UptoSaid' is the law's where the arguments, and the package variables that the reading takes, are together of bulk at most 1048576: NARROWER than '..Said'. Prove '..Said' where nothing that the law and all that it calls make is longer than what came in: it says more and counts as full. Else prove '..UptoSaid'. A law counts once. -/
mutual
def uptoBulk {H : Type} : DataW H → Nat
  | .lit (.string bytes) => bytes.length + 1
  | .lit _ => 1
  | .nil => 1
  | .ptr d => uptoBulk d + 1
  | .slice elems spare => uptoBulkAll elems + uptoBulkAll spare + 1
  | .agg parts => uptoBulkAll parts + 1
  | .iface _ d => uptoBulk d + 1
  | .map entries => uptoBulkEntries entries + 1
  | .held _ => 1
def uptoBulkAll {H : Type} : List (DataW H) → Nat
  | [] => 0
  | d :: r => uptoBulk d + uptoBulkAll r
def uptoBulkEntries {H : Type} : List (Lit × DataW H) → Nat
  | [] => 0
  | x :: r => uptoBulkEntry x + uptoBulkEntries r
def uptoBulkEntry {H : Type} : Lit × DataW H → Nat
  | (.string bytes, d) => bytes.length + uptoBulk d + 1
  | (_, d) => uptoBulk d + 1
 end
def uptoSmall : (H : Type) → List (DataW H) → Bool := fun _ ds => decide (uptoBulkAll ds ≤ 1048576)
def OpenSpec.upto (s : _root_.Go.ChangeSpec) : _root_.Go.OpenSpec := { _root_.Go.OpenSpec.ofChange s with cond := some uptoSmall }

/-- 'laws.FnCable', WHERE WHAT IT READS IS OF BULK AT MOST 1048576: true; the input reads as it did. -/
def fnCableUptoRow : OpenClaim := { program := "ytdcmjajipkpbnaa", sum := "3602afd7e01faae6d74dc242c9a6066b0ce76c6a62e5519aaceca5f3c23faa3d", func := "loop.example/g00741/laws.FnCable", spec := "fnCable", unfollowed := true, recurses := true, apart := false, narrowed := true }
def FnCableUptoSaid : Prop := fnCableUptoRow.holds Try.pinned (OpenSpec.upto fnCableSpec)

/-- 'laws.FnSerials', WHERE WHAT IT READS IS OF BULK AT MOST 1048576: true; the input reads as it did. -/
def fnSerialsUptoRow : OpenClaim := { program := "ytdcmjajipkpbnaa", sum := "3602afd7e01faae6d74dc242c9a6066b0ce76c6a62e5519aaceca5f3c23faa3d", func := "loop.example/g00741/laws.FnSerials", spec := "fnSerials", unfollowed := true, recurses := true, apart := false, narrowed := true }
def FnSerialsUptoSaid : Prop := fnSerialsUptoRow.holds Try.pinned (OpenSpec.upto fnSerialsSpec)

/-- 'laws.FnExactSerialOk', WHERE WHAT IT READS IS OF BULK AT MOST 1048576: true; the input reads as it did. -/
def fnExactSerialOkUptoRow : OpenClaim := { program := "ytdcmjajipkpbnaa", sum := "3602afd7e01faae6d74dc242c9a6066b0ce76c6a62e5519aaceca5f3c23faa3d", func := "loop.example/g00741/laws.FnExactSerialOk", spec := "fnExactSerialOk", apart := false, narrowed := true }
def FnExactSerialOkUptoSaid : Prop := fnExactSerialOkUptoRow.holds Try.pinned (OpenSpec.upto fnExactSerialOkSpec)

/-- 'laws.FnExactSerialStart', WHERE WHAT IT READS IS OF BULK AT MOST 1048576: true; the input reads as it did. -/
def fnExactSerialStartUptoRow : OpenClaim := { program := "ytdcmjajipkpbnaa", sum := "3602afd7e01faae6d74dc242c9a6066b0ce76c6a62e5519aaceca5f3c23faa3d", func := "loop.example/g00741/laws.FnExactSerialStart", spec := "fnExactSerialStart", apart := false, narrowed := true }
def FnExactSerialStartUptoSaid : Prop := fnExactSerialStartUptoRow.holds Try.pinned (OpenSpec.upto fnExactSerialStartSpec)

/-- 'laws.FnExactSerialSends', WHERE WHAT IT READS IS OF BULK AT MOST 1048576: true; the input reads as it did. -/
def fnExactSerialSendsUptoRow : OpenClaim := { program := "ytdcmjajipkpbnaa", sum := "3602afd7e01faae6d74dc242c9a6066b0ce76c6a62e5519aaceca5f3c23faa3d", func := "loop.example/g00741/laws.FnExactSerialSends", spec := "fnExactSerialSends", unfollowed := true, recurses := true, apart := false, narrowed := true }
def FnExactSerialSendsUptoSaid : Prop := fnExactSerialSendsUptoRow.holds Try.pinned (OpenSpec.upto fnExactSerialSendsSpec)

/-- 'laws.FnExactSerialBeat', WHERE WHAT IT READS IS OF BULK AT MOST 1048576: true; the input reads as it did. -/
def fnExactSerialBeatUptoRow : OpenClaim := { program := "ytdcmjajipkpbnaa", sum := "3602afd7e01faae6d74dc242c9a6066b0ce76c6a62e5519aaceca5f3c23faa3d", func := "loop.example/g00741/laws.FnExactSerialBeat", spec := "fnExactSerialBeat", unfollowed := true, recurses := true, apart := false, narrowed := true }
def FnExactSerialBeatUptoSaid : Prop := fnExactSerialBeatUptoRow.holds Try.pinned (OpenSpec.upto fnExactSerialBeatSpec)

/-- 'laws.FnExactSerialAnswer', WHERE WHAT IT READS IS OF BULK AT MOST 1048576: true; the input reads as it did. -/
def fnExactSerialAnswerUptoRow : OpenClaim := { program := "ytdcmjajipkpbnaa", sum := "3602afd7e01faae6d74dc242c9a6066b0ce76c6a62e5519aaceca5f3c23faa3d", func := "loop.example/g00741/laws.FnExactSerialAnswer", spec := "fnExactSerialAnswer", unfollowed := true, recurses := true, apart := false, narrowed := true }
def FnExactSerialAnswerUptoSaid : Prop := fnExactSerialAnswerUptoRow.holds Try.pinned (OpenSpec.upto fnExactSerialAnswerSpec)

end Rows
end Go.Proofs.Ytdcmjajipkpbnaa
