/-
  What came in as an argument of a law: a number, a truth value, a timer.
-/
import Derived.Test.YtggfjghcgacdnaaTmr
import Derived.Lib.SmallJoins
namespace Go.Proofs.Ytggfjghcgacdnaa.Args
open Go.ChangeShapes Go.WideShapes Go.RowKit Base Tmr Go.Joins
set_option linter.unusedVariables false
set_option maxRecDepth 20000

/-- An argument of the type t that reads as a datum. -/
def Arg (t : TypeId) (w : World) (v : Value) : Prop :=
  ∃ (H : Type) (enc : TypeId × Value → H) (b : Nat) (d : DataW H) (p : List MemPlace), Value.okWide Try.prog w .any b t v ∧ DataW.Trod enc Try.prog w 0 (fun _ => true) true t v d p
set_option maxRecDepth 20000 in
theorem Arg.int {w : World} {v : Value} (h : Arg 2 w v) : ∃ n : Int, v = .int .i64 n ∧ -9223372036854775808 ≤ n ∧ n ≤ 9223372036854775807 := by
  obtain ⟨H, enc, b, d, p, hv, hd⟩ := h
  obtain ⟨n, rfl, rfl, rfl, wf⟩ := open_int Try.underlying2 hv hd
  exact ⟨n, rfl, bounds_i64 wf⟩
end Go.Proofs.Ytggfjghcgacdnaa.Args
