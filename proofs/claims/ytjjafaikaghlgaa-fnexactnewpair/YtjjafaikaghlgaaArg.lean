/-
  What came in as an argument of a law: a number, a truth value, a timer.
-/
import Derived.Test.YtjjafaikaghlgaaTmr
import Derived.Lib.SmallJoins
namespace Go.Proofs.Ytjjafaikaghlgaa.Args
open Go.ChangeShapes Go.WideShapes Go.RowKit Base Tmr Go.Joins
set_option linter.unusedVariables false
set_option maxRecDepth 20000

/-- An argument of the type t that reads as a datum. -/
def Arg (t : TypeId) (w : World) (v : Value) : Prop :=
  ∃ (H : Type) (enc : TypeId × Value → H) (b : Nat) (d : DataW H) (p : List MemPlace), Value.okWide Try.prog w .any b t v ∧ DataW.Trod enc Try.prog w 0 (fun _ => true) true t v d p
set_option maxRecDepth 20000 in
theorem Arg.int {w : World} {v : Value} (h : Arg 2 w v) : ∃ n : Int, v = .int .i64 n ∧ -9223372036854775808 ≤ n ∧ n ≤ 9223372036854775807 := by
  obtain ⟨H, enc, b, d, p, hv, hd⟩ := h
  obtain ⟨n, rfl, rfl, rfl, wf⟩ := open_int Try.underlying2 hv hd
  exact ⟨n, rfl, bounds_i64 wf⟩
set_option maxRecDepth 20000 in
theorem Arg.timer {w : World} {v : Value} (h : Arg 95 w v) : ∃ t : Tm, v = t.val := by
  obtain ⟨H, enc, b, d, p, hv, hd⟩ := h
  obtain ⟨v0, v1, v2, v3, y0, y1, y2, y3, n, rfl, rfl, rfl, h0, h1, h2, h3⟩ := open_agg4 Try.underlying95 (by kernel_rfl) (by kernel_rfl) hv hd
  obtain ⟨a0, e0, rfl, w0⟩ := DataW.trod_int Try.underlying2 h0
  obtain ⟨a1, e1, rfl, w1⟩ := DataW.trod_int Try.underlying2 h1
  obtain ⟨a2, e2, rfl, w2⟩ := DataW.trod_int Try.underlying2 h2
  obtain ⟨a3, e3, rfl, w3⟩ := DataW.trod_int Try.underlying2 h3
  simp at e0 e1 e2 e3
  subst e0 e1 e2 e3
  exact ⟨⟨a0, a1, a2, a3⟩, rfl⟩
end Go.Proofs.Ytjjafaikaghlgaa.Args
