/-
  The timer after so many cycles, as the document's model counts it; a timer taken over field by field, and two of them compared.
-/
import Derived.Test.YtocofjimkfffeaaTmr3
namespace Go.Proofs.Ytocofjimkfffeaa.Tmr
open Go.ChangeShapes Go.WideShapes Go.RowKit Base Num Slc Rw
set_option linter.unusedVariables false

/-- What a struct of four numbers came in as. -/
theorem toTimer_any (t : Tm) (w : World) :
    Calls Try.prog 18 #[t.val] w fun e w' => e = .returned t.val ∧ Below w.heap.size w w' := by
  obtain ⟨c, v, s, m⟩ := t
  show Calls Try.prog 18 #[.agg #[.int .i64 c, .int .i64 v, .int .i64 s, .int .i64 m]] w _
  go_enter Try.func18, Try.ntmps18
  go_wp2
  refine ret_row rfl rfl ((Row.new1 (w := w.alloc _) (n := w.heap.size + 1) (by simp) #[.int .i64 c, .int .i64 v, .int .i64 s, .int .i64 m] 31).alloc _) und_tm rfl info_tm rfl ?_
  exact ⟨rfl, (((Below.refl _ _).alloc (Nat.le_refl _) _).alloc (by simp) _).alloc (by simp; omega) _⟩
def Tm.eq (t u : Tm) : Bool := t.c == u.c && t.v == u.v && t.s == u.s && t.m == u.m
theorem eqTimer_same (t : Tm) (w : World) :
    Calls Try.prog 23 #[t.val, t.val] w fun e w' => e = .returned (.bool true) ∧ Below w.heap.size w w' := by
  obtain ⟨c, v, s, m⟩ := t
  show Calls Try.prog 23 #[.agg #[.int .i64 c, .int .i64 v, .int .i64 s, .int .i64 m], .agg #[.int .i64 c, .int .i64 v, .int .i64 s, .int .i64 m]] w _
  go_enter Try.func23, Try.ntmps23
  go_wp2
  go_ret
  exact ⟨rfl, ((Below.refl _ _).alloc (Nat.le_refl _) _).alloc (by simp) _⟩
end Go.Proofs.Ytocofjimkfffeaa.Tmr
