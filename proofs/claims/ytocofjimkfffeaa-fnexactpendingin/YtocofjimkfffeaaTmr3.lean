/-
  The timer after so many cycles, the program's and the document's model's.
-/
import Derived.Test.YtocofjimkfffeaaTmr2
import Derived.Test.YtocofjimkfffeaaRow
namespace Go.Proofs.Ytocofjimkfffeaa.Tmr
open Go.ChangeShapes Go.WideShapes Go.RowKit Base Num Slc Rw
set_option linter.unusedVariables false

theorem und_tm : Try.prog.underlying 31 = some (.struct #[{ name := "Count", type := 2, offset := 0, embedded := false, tag := "", pkgPath := "", byteOffset := 0 }, { name := "Value", type := 2, offset := 1, embedded := false, tag := "", pkgPath := "", byteOffset := 8 }, { name := "Start", type := 2, offset := 2, embedded := false, tag := "", pkgPath := "", byteOffset := 16 }, { name := "Mode", type := 2, offset := 3, embedded := false, tag := "", pkgPath := "", byteOffset := 24 }]) := by kernel_rfl
theorem info_tm : (Try.prog.info? 31).map (·.size) = some 4 := by kernel_rfl

section
variable {ops : Array Oper} {rest : List Oper} {o : Oper} {a : Act} {w : World} {Q : Exit → Act → World → Prop} {x y : Operand} {g : Nat} {c v s m : Int} {T : TypeId} {old : Array Value}
/-- A timer is stored into a block of its own. -/
theorem st_tm (hgd : o.guard = none) (ho : o.op = .store 31 x y) (hx : a.eval x = .pointer (some ⟨g, 0, none⟩)) (hy : a.eval y = .agg #[.int .i64 c, .int .i64 v, .int .i64 s, .int .i64 m]) (hr : Row w g old T) (hold : old.size = 4)
    (h : ∀ w', Row w' g #[.int .i64 c, .int .i64 v, .int .i64 s, .int .i64 m] T → Onto g w w' → w'.heap.size = w.heap.size → wpList Try.prog ops Q rest (a.put o.dst undef) w') : wpList Try.prog ops Q (o :: rest) a w :=
  st_row hgd _ x y ho hx hy hr info_tm hold (by simp [Value.oneCell']) h
theorem ld_tm (hgd : o.guard = none) (ho : o.op = .load 31 x) (hx : a.eval x = .pointer (some ⟨g, 0, none⟩)) (hr : Row w g #[.int .i64 c, .int .i64 v, .int .i64 s, .int .i64 m] T)
    (h : wpList Try.prog ops Q rest (a.put o.dst (.agg #[.int .i64 c, .int .i64 v, .int .i64 s, .int .i64 m])) w) : wpList Try.prog ops Q (o :: rest) a w :=
  ld_row hgd _ x ho hx hr und_tm rfl info_tm h
end
theorem Tm.after_no {t : Tm} {n : Int} (h : t.may n = false) : t.after n = (Tm.nul, 0) := by simp [Tm.after, h]
theorem Tm.may_false {t : Tm} {n : Int} (h : t.may n = false) (h1 : t.ok = true) (h2 : inn n 0 100000 = true) : 1000000000 < t.c + n := by
  simp only [Tm.may, h1, h2, Bool.true_and, decide_eq_false_iff_not] at h; omega

theorem Tm.may_true {t : Tm} {n : Int} (h : t.may n = true) : t.ok = true ∧ (0 ≤ n ∧ n ≤ 100000) ∧ t.c + n ≤ 1000000000 := by
  simp only [Tm.may, Bool.and_eq_true, decide_eq_true_eq] at h
  exact ⟨h.1.1, inn_true h.1.2, h.2⟩
theorem rate_sign (m : Int) : rate m = 0 ∨ 0 < rate m := by rcases rate_some m with h | h | h | h | h <;> omega
end Go.Proofs.Ytocofjimkfffeaa.Tmr
