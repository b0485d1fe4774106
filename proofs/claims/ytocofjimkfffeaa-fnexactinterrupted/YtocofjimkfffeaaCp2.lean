/-
  What FnExecuted asks of the processor: where there is no such code there is no name, and none elsewhere; what is answered then, and where a machine is idle.
-/
import Derived.Test.YtocofjimkfffeaaCp
namespace Go.Proofs.Ytocofjimkfffeaa.Mem
open Go.ChangeShapes Go.WideShapes Go.RowKit Base Num Slc Rw Tmr Srl Rom RomOf Opl
set_option linter.unusedVariables false

theorem name_in (k : Nat) (hk : k < 31) : (line (k : Int)).1 ≠ [] := by
  rw [line_eq k hk]
  have : ∀ i : Fin 31, (ops.getD i.val ([], 0, 0)).1 ≠ [] := by decide +kernel
  exact this ⟨k, hk⟩
/-- There is no name just where there is no size. -/
theorem name_size (c : Int) : (line c).1 = [] ↔ (line c).2.1 = 0 := by
  by_cases h : 0 ≤ c ∧ c < 31
  · obtain ⟨k, rfl⟩ : ∃ k : Nat, c = (k : Int) := ⟨c.toNat, by omega⟩
    have h1 := name_in k (by omega)
    have h2 := size_in k (by omega)
    constructor
    · intro e; exact absurd e h1
    · intro e; omega
  · rw [size_no c h]; simp
theorem exec_idle {m : Mc} (h : (m.h || m.s) = true) : m.exec = (m, 1, -1) := by unfold Mc.exec; rw [if_pos h]
theorem exec_none {m : Mc} (h : (m.h || m.s) = false) (hn : (line m.code).1 = []) : m.exec = ({ m with s := true }, 1, -1) := by
  unfold Mc.exec
  rw [if_neg (by rw [h]; decide), if_pos (show m.size' = 0 from (name_size m.code).1 hn)]
theorem exec_cost {m : Mc} (h : (m.h || m.s) = false) (hn : (line m.code).1 ≠ []) : m.exec.2.1 = (line m.code).2.2 := by
  unfold Mc.exec
  rw [if_neg (by rw [h]; decide), if_neg (show ¬ m.size' = 0 from fun e => hn ((name_size m.code).2 e))]
end Go.Proofs.Ytocofjimkfffeaa.Mem
