/-
  The laws' own helpers over lists of messages: marks that are set and found again.
-/
import Derived.Test.YtggfjghcgacdnaaMsgLaw
namespace Go.Proofs.Ytggfjghcgacdnaa.Mem
open Go.ChangeShapes Go.WideShapes Go.RowKit Base Num Slc Slf Rw Tmr Reg Ex
set_option linter.unusedVariables false
set_option linter.unusedSimpArgs false
set_option maxRecDepth 20000

/-- Marks: three a message, one after another, from k on. -/
def marks3 (k : Nat) : Nat → List M3
  | 0 => []
  | n + 1 => ⟨(k : Int), ((k + 1 : Nat) : Int), ((k + 2 : Nat) : Int)⟩ :: marks3 (k + 3) n
theorem marks3_length (k n : Nat) : (marks3 k n).length = n := by
  induction n generalizing k with
  | zero => rfl
  | succ n ih => simp [marks3, ih]
theorem marks3_snoc (k n : Nat) : marks3 k (n + 1) = marks3 k n ++ [⟨((k + 3 * n : Nat) : Int), ((k + 3 * n + 1 : Nat) : Int), ((k + 3 * n + 2 : Nat) : Int)⟩] := by
  induction n generalizing k with
  | zero => simp [marks3]
  | succ n ih =>
    have := ih (k + 3)
    rw [marks3, this, marks3]
    simp
    omega
theorem marks3_at (k n j : Nat) (h : j < n) : M3.at' (marks3 k n) j = ⟨((k + 3 * j : Nat) : Int), ((k + 3 * j + 1 : Nat) : Int), ((k + 3 * j + 2 : Nat) : Int)⟩ := by
  unfold M3.at'
  induction n generalizing k j with
  | zero => omega
  | succ n ih =>
    cases j with
    | zero => simp [marks3]
    | succ j =>
      have := ih (k + 3) j (by omega)
      simp only [marks3, List.getD_cons_succ, this]
      simp
      omega
theorem mark3_step (k : Nat) (l : List M3) (j : Nat) (h : j < l.length) : (marks3 k j ++ l.drop j).set j ⟨((k + 3 * j : Nat) : Int), ((k + 3 * j + 1 : Nat) : Int), ((k + 3 * j + 2 : Nat) : Int)⟩ = marks3 k (j + 1) ++ l.drop (j + 1) := by
  rw [marks3_snoc, List.set_append_right _ _ (by rw [marks3_length]; omega), marks3_length, Nat.sub_self, List.drop_eq_getElem_cons h, List.set_cons_zero]
  simp
theorem at_set {l : List M3} {i : Nat} {e : M3} (h : i < l.length) : (l.set i e)[i]? = some e := by simp [h]
end Go.Proofs.Ytggfjghcgacdnaa.Mem
