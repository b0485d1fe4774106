/-
  Inboxes: the model's functions.
-/
import Derived.Test.YtggfjghcgacdnaaMsg
import Derived.Test.YtggfjghcgacdnaaGat
namespace Go.Proofs.Ytggfjghcgacdnaa.Mem
open Go.ChangeShapes Go.WideShapes Go.RowKit Base Num Slc Slf Rw Tmr Reg
set_option linter.unusedVariables false
set_option linter.unusedSimpArgs false
set_option maxRecDepth 20000

theorem fitsTo_succ (l : List M3) (k : Nat) : fitsTo l (k + 1) = (fitsTo l k && fits l k) := by
  simp [fitsTo, List.range_succ, List.all_append]
theorem fitsTo_no {l : List M3} {k n : Nat} (hk : k < n) (h : fits l k = false) : fitsTo l n = false := by
  simp only [fitsTo]
  rw [List.all_eq_false]
  exact ⟨k, List.mem_range.2 hk, by simp [h]⟩
theorem own_undef {α : Type} {f : Fl α} {base : Nat} {W : World} {l : List α} : ¬ OwnF f base W undef l := fun h => by
  rcases h.2 with ⟨e, _⟩ | ⟨_, _, _, e, _⟩
  · cases e
  · cases e
end Go.Proofs.Ytggfjghcgacdnaa.Mem
