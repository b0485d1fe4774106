/-
  The timer's rate, its ticks at once, and the timer after so many cycles, the program's and the document's model's.
-/
import Derived.Test.YtocofjimkfffeaaTmr
import Derived.Test.YtocofjimkfffeaaSlc
namespace Go.Proofs.Ytocofjimkfffeaa.Tmr
open Go.ChangeShapes Go.WideShapes Go.RowKit Base Num Slc
set_option linter.unusedVariables false

theorem quo_pos {a r : Int} (ha : 0 ≤ a) : a.tdiv r = a / r := Int.tdiv_eq_ediv_of_nonneg ha
theorem rem_pos {a r : Int} (ha : 0 ≤ a) : a.tmod r = a % r := Int.tmod_eq_emod_of_nonneg ha
theorem mults_in (c n r : Int) (hc : 0 ≤ c) (hn : 0 ≤ n) (hr : r = 0 ∨ 0 < r) : 0 ≤ mults c n r ∧ mults c n r ≤ n := by
  unfold mults
  split
  · omega
  · rename_i h
    have hr : 0 < r := by omega
    have h1 : c / r ≤ (c + n) / r := Int.ediv_le_ediv hr (by omega)
    have h2 : (c + n) / r ≤ c / r + n := by
      have h3 : (c + n) / r ≤ (c + n * r) / r := Int.ediv_le_ediv hr (by
        have : n * 1 ≤ n * r := Int.mul_le_mul_of_nonneg_left (by omega) hn
        omega)
      rwa [Int.add_mul_ediv_right _ _ (by omega)] at h3
    omega
end Go.Proofs.Ytocofjimkfffeaa.Tmr
