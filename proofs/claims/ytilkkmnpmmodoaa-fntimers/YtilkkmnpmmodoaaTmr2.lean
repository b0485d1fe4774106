/-
  The timer's rate, its ticks at once, and the timer after so many cycles, the program's and the document's model's.
-/
import Derived.Test.YtilkkmnpmmodoaaTmr
import Derived.Test.YtilkkmnpmmodoaaSlc
namespace Go.Proofs.Ytilkkmnpmmodoaa.Tmr
open Go.ChangeShapes Go.WideShapes Go.RowKit Base Num Slc
set_option linter.unusedVariables false

theorem rateOf_impl (m : Int) (w : World) :
    Calls Try.prog 15 #[.int .i64 m] w fun e w' => e = .returned (.int .i64 (rate m)) ∧ w' = w := by
  by_cases h4 : m = 4
  · subst h4
    go_enter Try.func15, Try.ntmps15
    go_wp2
    go_ret
    exact ⟨rfl, rfl⟩
  by_cases h5 : m = 5
  · subst h5
    go_enter Try.func15, Try.ntmps15
    go_wp2
    go_ret
    exact ⟨rfl, rfl⟩
  by_cases h6 : m = 6
  · subst h6
    go_enter Try.func15, Try.ntmps15
    go_wp2
    go_ret
    exact ⟨rfl, rfl⟩
  by_cases h7 : m = 7
  · subst h7
    go_enter Try.func15, Try.ntmps15
    go_wp2
    go_ret
    exact ⟨rfl, rfl⟩
  have e : rate m = 0 := by simp [rate, h4, h5, h6, h7]
  rw [e]
  go_enter Try.func15, Try.ntmps15
  go_wp2
  go_ret
  exact ⟨rfl, rfl⟩
theorem rateOf_spec (m : Int) (w : World) :
    Calls Try.prog 16 #[.int .i64 m] w fun e w' => e = .returned (.int .i64 (rate m)) ∧ w' = w := by
  cases h : inn m 4 7
  · have h0 := inn_false h
    have e : rate m = 0 := by unfold rate; split; omega; split; omega; split; omega; split <;> omega
    rw [e]
    go_enter Try.func16, Try.ntmps16
    go_wp2_with (go_at_call 27; refine (in_any _ _ _ _).mono ?_; rintro e w1 ⟨rfl, rfl⟩; rw [h])
    go_ret
    exact ⟨rfl, rfl⟩
  · have h0 := inn_true h
    obtain rfl | rfl | rfl | rfl : m = 4 ∨ m = 5 ∨ m = 6 ∨ m = 7 := by omega
    all_goals
      go_enter Try.func16, Try.ntmps16
      go_wp2_with (go_at_call 27; refine (in_any _ _ _ _).mono ?_; rintro e w1 ⟨rfl, rfl⟩; rw [h])
      go_ret
      exact ⟨rfl, rfl⟩
theorem quo_pos {a r : Int} (ha : 0 ≤ a) : a.tdiv r = a / r := Int.tdiv_eq_ediv_of_nonneg ha
theorem rem_pos {a r : Int} (ha : 0 ≤ a) : a.tmod r = a % r := Int.tmod_eq_emod_of_nonneg ha
theorem mults_in (c n r : Int) (hc : 0 ≤ c) (hn : 0 ≤ n) (hr : r = 0 ∨ 0 < r) : 0 ≤ mults c n r ∧ mults c n r ≤ n := by
  unfold mults
  split
  · omega
  · rename_i h
    have hr : 0 < r := by omega
    have h1 : c / r ≤ (c + n) / r := Int.ediv_le_ediv hr (by omega)
    have h2 : (c + n) / r ≤ c / r + n := by
      have h3 : (c + n) / r ≤ (c + n * r) / r := Int.ediv_le_ediv hr (by
        have : n * 1 ≤ n * r := Int.mul_le_mul_of_nonneg_left (by omega) hn
        omega)
      rwa [Int.add_mul_ediv_right _ _ (by omega)] at h3
    omega
theorem multiplesIn_impl (c n r : Int) (w : World) (hc : 0 ≤ c) (hn : 0 ≤ n) (hcn : c + n ≤ 1000000000) (hr : r = 0 ∨ 0 < r) :
    Calls Try.prog 25 #[.int .i64 c, .int .i64 n, .int .i64 r] w fun e w' => e = .returned (.int .i64 (mults c n r)) ∧ ∃ k, w' = w.drewN k := by
  by_cases h0 : r = 0
  · have e : mults c n r = 0 := by simp [mults, h0]
    rw [e]
    go_enter Try.func25, Try.ntmps25
    go_wp2
    go_ret
    exact ⟨rfl, 0, rfl⟩
  · have e : mults c n r = (c + n) / r - c / r := by simp [mults, h0]
    have hin := mults_in c n r hc hn hr
    rw [e] at hin ⊢
    have q1 := quo_pos (a := c + n) (r := r) (by omega)
    have q2 := quo_pos (a := c) (r := r) (by omega)
    have d1 : 0 ≤ (c + n) / r := Int.ediv_nonneg (by omega) (by omega)
    have d2 : (c + n) / r ≤ c + n := Int.ediv_le_self _ (by omega)
    have d3 : 0 ≤ c / r := Int.ediv_nonneg (by omega) (by omega)
    have d4 : c / r ≤ c := Int.ediv_le_self _ (by omega)
    go_enter Try.func25, Try.ntmps25
    go_wp2
    go_quiet (fail)
    go_wp2
    go_ret
    exact ⟨rfl, _, rfl⟩
theorem raised_impl (v s : Int) (k : Nat) (w : World) (hv : 0 ≤ v ∧ v ≤ 255) (hs : 0 ≤ s ∧ s ≤ 255) (hk : (k : Int) ≤ 100000) :
    Calls Try.prog 26 #[.int .i64 v, .int .i64 s, .int .i64 (k : Int)] w fun e w' => e = .returned (.tuple #[.int .i64 (ticks s k (v, 0)).1, .int .i64 (ticks s k (v, 0)).2]) ∧ ∃ k, w' = w.drewN k := by
  rw [ticks_eq s hs k v 0 hv]
  by_cases h0 : v + k - 256 < 0
  · rw [if_pos h0]
    go_enter Try.func26, Try.ntmps26
    go_wp2
    go_ret2
    exact ⟨rfl, 0, rfl⟩
  · rw [if_neg h0]
    have q1 := quo_pos (a := v + k - 256) (r := 256 - s) (by omega)
    have q2 := rem_pos (a := v + k - 256) (r := 256 - s) (by omega)
    have d1 : 0 ≤ (v + k - 256) / (256 - s) := Int.ediv_nonneg (by omega) (by omega)
    have d2 : (v + k - 256) / (256 - s) ≤ v + k - 256 := Int.ediv_le_self _ (by omega)
    have d3 : 0 ≤ (v + k - 256) % (256 - s) := Int.emod_nonneg _ (by omega)
    have d4 : (v + k - 256) % (256 - s) < 256 - s := Int.emod_lt_of_pos _ (by omega)
    have hne : ¬ (256 - s = 0) := by omega
    go_enter Try.func26, Try.ntmps26
    go_wp2
    go_quiet (fail)
    go_wp2
    go_ret2
    exact ⟨by simp, _, rfl⟩
end Go.Proofs.Ytilkkmnpmmodoaa.Tmr
