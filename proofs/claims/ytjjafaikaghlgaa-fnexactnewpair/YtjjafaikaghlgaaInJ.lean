/-
  Inboxes: the program's InboxWith, and the library's own functions that it calls.
-/
import Derived.Test.YtjjafaikaghlgaaInI
import Derived.Test.YtjjafaikaghlgaaInb2
import Derived.Lib.AppendZerosOnto
namespace Go.Proofs.Ytjjafaikaghlgaa.Mem
open Go.ChangeShapes Go.WideShapes Go.RowKit Base Num Slc Slf Rw Tmr Reg
set_option linter.unusedVariables false
set_option linter.unusedSimpArgs false
set_option maxRecDepth 20000

theorem later_up {a b m : M3} (h1 : later a m = true) (h2 : later a b = false) : later b m = true := by
  revert h1 h2
  unfold later
  simp only [Bool.or_eq_true, Bool.and_eq_true, beq_iff_eq, decide_eq_true_eq, Bool.or_eq_false_iff, Bool.and_eq_false_iff, beq_eq_false_iff_ne, ne_eq, decide_eq_false_iff_not]
  omega
/-- Where it comes in, found from the beginning. -/
theorem insAt_is {l : List M3} {m : M3} {k : Nat} (hs : ∀ i, i + 1 < l.length → later (M3.at' l i) (M3.at' l (i + 1)) = false) (hk : k ≤ l.length)
    (h1 : ∀ j, j < k → later (M3.at' l j) m = false) (h2 : k < l.length → later (M3.at' l k) m = true) : insAt l m l.length = k := by
  have up : ∀ d, k + d < l.length → later (M3.at' l (k + d)) m = true := by
    intro d
    induction d with
    | zero => exact h2
    | succ d ih => intro h; exact later_up (ih (by omega)) (hs (k + d) (by omega))
  have hq := insAt_le l m l.length
  have h3 := insAt_later l m l.length
  have h4 := insAt_not l m l.length
  generalize insAt l m l.length = q at hq h3 h4 ⊢
  by_cases c : q < k
  · have := h3 q (Nat.le_refl _) (by omega)
    rw [h1 q c] at this
    cases this
  · by_cases c2 : k < q
    · have := h4 (by omega)
      have := up (q - 1 - k) (by omega)
      rw [show k + (q - 1 - k) = q - 1 by omega] at this
      simp_all
    · omega
theorem undInt : Try.prog.underlying 3 = some (.int .i64) := by kernel_rfl
theorem clone_impl (v : Value) (l : List M3) (w : World) (h : SlF fM w v l) (hl : l.length ≤ 1000000) :
    Calls Try.prog 43 #[v] w fun e w' => ∃ v', e = .returned v' ∧ OwnF fM w.heap.size w' v' l ∧ Below w.heap.size w w' := by
  have H0 := h
  have ho0 := own_litF fM okM w.heap.size w #[] [] rfl (by decide) (Nat.le_refl _)
  have hs0 := h.below ((Below.refl w.heap.size w).alloc (Nat.le_refl _) (.cells #[] 78))
  obtain ⟨a, c, rfl, -, hlc, hcm, hn⟩ := h
  cases a with
  | none =>
    have : l = [] := List.eq_nil_of_length_eq_zero (hn rfl).1
    subst this
    clear ho0 hs0 H0
    obtain rfl := (hn rfl).2
    have e0 : ∀ w, (binOp .eql 43 (.slice none 0 0) (.slice none 0 0)).run Try.prog w = .ok (.bool true) w := fun w => Lib.run_eql_slice_nil w _ _ none 0 0 0 0 okM.und
    go_enter Try.func43, Try.ntmps43
    go_wp2
    go_ret
    exact ⟨_, rfl, OwnF.nil _ _ _, Below.refl _ _⟩
  | some ad =>
    have e0 : ∀ w, (binOp .eql 43 (.slice (some ad) l.length c) (.slice none 0 0)).run Try.prog w = .ok (.bool false) w := fun w => Lib.run_eql_slice_nil w _ _ (some ad) _ _ 0 0 okM.und
    go_enter Try.func43, Try.ntmps43
    go_wp2_with (at_builtin; refine appF okM rfl (.tmp 5) (.tmp 6) rfl w.heap.size [] l ho0 hs0 (by simp; omega) (by simp) ?_; intro v1 w1 ho1 hg1)
    go_ret
    exact ⟨_, rfl, by simpa using ho1, ((Below.refl w.heap.size w).alloc (Nat.le_refl _) _).grown hg1 (by simp) (fun k hk => by have hk' : some w.heap.size = some k := hk; cases hk'; exact Nat.le_refl _)⟩
end Go.Proofs.Ytjjafaikaghlgaa.Mem
