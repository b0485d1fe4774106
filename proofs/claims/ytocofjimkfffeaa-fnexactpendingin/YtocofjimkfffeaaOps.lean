/-
  What the functions of chapter 3 answer, the program's and the document's model's.
-/
import Derived.Test.YtocofjimkfffeaaOp
namespace Go.Proofs.Ytocofjimkfffeaa.Opl
open Go.ChangeShapes Go.WideShapes Go.RowKit Base
set_option linter.unusedVariables false

theorem in_any (n lo hi : Int) (w : World) :
    Calls Try.prog 34 #[.int .i64 n, .int .i64 lo, .int .i64 hi] w fun e w' => e = .returned (.bool (decide (lo ≤ n) && decide (n ≤ hi))) ∧ w' = w := by
  by_cases h0 : lo ≤ n
  · go_enter Try.func34, Try.ntmps34
    go_wp2
    go_ret
    exact ⟨ret_bool (by simp [h0]), rfl⟩
  · go_enter Try.func34, Try.ntmps34
    go_wp2
    go_ret
    exact ⟨ret_bool (by simp; omega), rfl⟩

theorem rows3 (k : Nat) (hk : k < 31) : (rows ops)[k * 3]? = some (.string ⟨(line k).1.toArray⟩) ∧ (rows ops)[k * 3 + 1]? = some (.int .i64 (line k).2.1) ∧ (rows ops)[k * 3 + 2]? = some (.int .i64 (line k).2.2) := by
  rw [line_eq k hk]
  exact ⟨rows_at ops k 0 hk (by omega), rows_at ops k 1 hk (by omega), rows_at ops k 2 hk (by omega)⟩
/-- The name of a line. -/
def nm (i : Nat) : List UInt8 := (line i).1
/-- What CodeOf answers: the first line of that name, or -1. -/
def CodeIs (s : List UInt8) (r : Int) : Prop := (∃ i : Nat, i < 31 ∧ nm i = s ∧ (∀ j, j < i → nm j ≠ s) ∧ r = i) ∨ (r = -1 ∧ ∀ j, j < 31 → nm j ≠ s)
theorem CodeIs.one {s : List UInt8} {r r' : Int} (h : CodeIs s r) (h' : CodeIs s r') : r = r' := by
  rcases h with ⟨i, hi, hn, hj, rfl⟩ | ⟨rfl, hj⟩ <;> rcases h' with ⟨i', hi', hn', hj', rfl⟩ | ⟨rfl, hj'⟩
  · rcases Nat.lt_trichotomy i i' with h | h | h
    · exact absurd hn (hj' i h)
    · rw [h]
    · exact absurd hn' (hj i' h)
  · exact absurd hn (hj' i hi)
  · exact absurd hn' (hj i' hi')
  · rfl
theorem nm_one : ∀ i : Fin 31, ∀ j : Fin 31, nm i.val = nm j.val → i.val = j.val := by decide +kernel
theorem codeIs_nm (k : Nat) (hk : k < 31) {r : Int} (h : CodeIs (nm k) r) : r = k :=
  h.one (.inl ⟨k, hk, rfl, fun j hj e => by have := nm_one ⟨j, by omega⟩ ⟨k, hk⟩ e; simp at this; omega, rfl⟩)
theorem next_nm {s : List UInt8} {k : Nat} (h : ∀ j, j < k → nm j ≠ s) (he : ((line k).1 == s) = false) : ∀ j, j < k + 1 → nm j ≠ s := by
  intro j hj e
  rcases Nat.lt_succ_iff_lt_or_eq.1 hj with hl | rfl
  · exact h j hl e
  · simp [nm] at e; simp [e] at he
end Go.Proofs.Ytocofjimkfffeaa.Opl
