/-
  What the functions of chapter 3 answer, the program's and the document's model's.
-/
import Derived.Test.YtmbncgeiaijnpaaGreatDoorOp
namespace Go.Proofs.YtmbncgeiaijnpaaGreatDoor.Opl
open Go.ChangeShapes Go.WideShapes Go.RowKit Base
set_option linter.unusedVariables false

theorem und_l3 : Tryz.prog.underlying 118 = some (.struct #[{ name := "name", type := 9, offset := 0, embedded := false, tag := "", pkgPath := "loop.example/g00741/spec", byteOffset := 0 }, { name := "size", type := 2, offset := 1, embedded := false, tag := "", pkgPath := "loop.example/g00741/spec", byteOffset := 16 }, { name := "cost", type := 2, offset := 2, embedded := false, tag := "", pkgPath := "loop.example/g00741/spec", byteOffset := 24 }]) := by kernel_rfl

theorem in_any (n lo hi : Int) (w : World) :
    Calls Tryz.prog 36 #[.int .i64 n, .int .i64 lo, .int .i64 hi] w fun e w' => e = .returned (.bool (decide (lo ≤ n) && decide (n ≤ hi))) ∧ w' = w := by
  by_cases h0 : lo ≤ n
  · go_enter Tryz.func36, Tryz.ntmps36
    go_wp2
    go_ret
    exact ⟨ret_bool (by simp [h0]), rfl⟩
  · go_enter Tryz.func36, Tryz.ntmps36
    go_wp2
    go_ret
    exact ⟨ret_bool (by simp; omega), rfl⟩

theorem rows3 (k : Nat) (hk : k < 31) : (rows ops)[k * 3]? = some (.string ⟨(line k).1.toArray⟩) ∧ (rows ops)[k * 3 + 1]? = some (.int .i64 (line k).2.1) ∧ (rows ops)[k * 3 + 2]? = some (.int .i64 (line k).2.2) := by
  rw [line_eq k hk]
  exact ⟨rows_at ops k 0 hk (by omega), rows_at ops k 1 hk (by omega), rows_at ops k 2 hk (by omega)⟩
theorem l3Of_any (k : Int) (w : World) :
    Calls Tryz.prog 136 #[.int .i64 k] w fun e w' => e = .returned (agg3 (line k)) ∧ Below w.heap.size w w' := by
  by_cases hk : 0 ≤ k ∧ k < 31
  · obtain ⟨k, rfl⟩ := Int.eq_ofNat_of_zero_le hk.1
    have hk : k < 31 := by omega
    have h0 : (decide ((0 : Int) ≤ (k : Int)) && decide ((k : Int) ≤ 30)) = true := by simp; omega
    have ha : agg3 (line k) = .agg #[.string ⟨(line k).1.toArray⟩, .int .i64 (line k).2.1, .int .i64 (line k).2.2] := rfl
    rw [ha]
    obtain ⟨c0, c1, c2⟩ := rows3 k hk
    go_enter Tryz.func136, Tryz.ntmps136
    go_wp2_with (first
      | (go_at_call 146; refine (l3Table_any _).mono ?_; rintro e w1 ⟨rfl, rfl⟩)
      | (go_at_call 36; refine (in_any _ _ _ _).mono ?_; rw [h0]; rintro e w2 ⟨rfl, rfl⟩))
    (try simp only [Exit.inBlock, Exit.then]); refine bodyPost_ret (results_cell_row rfl _ _ w.heap.size _ _ _ _ rfl (heap_alloc2_old _ _ _) und_l3 rfl (by kernel_rfl)) rfl ?_
    exact ⟨rfl, ((Below.refl _ _).alloc (Nat.le_refl _) _).alloc (by simp) _⟩
  · rw [line_no k hk]
    have h0 : (decide ((0 : Int) ≤ k) && decide (k ≤ 30)) = false := by simp; omega
    go_enter Tryz.func136, Tryz.ntmps136
    go_wp2_with (first
      | (go_at_call 146; refine (l3Table_any _).mono ?_; rintro e w1 ⟨rfl, rfl⟩)
      | (go_at_call 36; refine (in_any _ _ _ _).mono ?_; rw [h0]; rintro e w2 ⟨rfl, rfl⟩))
    (try simp only [Exit.inBlock, Exit.then]); refine bodyPost_ret (results_cell_row rfl _ _ w.heap.size _ _ _ _ rfl (heap_alloc2_old _ _ _) und_l3 rfl (by kernel_rfl)) rfl ?_
    exact ⟨rfl, ((Below.refl _ _).alloc (Nat.le_refl _) _).alloc (by simp) _⟩
theorem field_i0 (a b c : Value) (w : World) : (Instr.field 68 (.agg #[a, b, c]) 0).run Tryz.prog w = .ok a w := by kernel_rfl
theorem field_i1 (a b c : Value) (w : World) : (Instr.field 68 (.agg #[a, b, c]) 1).run Tryz.prog w = .ok b w := by kernel_rfl
theorem field_i2 (a b c : Value) (w : World) : (Instr.field 68 (.agg #[a, b, c]) 2).run Tryz.prog w = .ok c w := by kernel_rfl
theorem field_s0 (a b c : Value) (w : World) : (Instr.field 118 (.agg #[a, b, c]) 0).run Tryz.prog w = .ok a w := by kernel_rfl
theorem field_s1 (a b c : Value) (w : World) : (Instr.field 118 (.agg #[a, b, c]) 1).run Tryz.prog w = .ok b w := by kernel_rfl
theorem field_s2 (a b c : Value) (w : World) : (Instr.field 118 (.agg #[a, b, c]) 2).run Tryz.prog w = .ok c w := by kernel_rfl
theorem lineOf_any (k : Int) (w : World) (ho : OpsAt w) :
    Calls Tryz.prog 40 #[.int .i64 k] w fun e w' => e = .returned (agg3 (line k)) ∧ Below w.heap.size w w' := by
  by_cases hk : 0 ≤ k ∧ k < 31
  · obtain ⟨k, rfl⟩ := Int.eq_ofNat_of_zero_le hk.1
    exact lineOf_yes k w (by omega) ho
  · exact lineOf_no k w hk
theorem sizeOf_impl (k : Int) (w : World) (ho : OpsAt w) :
    Calls Tryz.prog 27 #[.int .i64 k] w fun e w' => e = .returned (.int .i64 (line k).2.1) ∧ Below w.heap.size w w' := by
  have hf := field_i1
  go_enter Tryz.func27, Tryz.ntmps27
  go_wp2_with (go_at_call 40; refine (lineOf_any _ _ ho).mono ?_; rintro e w1 ⟨he, hb⟩; simp only [agg3, cells3] at he; subst he)
  go_ret
  exact ⟨rfl, hb⟩
theorem costOf_impl (k : Int) (w : World) (ho : OpsAt w) :
    Calls Tryz.prog 13 #[.int .i64 k] w fun e w' => e = .returned (.int .i64 (line k).2.2) ∧ Below w.heap.size w w' := by
  have hf := field_i2
  go_enter Tryz.func13, Tryz.ntmps13
  go_wp2_with (go_at_call 40; refine (lineOf_any _ _ ho).mono ?_; rintro e w1 ⟨he, hb⟩; simp only [agg3, cells3] at he; subst he)
  go_ret
  exact ⟨rfl, hb⟩
theorem nameOf_impl (k : Int) (w : World) (ho : OpsAt w) :
    Calls Tryz.prog 12 #[.int .i64 k] w fun e w' => e = .returned (.string ⟨(line k).1.toArray⟩) ∧ Below w.heap.size w w' := by
  have hf := field_i0
  go_enter Tryz.func12, Tryz.ntmps12
  go_wp2_with (go_at_call 40; refine (lineOf_any _ _ ho).mono ?_; rintro e w1 ⟨he, hb⟩; simp only [agg3, cells3] at he; subst he)
  go_ret
  exact ⟨rfl, hb⟩
theorem sizeOf_spec (k : Int) (w : World) :
    Calls Tryz.prog 107 #[.int .i64 k] w fun e w' => e = .returned (.int .i64 (line k).2.1) ∧ Below w.heap.size w w' := by
  have hf := field_s1
  go_enter Tryz.func107, Tryz.ntmps107
  go_wp2_with (go_at_call 136; refine (l3Of_any _ _).mono ?_; rintro e w1 ⟨he, hb⟩; simp only [agg3, cells3] at he; subst he)
  go_ret
  exact ⟨rfl, hb⟩
theorem costOf_spec (k : Int) (w : World) :
    Calls Tryz.prog 109 #[.int .i64 k] w fun e w' => e = .returned (.int .i64 (line k).2.2) ∧ Below w.heap.size w w' := by
  have hf := field_s2
  go_enter Tryz.func109, Tryz.ntmps109
  go_wp2_with (go_at_call 136; refine (l3Of_any _ _).mono ?_; rintro e w1 ⟨he, hb⟩; simp only [agg3, cells3] at he; subst he)
  go_ret
  exact ⟨rfl, hb⟩
/-- The name of a line. -/
def nm (i : Nat) : List UInt8 := (line i).1
/-- What CodeOf answers: the first line of that name, or -1. -/
def CodeIs (s : List UInt8) (r : Int) : Prop := (∃ i : Nat, i < 31 ∧ nm i = s ∧ (∀ j, j < i → nm j ≠ s) ∧ r = i) ∨ (r = -1 ∧ ∀ j, j < 31 → nm j ≠ s)
theorem CodeIs.one {s : List UInt8} {r r' : Int} (h : CodeIs s r) (h' : CodeIs s r') : r = r' := by
  rcases h with ⟨i, hi, hn, hj, rfl⟩ | ⟨rfl, hj⟩ <;> rcases h' with ⟨i', hi', hn', hj', rfl⟩ | ⟨rfl, hj'⟩
  · rcases Nat.lt_trichotomy i i' with h | h | h
    · exact absurd hn (hj' i h)
    · rw [h]
    · exact absurd hn' (hj i' h)
  · exact absurd hn (hj' i hi)
  · exact absurd hn' (hj i' hi')
  · rfl
theorem nm_one : ∀ i : Fin 31, ∀ j : Fin 31, nm i.val = nm j.val → i.val = j.val := by decide +kernel
theorem codeIs_nm (k : Nat) (hk : k < 31) {r : Int} (h : CodeIs (nm k) r) : r = k :=
  h.one (.inl ⟨k, hk, rfl, fun j hj e => by have := nm_one ⟨j, by omega⟩ ⟨k, hk⟩ e; simp at this; omega, rfl⟩)
theorem next_nm {s : List UInt8} {k : Nat} (h : ∀ j, j < k → nm j ≠ s) (he : ((line k).1 == s) = false) : ∀ j, j < k + 1 → nm j ≠ s := by
  intro j hj e
  rcases Nat.lt_succ_iff_lt_or_eq.1 hj with hl | rfl
  · exact h j hl e
  · simp [nm] at e; simp [e] at he
theorem l3Table_tab (w : World) :
    Calls Tryz.prog 146 #[] w fun e w' => e = .returned (.slice (some ⟨w.heap.size, 0, none⟩) 31 31) ∧ w'.heap[w.heap.size]? = some (.cells (rows ops).toArray 118 (0, 0)) ∧ Below w.heap.size w w' := by
  refine (l3Table_any w).mono ?_
  rintro e w' ⟨rfl, rfl⟩
  exact ⟨rfl, heap_alloc_new _ _, (Below.refl _ _).alloc (Nat.le_refl _) _⟩
theorem und_tab : Tryz.prog.underlying 96 = some (.array 31 68) := by kernel_rfl
theorem info_tab : (Tryz.prog.info? 96).map (·.size) = some (rows ops).toArray.size := by kernel_rfl
theorem index_tab (k : Nat) (hk : k < 31) (w : World) : (Instr.index 96 (.agg (rows ops).toArray) (.int .i64 (k : Int))).run Tryz.prog w = .ok (.agg #[.string ⟨(line k).1.toArray⟩, .int .i64 (line k).2.1, .int .i64 (line k).2.2]) w := by
  have h : ∀ k : Fin 31, (Instr.index 96 (.agg (rows ops).toArray) (.int .i64 (k.val : Int))).run Tryz.prog w = .ok (.agg #[.string ⟨(line k.val).1.toArray⟩, .int .i64 (line k.val).2.1, .int .i64 (line k.val).2.2]) w := by
    intro k
    rcases k with ⟨k, hk⟩
    iterate 31 (rcases k with _ | k; · kernel_rfl)
    omega
  exact h ⟨k, hk⟩
end Go.Proofs.YtmbncgeiaijnpaaGreatDoor.Opl
