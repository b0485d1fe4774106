/-
  The table of operations as a list; what the program's and the document's model's functions of chapter 3 answer. What the functions of chapter 3 answer, the program's and the document's model's.
-/
import Derived.Test.YtocofjimkfffeaaGreatDoorSlc
import Derived.Deep.QuietTactic
import Derived.BigQuiet
namespace Go.Proofs.YtocofjimkfffeaaGreatDoor.Opl
open Go.ChangeShapes Go.WideShapes Go.RowKit Base
set_option linter.unusedVariables false

/-- The lines of the table: name, size, cost. -/
def ops : List (List UInt8 × Int × Int) := [([110, 111, 112], 1, 1), ([108, 100, 97], 2, 2), ([108, 100, 98], 2, 2), ([109, 97, 98], 1, 1), ([109, 98, 97], 1, 1), ([103, 101, 116], 2, 3), ([112, 117, 116], 2, 3), ([103, 105, 98], 1, 2), ([112, 105, 98], 1, 2), ([97, 100, 100], 2, 2), ([97, 100, 98], 1, 1), ([115, 117, 98], 2, 2), ([99, 109, 112], 2, 2), ([97, 110, 100], 2, 2), ([120, 111, 114], 2, 2), ([114, 111, 108], 1, 1), ([114, 111, 114], 1, 1), ([105, 110, 98], 1, 1), ([100, 101, 98], 1, 1), ([106, 109, 112], 2, 3), ([106, 112, 122], 2, 3), ([106, 110, 122], 2, 3), ([106, 112, 99], 2, 3), ([99, 97, 108], 2, 4), ([114, 101, 116], 1, 4), ([112, 115, 104], 1, 3), ([112, 111, 112], 1, 3), ([101, 110, 105], 1, 1), ([100, 105, 115], 1, 1), ([114, 116, 105], 1, 4), ([104, 108, 116], 1, 1)]
/-- A line as three cells. -/
def cells3 (x : List UInt8 × Int × Int) : List Value := [.string ⟨x.1.toArray⟩, .int .i64 x.2.1, .int .i64 x.2.2]
def rows (l : List (List UInt8 × Int × Int)) : List Value := l.flatMap cells3
/-- The line of a code; the zero line where there is none. -/
def line (k : Int) : List UInt8 × Int × Int := if 0 ≤ k ∧ k < 31 then ops.getD k.toNat ([], 0, 0) else ([], 0, 0)
def agg3 (x : List UInt8 × Int × Int) : Value := .agg (cells3 x).toArray

/-- The program's own table stands in its variable's block. -/
def OpsAt (w : World) : Prop := ∃ t fz, w.heap[0]? = some (.cells (rows ops).toArray t fz)

theorem rows_at : ∀ (l : List (List UInt8 × Int × Int)) (i j : Nat), i < l.length → j < 3 → (rows l)[i * 3 + j]? = (cells3 (l.getD i ([], 0, 0)))[j]?
  | [], i, j, hi, _ => by simp at hi
  | x :: l, 0, j, _, hj => by
    rcases j with _ | _ | _ | j
    · rfl
    · rfl
    · rfl
    · omega
  | x :: l, i + 1, j, hi, hj => by
    have ih := rows_at l i j (by simpa using hi) hj
    have e : (i + 1) * 3 + j = (cells3 x).length + (i * 3 + j) := by simp [cells3]; omega
    rw [e, rows, List.flatMap_cons, List.getElem?_append_right (by omega)]
    simpa [rows] using ih
theorem line_eq (k : Nat) (hk : k < 31) : line (k : Int) = ops.getD k ([], 0, 0) := by
  unfold line
  rw [if_pos (by omega)]
  simp
/-- The cells of a line, wherever the table lies. -/
theorem tab_at {w : World} {b : Nat} {t : TypeId} {fz : Nat × Nat} (h : w.heap[b]? = some (.cells (rows ops).toArray t fz)) (k : Nat) (hk : k < 31) :
    w.cell? ⟨b, k * 3, none⟩ = some (.string ⟨(line k).1.toArray⟩) ∧ w.cell? ⟨b, k * 3 + 1, none⟩ = some (.int .i64 (line k).2.1) ∧ w.cell? ⟨b, k * 3 + 2, none⟩ = some (.int .i64 (line k).2.2) := by
  have c : ∀ j, j < 3 → w.cell? ⟨b, k * 3 + j, none⟩ = (cells3 (line k))[j]? := fun j hj => by
    rw [cell_of_row w b (k * 3 + j) _ t fz h, line_eq k hk, ← rows_at ops k j hk hj]
    simp
  exact ⟨c 0 (by omega), c 1 (by omega), c 2 (by omega)⟩

theorem line_no (k : Int) (hk : ¬ (0 ≤ k ∧ k < 31)) : agg3 (line k) = .agg #[.string ⟨#[]⟩, .int .i64 0, .int .i64 0] := by
  unfold line
  rw [if_neg hk]
  rfl
theorem OpsAt.below {w w' : World} (h : OpsAt w) (hb : Below w.heap.size w w') : OpsAt w' := by
  obtain ⟨t, fz, h⟩ := h
  exact ⟨t, fz, by rw [hb.block 0 (by
    by_cases h0 : 0 < w.heap.size
    · exact h0
    · simp at h0; simp [h0] at h)]; exact h⟩
theorem OpsAt.lt {w : World} (h : OpsAt w) : 0 < w.heap.size := by
  obtain ⟨t, fz, h⟩ := h
  by_cases h0 : 0 < w.heap.size
  · exact h0
  · simp at h0; simp [h0] at h
theorem und_line : Tryz.prog.underlying 71 = some (.struct #[{ name := "name", type := 9, offset := 0, embedded := false, tag := "", pkgPath := "loop.example/g00741/impl", byteOffset := 0 }, { name := "size", type := 2, offset := 1, embedded := false, tag := "", pkgPath := "loop.example/g00741/impl", byteOffset := 16 }, { name := "cost", type := 2, offset := 2, embedded := false, tag := "", pkgPath := "loop.example/g00741/impl", byteOffset := 24 }]) := by kernel_rfl

theorem lineOf_no (k : Int) (w : World) (hk : ¬ (0 ≤ k ∧ k < 31)) :
    Calls Tryz.prog 45 #[.int .i64 k] w fun e w' => e = .returned (agg3 (line k)) ∧ Below w.heap.size w w' := by
  rw [line_no k hk]
  by_cases h0 : k < 0
  · go_enter Tryz.func45, Tryz.ntmps45
    go_wp2
    (try simp only [Exit.inBlock, Exit.then]); refine bodyPost_ret (results_cell_row rfl _ _ w.heap.size _ _ _ _ rfl (heap_alloc_new _ _) und_line rfl (by kernel_rfl)) rfl ?_
    exact ⟨rfl, (Below.refl _ _).alloc (Nat.le_refl _) _⟩
  · have h1 : 31 ≤ k := by omega
    go_enter Tryz.func45, Tryz.ntmps45
    go_wp2
    (try simp only [Exit.inBlock, Exit.then]); refine bodyPost_ret (results_cell_row rfl _ _ w.heap.size _ _ _ _ rfl (heap_alloc_new _ _) und_line rfl (by kernel_rfl)) rfl ?_
    exact ⟨rfl, (Below.refl _ _).alloc (Nat.le_refl _) _⟩
theorem lineOf_yes (k : Nat) (w : World) (hk : k < 31) (ho : OpsAt w) :
    Calls Tryz.prog 45 #[.int .i64 k] w fun e w' => e = .returned (agg3 (line k)) ∧ Below w.heap.size w w' := by
  have h0 : ¬ (k : Int) < 0 := by omega
  have h1 : ¬ 31 ≤ (k : Int) := by omega
  have hl := ho.lt
  obtain ⟨t, fz, hh⟩ := ho
  obtain ⟨c0, c1, c2⟩ := tab_at hh k hk
  clear hh
  have ha : agg3 (line k) = .agg #[.string ⟨(line k).1.toArray⟩, .int .i64 (line k).2.1, .int .i64 (line k).2.2] := rfl
  rw [ha]
  generalize line k = L at *
  go_enter Tryz.func45, Tryz.ntmps45
  go_wp2
  (try simp only [Exit.inBlock, Exit.then]); refine bodyPost_ret (results_cell_row rfl _ _ w.heap.size _ _ _ _ rfl (heap_alloc_new _ _) und_line rfl (by kernel_rfl)) rfl ?_
  exact ⟨rfl, (Below.refl _ _).alloc (Nat.le_refl _) _⟩
set_option maxHeartbeats 4000000 in
set_option maxRecDepth 100000 in
theorem l3Table_any (w : World) :
    Calls Tryz.prog 147 #[] w fun e w' => e = .returned (.slice (some ⟨w.heap.size, 0, none⟩) 31 31) ∧ w' = w.alloc (.cells (rows ops).toArray 116) := by
  go_enter Tryz.func147, Tryz.ntmps147
  go_wp2
  go_ret
  exact ⟨rfl, rfl⟩
end Go.Proofs.YtocofjimkfffeaaGreatDoor.Opl
namespace Go.Proofs.YtocofjimkfffeaaGreatDoor.Opl
open Go.ChangeShapes Go.WideShapes Go.RowKit Base
set_option linter.unusedVariables false

theorem und_l3 : Tryz.prog.underlying 116 = some (.struct #[{ name := "name", type := 9, offset := 0, embedded := false, tag := "", pkgPath := "loop.example/g00741/spec", byteOffset := 0 }, { name := "size", type := 2, offset := 1, embedded := false, tag := "", pkgPath := "loop.example/g00741/spec", byteOffset := 16 }, { name := "cost", type := 2, offset := 2, embedded := false, tag := "", pkgPath := "loop.example/g00741/spec", byteOffset := 24 }]) := by kernel_rfl

theorem in_any (n lo hi : Int) (w : World) :
    Calls Tryz.prog 41 #[.int .i64 n, .int .i64 lo, .int .i64 hi] w fun e w' => e = .returned (.bool (decide (lo ≤ n) && decide (n ≤ hi))) ∧ w' = w := by
  by_cases h0 : lo ≤ n
  · go_enter Tryz.func41, Tryz.ntmps41
    go_wp2
    go_ret
    exact ⟨ret_bool (by simp [h0]), rfl⟩
  · go_enter Tryz.func41, Tryz.ntmps41
    go_wp2
    go_ret
    exact ⟨ret_bool (by simp; omega), rfl⟩

theorem rows3 (k : Nat) (hk : k < 31) : (rows ops)[k * 3]? = some (.string ⟨(line k).1.toArray⟩) ∧ (rows ops)[k * 3 + 1]? = some (.int .i64 (line k).2.1) ∧ (rows ops)[k * 3 + 2]? = some (.int .i64 (line k).2.2) := by
  rw [line_eq k hk]
  exact ⟨rows_at ops k 0 hk (by omega), rows_at ops k 1 hk (by omega), rows_at ops k 2 hk (by omega)⟩
theorem l3Of_any (k : Int) (w : World) :
    Calls Tryz.prog 138 #[.int .i64 k] w fun e w' => e = .returned (agg3 (line k)) ∧ Below w.heap.size w w' := by
  by_cases hk : 0 ≤ k ∧ k < 31
  · obtain ⟨k, rfl⟩ := Int.eq_ofNat_of_zero_le hk.1
    have hk : k < 31 := by omega
    have h0 : (decide ((0 : Int) ≤ (k : Int)) && decide ((k : Int) ≤ 30)) = true := by simp; omega
    have ha : agg3 (line k) = .agg #[.string ⟨(line k).1.toArray⟩, .int .i64 (line k).2.1, .int .i64 (line k).2.2] := rfl
    rw [ha]
    obtain ⟨c0, c1, c2⟩ := rows3 k hk
    go_enter Tryz.func138, Tryz.ntmps138
    go_wp2_with (first
      | (go_at_call 147; refine (l3Table_any _).mono ?_; rintro e w1 ⟨rfl, rfl⟩)
      | (go_at_call 41; refine (in_any _ _ _ _).mono ?_; rw [h0]; rintro e w2 ⟨rfl, rfl⟩))
    (try simp only [Exit.inBlock, Exit.then]); refine bodyPost_ret (results_cell_row rfl _ _ w.heap.size _ _ _ _ rfl (heap_alloc2_old _ _ _) und_l3 rfl (by kernel_rfl)) rfl ?_
    exact ⟨rfl, ((Below.refl _ _).alloc (Nat.le_refl _) _).alloc (by simp) _⟩
  · rw [line_no k hk]
    have h0 : (decide ((0 : Int) ≤ k) && decide (k ≤ 30)) = false := by simp; omega
    go_enter Tryz.func138, Tryz.ntmps138
    go_wp2_with (first
      | (go_at_call 147; refine (l3Table_any _).mono ?_; rintro e w1 ⟨rfl, rfl⟩)
      | (go_at_call 41; refine (in_any _ _ _ _).mono ?_; rw [h0]; rintro e w2 ⟨rfl, rfl⟩))
    (try simp only [Exit.inBlock, Exit.then]); refine bodyPost_ret (results_cell_row rfl _ _ w.heap.size _ _ _ _ rfl (heap_alloc2_old _ _ _) und_l3 rfl (by kernel_rfl)) rfl ?_
    exact ⟨rfl, ((Below.refl _ _).alloc (Nat.le_refl _) _).alloc (by simp) _⟩
theorem field_i0 (a b c : Value) (w : World) : (Instr.field 71 (.agg #[a, b, c]) 0).run Tryz.prog w = .ok a w := by kernel_rfl
theorem field_i1 (a b c : Value) (w : World) : (Instr.field 71 (.agg #[a, b, c]) 1).run Tryz.prog w = .ok b w := by kernel_rfl
theorem field_i2 (a b c : Value) (w : World) : (Instr.field 71 (.agg #[a, b, c]) 2).run Tryz.prog w = .ok c w := by kernel_rfl
theorem field_s0 (a b c : Value) (w : World) : (Instr.field 116 (.agg #[a, b, c]) 0).run Tryz.prog w = .ok a w := by kernel_rfl
theorem field_s1 (a b c : Value) (w : World) : (Instr.field 116 (.agg #[a, b, c]) 1).run Tryz.prog w = .ok b w := by kernel_rfl
theorem field_s2 (a b c : Value) (w : World) : (Instr.field 116 (.agg #[a, b, c]) 2).run Tryz.prog w = .ok c w := by kernel_rfl
theorem lineOf_any (k : Int) (w : World) (ho : OpsAt w) :
    Calls Tryz.prog 45 #[.int .i64 k] w fun e w' => e = .returned (agg3 (line k)) ∧ Below w.heap.size w w' := by
  by_cases hk : 0 ≤ k ∧ k < 31
  · obtain ⟨k, rfl⟩ := Int.eq_ofNat_of_zero_le hk.1
    exact lineOf_yes k w (by omega) ho
  · exact lineOf_no k w hk
theorem sizeOf_impl (k : Int) (w : World) (ho : OpsAt w) :
    Calls Tryz.prog 32 #[.int .i64 k] w fun e w' => e = .returned (.int .i64 (line k).2.1) ∧ Below w.heap.size w w' := by
  have hf := field_i1
  go_enter Tryz.func32, Tryz.ntmps32
  go_wp2_with (go_at_call 45; refine (lineOf_any _ _ ho).mono ?_; rintro e w1 ⟨he, hb⟩; simp only [agg3, cells3] at he; subst he)
  go_ret
  exact ⟨rfl, hb⟩
theorem costOf_impl (k : Int) (w : World) (ho : OpsAt w) :
    Calls Tryz.prog 13 #[.int .i64 k] w fun e w' => e = .returned (.int .i64 (line k).2.2) ∧ Below w.heap.size w w' := by
  have hf := field_i2
  go_enter Tryz.func13, Tryz.ntmps13
  go_wp2_with (go_at_call 45; refine (lineOf_any _ _ ho).mono ?_; rintro e w1 ⟨he, hb⟩; simp only [agg3, cells3] at he; subst he)
  go_ret
  exact ⟨rfl, hb⟩
theorem nameOf_impl (k : Int) (w : World) (ho : OpsAt w) :
    Calls Tryz.prog 12 #[.int .i64 k] w fun e w' => e = .returned (.string ⟨(line k).1.toArray⟩) ∧ Below w.heap.size w w' := by
  have hf := field_i0
  go_enter Tryz.func12, Tryz.ntmps12
  go_wp2_with (go_at_call 45; refine (lineOf_any _ _ ho).mono ?_; rintro e w1 ⟨he, hb⟩; simp only [agg3, cells3] at he; subst he)
  go_ret
  exact ⟨rfl, hb⟩
theorem sizeOf_spec (k : Int) (w : World) :
    Calls Tryz.prog 109 #[.int .i64 k] w fun e w' => e = .returned (.int .i64 (line k).2.1) ∧ Below w.heap.size w w' := by
  have hf := field_s1
  go_enter Tryz.func109, Tryz.ntmps109
  go_wp2_with (go_at_call 138; refine (l3Of_any _ _).mono ?_; rintro e w1 ⟨he, hb⟩; simp only [agg3, cells3] at he; subst he)
  go_ret
  exact ⟨rfl, hb⟩
theorem costOf_spec (k : Int) (w : World) :
    Calls Tryz.prog 111 #[.int .i64 k] w fun e w' => e = .returned (.int .i64 (line k).2.2) ∧ Below w.heap.size w w' := by
  have hf := field_s2
  go_enter Tryz.func111, Tryz.ntmps111
  go_wp2_with (go_at_call 138; refine (l3Of_any _ _).mono ?_; rintro e w1 ⟨he, hb⟩; simp only [agg3, cells3] at he; subst he)
  go_ret
  exact ⟨rfl, hb⟩
/-- The name of a line. -/
def nm (i : Nat) : List UInt8 := (line i).1
/-- What CodeOf answers: the first line of that name, or -1. -/
def CodeIs (s : List UInt8) (r : Int) : Prop := (∃ i : Nat, i < 31 ∧ nm i = s ∧ (∀ j, j < i → nm j ≠ s) ∧ r = i) ∨ (r = -1 ∧ ∀ j, j < 31 → nm j ≠ s)
theorem CodeIs.one {s : List UInt8} {r r' : Int} (h : CodeIs s r) (h' : CodeIs s r') : r = r' := by
  rcases h with ⟨i, hi, hn, hj, rfl⟩ | ⟨rfl, hj⟩ <;> rcases h' with ⟨i', hi', hn', hj', rfl⟩ | ⟨rfl, hj'⟩
  · rcases Nat.lt_trichotomy i i' with h | h | h
    · exact absurd hn (hj' i h)
    · rw [h]
    · exact absurd hn' (hj i' h)
  · exact absurd hn (hj' i hi)
  · exact absurd hn' (hj i' hi')
  · rfl
theorem nm_one : ∀ i : Fin 31, ∀ j : Fin 31, nm i.val = nm j.val → i.val = j.val := by decide +kernel
theorem codeIs_nm (k : Nat) (hk : k < 31) {r : Int} (h : CodeIs (nm k) r) : r = k :=
  h.one (.inl ⟨k, hk, rfl, fun j hj e => by have := nm_one ⟨j, by omega⟩ ⟨k, hk⟩ e; simp at this; omega, rfl⟩)
theorem next_nm {s : List UInt8} {k : Nat} (h : ∀ j, j < k → nm j ≠ s) (he : ((line k).1 == s) = false) : ∀ j, j < k + 1 → nm j ≠ s := by
  intro j hj e
  rcases Nat.lt_succ_iff_lt_or_eq.1 hj with hl | rfl
  · exact h j hl e
  · simp [nm] at e; simp [e] at he
theorem l3Table_tab (w : World) :
    Calls Tryz.prog 147 #[] w fun e w' => e = .returned (.slice (some ⟨w.heap.size, 0, none⟩) 31 31) ∧ w'.heap[w.heap.size]? = some (.cells (rows ops).toArray 116 (0, 0)) ∧ Below w.heap.size w w' := by
  refine (l3Table_any w).mono ?_
  rintro e w' ⟨rfl, rfl⟩
  exact ⟨rfl, heap_alloc_new _ _, (Below.refl _ _).alloc (Nat.le_refl _) _⟩
theorem und_tab : Tryz.prog.underlying 97 = some (.array 31 71) := by kernel_rfl
theorem info_tab : (Tryz.prog.info? 97).map (·.size) = some (rows ops).toArray.size := by kernel_rfl
theorem index_tab (k : Nat) (hk : k < 31) (w : World) : (Instr.index 97 (.agg (rows ops).toArray) (.int .i64 (k : Int))).run Tryz.prog w = .ok (.agg #[.string ⟨(line k).1.toArray⟩, .int .i64 (line k).2.1, .int .i64 (line k).2.2]) w := by
  have h : ∀ k : Fin 31, (Instr.index 97 (.agg (rows ops).toArray) (.int .i64 (k.val : Int))).run Tryz.prog w = .ok (.agg #[.string ⟨(line k.val).1.toArray⟩, .int .i64 (line k.val).2.1, .int .i64 (line k.val).2.2]) w := by
    intro k
    rcases k with ⟨k, hk⟩
    iterate 31 (rcases k with _ | k; · kernel_rfl)
    omega
  exact h ⟨k, hk⟩
end Go.Proofs.YtocofjimkfffeaaGreatDoor.Opl
