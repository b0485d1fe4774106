/-
  What the functions of chapter 3 answer, the program's and the document's model's.
-/
import Derived.Test.YtifkcojcedgepaaDoorOp
namespace Go.Proofs.YtifkcojcedgepaaDoor.Opl
open Go.ChangeShapes Go.WideShapes Go.RowKit Base
set_option linter.unusedVariables false

theorem und_l3 : Tryd.prog.underlying 42 = some (.struct #[{ name := "name", type := 9, offset := 0, embedded := false, tag := "", pkgPath := "loop.example/g00741/spec", byteOffset := 0 }, { name := "size", type := 2, offset := 1, embedded := false, tag := "", pkgPath := "loop.example/g00741/spec", byteOffset := 16 }, { name := "cost", type := 2, offset := 2, embedded := false, tag := "", pkgPath := "loop.example/g00741/spec", byteOffset := 24 }]) := by kernel_rfl

theorem in_any (n lo hi : Int) (w : World) :
    Calls Tryd.prog 29 #[.int .i64 n, .int .i64 lo, .int .i64 hi] w fun e w' => e = .returned (.bool (decide (lo ≤ n) && decide (n ≤ hi))) ∧ w' = w := by
  by_cases h0 : lo ≤ n
  · go_enter Tryd.func29, Tryd.ntmps29
    go_wp2
    go_ret
    exact ⟨ret_bool (by simp [h0]), rfl⟩
  · go_enter Tryd.func29, Tryd.ntmps29
    go_wp2
    go_ret
    exact ⟨ret_bool (by simp; omega), rfl⟩

theorem rows3 (k : Nat) (hk : k < 31) : (rows ops)[k * 3]? = some (.string ⟨(line k).1.toArray⟩) ∧ (rows ops)[k * 3 + 1]? = some (.int .i64 (line k).2.1) ∧ (rows ops)[k * 3 + 2]? = some (.int .i64 (line k).2.2) := by
  rw [line_eq k hk]
  exact ⟨rows_at ops k 0 hk (by omega), rows_at ops k 1 hk (by omega), rows_at ops k 2 hk (by omega)⟩
theorem l3Of_any (k : Int) (w : World) :
    Calls Tryd.prog 25 #[.int .i64 k] w fun e w' => e = .returned (agg3 (line k)) ∧ Below w.heap.size w w' := by
  by_cases hk : 0 ≤ k ∧ k < 31
  · obtain ⟨k, rfl⟩ := Int.eq_ofNat_of_zero_le hk.1
    have hk : k < 31 := by omega
    have h0 : (decide ((0 : Int) ≤ (k : Int)) && decide ((k : Int) ≤ 30)) = true := by simp; omega
    have ha : agg3 (line k) = .agg #[.string ⟨(line k).1.toArray⟩, .int .i64 (line k).2.1, .int .i64 (line k).2.2] := rfl
    rw [ha]
    obtain ⟨c0, c1, c2⟩ := rows3 k hk
    go_enter Tryd.func25, Tryd.ntmps25
    go_wp2_with (first
      | (go_at_call 26; refine (l3Table_any _).mono ?_; rintro e w1 ⟨rfl, rfl⟩)
      | (go_at_call 29; refine (in_any _ _ _ _).mono ?_; rw [h0]; rintro e w2 ⟨rfl, rfl⟩))
    (try simp only [Exit.inBlock, Exit.then]); refine bodyPost_ret (results_cell_row rfl _ _ w.heap.size _ _ _ _ rfl (heap_alloc2_old _ _ _) und_l3 rfl (by kernel_rfl)) rfl ?_
    exact ⟨rfl, ((Below.refl _ _).alloc (Nat.le_refl _) _).alloc (by simp) _⟩
  · rw [line_no k hk]
    have h0 : (decide ((0 : Int) ≤ k) && decide (k ≤ 30)) = false := by simp; omega
    go_enter Tryd.func25, Tryd.ntmps25
    go_wp2_with (first
      | (go_at_call 26; refine (l3Table_any _).mono ?_; rintro e w1 ⟨rfl, rfl⟩)
      | (go_at_call 29; refine (in_any _ _ _ _).mono ?_; rw [h0]; rintro e w2 ⟨rfl, rfl⟩))
    (try simp only [Exit.inBlock, Exit.then]); refine bodyPost_ret (results_cell_row rfl _ _ w.heap.size _ _ _ _ rfl (heap_alloc2_old _ _ _) und_l3 rfl (by kernel_rfl)) rfl ?_
    exact ⟨rfl, ((Below.refl _ _).alloc (Nat.le_refl _) _).alloc (by simp) _⟩
theorem field_i0 (a b c : Value) (w : World) : (Instr.field 32 (.agg #[a, b, c]) 0).run Tryd.prog w = .ok a w := by kernel_rfl
theorem field_i1 (a b c : Value) (w : World) : (Instr.field 32 (.agg #[a, b, c]) 1).run Tryd.prog w = .ok b w := by kernel_rfl
theorem field_i2 (a b c : Value) (w : World) : (Instr.field 32 (.agg #[a, b, c]) 2).run Tryd.prog w = .ok c w := by kernel_rfl
theorem field_s0 (a b c : Value) (w : World) : (Instr.field 42 (.agg #[a, b, c]) 0).run Tryd.prog w = .ok a w := by kernel_rfl
theorem field_s1 (a b c : Value) (w : World) : (Instr.field 42 (.agg #[a, b, c]) 1).run Tryd.prog w = .ok b w := by kernel_rfl
theorem field_s2 (a b c : Value) (w : World) : (Instr.field 42 (.agg #[a, b, c]) 2).run Tryd.prog w = .ok c w := by kernel_rfl
theorem lineOf_any (k : Int) (w : World) (ho : OpsAt w) :
    Calls Tryd.prog 19 #[.int .i64 k] w fun e w' => e = .returned (agg3 (line k)) ∧ Below w.heap.size w w' := by
  by_cases hk : 0 ≤ k ∧ k < 31
  · obtain ⟨k, rfl⟩ := Int.eq_ofNat_of_zero_le hk.1
    exact lineOf_yes k w (by omega) ho
  · exact lineOf_no k w hk
theorem sizeOf_impl (k : Int) (w : World) (ho : OpsAt w) :
    Calls Tryd.prog 11 #[.int .i64 k] w fun e w' => e = .returned (.int .i64 (line k).2.1) ∧ Below w.heap.size w w' := by
  have hf := field_i1
  go_enter Tryd.func11, Tryd.ntmps11
  go_wp2_with (go_at_call 19; refine (lineOf_any _ _ ho).mono ?_; rintro e w1 ⟨he, hb⟩; simp only [agg3, cells3] at he; subst he)
  go_ret
  exact ⟨rfl, hb⟩
theorem costOf_impl (k : Int) (w : World) (ho : OpsAt w) :
    Calls Tryd.prog 12 #[.int .i64 k] w fun e w' => e = .returned (.int .i64 (line k).2.2) ∧ Below w.heap.size w w' := by
  have hf := field_i2
  go_enter Tryd.func12, Tryd.ntmps12
  go_wp2_with (go_at_call 19; refine (lineOf_any _ _ ho).mono ?_; rintro e w1 ⟨he, hb⟩; simp only [agg3, cells3] at he; subst he)
  go_ret
  exact ⟨rfl, hb⟩
theorem nameOf_impl (k : Int) (w : World) (ho : OpsAt w) :
    Calls Tryd.prog 9 #[.int .i64 k] w fun e w' => e = .returned (.string ⟨(line k).1.toArray⟩) ∧ Below w.heap.size w w' := by
  have hf := field_i0
  go_enter Tryd.func9, Tryd.ntmps9
  go_wp2_with (go_at_call 19; refine (lineOf_any _ _ ho).mono ?_; rintro e w1 ⟨he, hb⟩; simp only [agg3, cells3] at he; subst he)
  go_ret
  exact ⟨rfl, hb⟩
theorem sizeOf_spec (k : Int) (w : World) :
    Calls Tryd.prog 16 #[.int .i64 k] w fun e w' => e = .returned (.int .i64 (line k).2.1) ∧ Below w.heap.size w w' := by
  have hf := field_s1
  go_enter Tryd.func16, Tryd.ntmps16
  go_wp2_with (go_at_call 25; refine (l3Of_any _ _).mono ?_; rintro e w1 ⟨he, hb⟩; simp only [agg3, cells3] at he; subst he)
  go_ret
  exact ⟨rfl, hb⟩
theorem costOf_spec (k : Int) (w : World) :
    Calls Tryd.prog 17 #[.int .i64 k] w fun e w' => e = .returned (.int .i64 (line k).2.2) ∧ Below w.heap.size w w' := by
  have hf := field_s2
  go_enter Tryd.func17, Tryd.ntmps17
  go_wp2_with (go_at_call 25; refine (l3Of_any _ _).mono ?_; rintro e w1 ⟨he, hb⟩; simp only [agg3, cells3] at he; subst he)
  go_ret
  exact ⟨rfl, hb⟩
theorem nameOf_spec (k : Int) (w : World) :
    Calls Tryd.prog 15 #[.int .i64 k] w fun e w' => e = .returned (.string ⟨(line k).1.toArray⟩) ∧ Below w.heap.size w w' := by
  have hf := field_s0
  go_enter Tryd.func15, Tryd.ntmps15
  go_wp2_with (go_at_call 25; refine (l3Of_any _ _).mono ?_; rintro e w1 ⟨he, hb⟩; simp only [agg3, cells3] at he; subst he)
  go_ret
  exact ⟨rfl, hb⟩

/-- The name of a line. -/
def nm (i : Nat) : List UInt8 := (line i).1
/-- What CodeOf answers: the first line of that name, or -1. -/
def CodeIs (s : List UInt8) (r : Int) : Prop := (∃ i : Nat, i < 31 ∧ nm i = s ∧ (∀ j, j < i → nm j ≠ s) ∧ r = i) ∨ (r = -1 ∧ ∀ j, j < 31 → nm j ≠ s)
theorem CodeIs.one {s : List UInt8} {r r' : Int} (h : CodeIs s r) (h' : CodeIs s r') : r = r' := by
  rcases h with ⟨i, hi, hn, hj, rfl⟩ | ⟨rfl, hj⟩ <;> rcases h' with ⟨i', hi', hn', hj', rfl⟩ | ⟨rfl, hj'⟩
  · rcases Nat.lt_trichotomy i i' with h | h | h
    · exact absurd hn (hj' i h)
    · rw [h]
    · exact absurd hn' (hj i' h)
  · exact absurd hn (hj' i hi)
  · exact absurd hn' (hj i' hi')
  · rfl
theorem nm_one : ∀ i : Fin 31, ∀ j : Fin 31, nm i.val = nm j.val → i.val = j.val := by decide +kernel
theorem codeIs_nm (k : Nat) (hk : k < 31) {r : Int} (h : CodeIs (nm k) r) : r = k :=
  h.one (.inl ⟨k, hk, rfl, fun j hj e => by have := nm_one ⟨j, by omega⟩ ⟨k, hk⟩ e; simp at this; omega, rfl⟩)
theorem next_nm {s : List UInt8} {k : Nat} (h : ∀ j, j < k → nm j ≠ s) (he : ((line k).1 == s) = false) : ∀ j, j < k + 1 → nm j ≠ s := by
  intro j hj e
  rcases Nat.lt_succ_iff_lt_or_eq.1 hj with hl | rfl
  · exact h j hl e
  · simp [nm] at e; simp [e] at he
theorem l3Table_tab (w : World) :
    Calls Tryd.prog 26 #[] w fun e w' => e = .returned (.slice (some ⟨w.heap.size, 0, none⟩) 31 31) ∧ w'.heap[w.heap.size]? = some (.cells (rows ops).toArray 42 (0, 0)) ∧ Below w.heap.size w w' := by
  refine (l3Table_any w).mono ?_
  rintro e w' ⟨rfl, rfl⟩
  exact ⟨rfl, heap_alloc_new _ _, (Below.refl _ _).alloc (Nat.le_refl _) _⟩
theorem codeOf_spec (s : ByteArray) (w : World) :
    Calls Tryd.prog 18 #[.string s] w fun e w' => ∃ r : Int, e = .returned (.int .i64 r) ∧ CodeIs s.toList r ∧ Below w.heap.size w w' := by
  go_enter Tryd.func18, Tryd.ntmps18
  go_wp2_with (go_at_call 26; refine (l3Table_tab _).mono ?_; rintro e w1 ⟨rfl, ht, hb⟩)
  go_loop [4] (fun i => ∃ k : Nat, k ≤ 31 ∧ i = .int .i64 (k : Int) ∧ ∀ j, j < k → nm j ≠ s.toList) (fun i => 31 - (intOf i).toNat)
  case atStart => exact ⟨0, by omega, rfl, by omega⟩
  case round =>
    obtain ⟨k, hk, rfl, hj⟩ := hrel
    have HJ : Hid (∀ j, j < k → nm j ≠ s.toList) := hj
    clear hj
    by_cases h31 : k < 31
    · have hlt : ((k : Int) < 31) := by omega
      have c0 := (tab_at ht k h31).1
      clear ht
      cases he : ((line k).1 == s.toList)
      · have HE : Hid (((line k).1 == s.toList) = false) := he
        go_wp2
        go_round
        case rel => exact ⟨k + 1, by omega, by simp, next_nm HJ.out HE.out⟩
        case measure => simp [intOf]; omega
      · have HE : Hid (((line k).1 == s.toList) = true) := he
        go_wp2
        go_ret
        exact ⟨_, rfl, .inl ⟨k, h31, by simpa [nm] using HE.out, HJ.out, rfl⟩, hb⟩
    · obtain rfl : k = 31 := by omega
      clear ht
      go_wp2
      go_ret
      exact ⟨_, rfl, .inr ⟨rfl, HJ.out⟩, hb⟩

theorem und_tab : Tryd.prog.underlying 34 = some (.array 31 32) := by kernel_rfl
theorem info_tab : (Tryd.prog.info? 34).map (·.size) = some (rows ops).toArray.size := by kernel_rfl
theorem index_tab (k : Nat) (hk : k < 31) (w : World) : (Instr.index 34 (.agg (rows ops).toArray) (.int .i64 (k : Int))).run Tryd.prog w = .ok (.agg #[.string ⟨(line k).1.toArray⟩, .int .i64 (line k).2.1, .int .i64 (line k).2.2]) w := by
  have h : ∀ k : Fin 31, (Instr.index 34 (.agg (rows ops).toArray) (.int .i64 (k.val : Int))).run Tryd.prog w = .ok (.agg #[.string ⟨(line k.val).1.toArray⟩, .int .i64 (line k.val).2.1, .int .i64 (line k.val).2.2]) w := by
    intro k
    rcases k with ⟨k, hk⟩
    iterate 31 (rcases k with _ | k; · kernel_rfl)
    omega
  exact h ⟨k, hk⟩
theorem codeOf_impl (s : ByteArray) (w : World) (ho : OpsAt w) :
    Calls Tryd.prog 10 #[.string s] w fun e w' => ∃ r : Int, e = .returned (.int .i64 r) ∧ CodeIs s.toList r ∧ Below w.heap.size w w' := by
  obtain ⟨t, fz, hh⟩ := ho
  go_enter Tryd.func10, Tryd.ntmps10
  go_wp2_with (refine wpList_load_row rfl 34 _ rfl 0 rfl t _ fz _ hh und_tab rfl info_tab ?_)
  clear hh
  go_loopw [6] (fun i wr => ∃ k : Nat, k ≤ 31 ∧ i = .int .i64 (k : Int) ∧ (∀ j, j < k → nm j ≠ s.toList) ∧ Below w.heap.size w wr) (fun i _ => 31 - (intOf i).toNat)
  case atStart => exact ⟨0, by omega, rfl, by omega, Below.refl _ _⟩
  case round =>
    obtain ⟨k, hk, rfl, hj, hb⟩ := hrel
    have HJ : Hid (∀ j, j < k → nm j ≠ s.toList) := hj
    clear hj
    have hx := index_tab k
    by_cases h31 : k < 31
    · have hlt : ((k : Int) < 31) := by omega
      replace hx := hx h31
      generalize (rows ops).toArray = R at hx ⊢
      cases he : ((line k).1 == s.toList)
      · have HE : Hid (((line k).1 == s.toList) = false) := he
        go_wp2
        go_roundw
        case rel => exact ⟨k + 1, by omega, by simp, next_nm HJ.out HE.out, hb.alloc hb.size _⟩
        case measure => simp [intOf]; omega
      · have HE : Hid (((line k).1 == s.toList) = true) := he
        go_wp2
        go_ret
        exact ⟨_, rfl, .inl ⟨k, h31, by simpa [nm] using HE.out, HJ.out, rfl⟩, hb.alloc hb.size _⟩
    · obtain rfl : k = 31 := by omega
      go_wp2
      go_ret
      exact ⟨_, rfl, .inr ⟨rfl, HJ.out⟩, hb⟩
end Go.Proofs.YtifkcojcedgepaaDoor.Opl
