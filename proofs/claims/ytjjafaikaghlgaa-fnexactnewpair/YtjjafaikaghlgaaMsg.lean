/-
  Messages and events in memory; a step in a block of a call's own.
-/
import Derived.Test.YtjjafaikaghlgaaIbx
import Derived.Test.YtjjafaikaghlgaaSlf
namespace Go.Proofs.Ytjjafaikaghlgaa.Mem
open Go.ChangeShapes Go.WideShapes Go.RowKit Base Num Slc Slf Rw Tmr Reg
set_option linter.unusedVariables false
set_option maxRecDepth 20000
set_option linter.unusedSimpArgs false

/-- How messages lie in memory, and events. -/
def fM : Fl M3 := ⟨78, 43, 3, 24, M3.cs, M3.nul, M3.val⟩
def fE : Fl M3 := ⟨121, 69, 3, 24, M3.cs, M3.nul, M3.val⟩
theorem okM : fM.Ok := ⟨fun _ => rfl, by decide, fun _ => rfl, by kernel_rfl, by kernel_rfl, by decide, by decide, fun _ => rfl, fun m w b q h => run_loadVar_mid w b q _ m.cs _ h Try.underlying78 rfl (by kernel_rfl)⟩
theorem okE : fE.Ok := ⟨fun _ => rfl, by decide, fun _ => rfl, by kernel_rfl, by kernel_rfl, by decide, by decide, fun _ => rfl, fun m w b q h => run_loadVar_mid w b q _ m.cs _ h Try.underlying121 rfl (by kernel_rfl)⟩
theorem info_m3 : (Try.prog.info? 78).map (·.size) = some 3 := by kernel_rfl
theorem info_e3 : (Try.prog.info? 121).map (·.size) = some 3 := by kernel_rfl
theorem at_some {l : List M3} {i : Nat} (h : i < l.length) : l[i]? = some (M3.at' l i) := by
  unfold M3.at'
  rw [List.getD_eq_getElem?_getD, List.getElem?_eq_getElem h]
  rfl
/-- A message's block. -/
abbrev M3Row (w : World) (g : Nat) (m : M3) : Prop := Row w g #[.int .i64 m.t, .int .i64 m.k, .int .i64 m.v] 78
theorem m3_val (m : M3) : m.val = .agg #[.int .i64 m.t, .int .i64 m.k, .int .i64 m.v] := rfl
section
variable {ops : Array Oper} {rest : List Oper} {o : Oper} {a : Act} {w : World} {Q : Exit → Act → World → Prop} {x y : Operand} {g k : Nat} {v : Value} {m : M3}
theorem box_m3 (hgd : o.guard = none) (ho : o.op = .box 78 x) (hx : a.eval x = m.val)
    (h : ∀ w', M3Row w' w.heap.size m → Below w.heap.size w w' → wpList Try.prog ops Q rest (a.put o.dst (.pointer (some ⟨w.heap.size, 0, none⟩))) w') : wpList Try.prog ops Q (o :: rest) a w :=
  wpList_plain hgd fun _ hK => by
    have e : (Instr.box 78 m.val).run Try.prog w = .ok (.pointer (some ⟨w.heap.size, 0, none⟩)) (w.alloc (.cells #[.int .i64 m.t, .int .i64 m.k, .int .i64 m.v] 78)) := rfl
    unfold Oper.wp execOp
    simp only [ho, hx, Sem.run_bind, Result.andThen_ok, e]
    exact hK _ _ (h _ (Row.new _ _ _) ((Below.refl _ _).alloc (Nat.le_refl _) _))
theorem ld_m3 (hgd : o.guard = none) (ho : o.op = .load 78 x) (hx : a.eval x = .pointer (some ⟨g, 0, none⟩)) (hr : M3Row w g m)
    (h : wpList Try.prog ops Q rest (a.put o.dst m.val) w) : wpList Try.prog ops Q (o :: rest) a w :=
  ld_row hgd _ x ho hx hr Try.underlying78 rfl info_m3 h
end
/-- A guarded operation that is not wanted. -/
theorem at_skip {P : Program} {ops : Array Oper} {Q : Exit → Act → World → Prop} {i : Nat} {o : Oper} {a : Act} {w : World} {K : Act → World → Prop} (ho : ops[i]? = some o) {j k : Nat} {want : Bool} (hg : o.guard = some (j, want)) (hj : (ops[j]?).bind (·.dst) = some k) (hv : a.tmps.getD k undef ≠ .bool want) (h : K (a.put o.dst undef) w) : wpOp P ops Q i K a w := by
  unfold wpOp
  rw [ho]
  have hy : yielded ops a.tmps j ≠ some want := by
    unfold yielded
    rw [hj]
    rw [Array.getD_eq_getD_getElem?] at hv
    cases hq : a.tmps[k]? with
    | none => simp [hq]
    | some v =>
      rw [hq] at hv
      simp only [Option.bind_some, hq]
      cases v <;> simp_all
  have hw : Region.wanted o (yielded ops a.tmps) = false := by
    simp only [Region.wanted, hg]
    simpa using hy
  simp only [hw, Bool.false_eq_true, if_false]
  exact h
theorem subN (i j : Int) (x y : Operand) (w : World) (h0 : -9223372036854775808 ≤ i - j) (h1 : i - j ≤ 9223372036854775807) : (do eqGuard .sub 3 x y (.int .i64 i) (.int .i64 j); binOp .sub 3 (.int .i64 i) (.int .i64 j) : Sem Value).run Try.prog w = .ok (.int .i64 (i - j)) w := by
  have e : IntKind.i64.wrap (i - j) = i - j := by
    simp [IntKind.wrap, IntKind.bits, IntKind.signed]
    omega
  have : (do eqGuard .sub 3 x y (.int .i64 i) (.int .i64 j); binOp .sub 3 (.int .i64 i) (.int .i64 j) : Sem Value).run Try.prog w = .ok (.int .i64 (IntKind.i64.wrap (i - j))) w := by simp [go_sem]
  rw [this, e]
theorem l9MsgOk_spec (m : M3) (w : World) : Calls Try.prog 87 #[m.val] w fun e w' => e = .returned (.bool m.ok) ∧ Below w.heap.size w w' := by
  obtain ⟨vv, hvv⟩ : ∃ vv, vv = m.val := ⟨_, rfl⟩
  have HO : Hid (m.ok = (inn m.t 0 1000000100 && (if m.k = 1 ∨ m.k = 2 then inn m.v 0 1 else if m.k = 3 then bok m.v else false))) := show _ = _ from rfl
  rw [← hvv]
  cases h0 : inn m.t 0 1000000100
  · go_enter Try.func87, Try.ntmps87
    go_wp2_with (first
      | (refine box_m3 rfl rfl hvv ?_; intro w0 r0 hB0; have c0 : w0.cell? ⟨w.heap.size, 0, none⟩ = some (.int .i64 m.t) := r0.cell 0)
      | (go_at_call 84; refine (Tmr.in_any _ _ _ _).mono ?_; rintro e w2 ⟨rfl, rfl⟩; rw [h0]))
    go_ret
    exact ⟨ret_bool (by rw [HO.out, h0]; rfl), hB0⟩
  · by_cases k1 : m.k = 1
    · go_enter Try.func87, Try.ntmps87
      go_wp2_with (first
        | (refine box_m3 rfl rfl hvv ?_; intro w0 r0 hB0; have c0 : w0.cell? ⟨w.heap.size, 0, none⟩ = some (.int .i64 m.t) := r0.cell 0; have c1 : w0.cell? ⟨w.heap.size, 1, none⟩ = some (.int .i64 m.k) := r0.cell 1; rw [k1] at c1; have c2 : w0.cell? ⟨w.heap.size, 2, none⟩ = some (.int .i64 m.v) := r0.cell 2)
        | (go_at_call 84; refine (Tmr.in_any _ _ _ _).mono ?_; rintro e w2 ⟨rfl, rfl⟩; first | rw [h0] | skip))
      go_ret
      exact ⟨ret_bool (by rw [HO.out, h0, if_pos (.inl k1)]; simp), hB0⟩
    by_cases k2 : m.k = 2
    · go_enter Try.func87, Try.ntmps87
      go_wp2_with (first
        | (refine box_m3 rfl rfl hvv ?_; intro w0 r0 hB0; have c0 : w0.cell? ⟨w.heap.size, 0, none⟩ = some (.int .i64 m.t) := r0.cell 0; have c1 : w0.cell? ⟨w.heap.size, 1, none⟩ = some (.int .i64 m.k) := r0.cell 1; rw [k2] at c1; have c2 : w0.cell? ⟨w.heap.size, 2, none⟩ = some (.int .i64 m.v) := r0.cell 2)
        | (go_at_call 84; refine (Tmr.in_any _ _ _ _).mono ?_; rintro e w2 ⟨rfl, rfl⟩; first | rw [h0] | skip))
      go_ret
      exact ⟨ret_bool (by rw [HO.out, h0, if_pos (.inr k2)]; simp), hB0⟩
    by_cases k3 : m.k = 3
    · go_enter Try.func87, Try.ntmps87
      go_wp2_with (first
        | (refine box_m3 rfl rfl hvv ?_; intro w0 r0 hB0; have c0 : w0.cell? ⟨w.heap.size, 0, none⟩ = some (.int .i64 m.t) := r0.cell 0; have c1 : w0.cell? ⟨w.heap.size, 1, none⟩ = some (.int .i64 m.k) := r0.cell 1; rw [k3] at c1; have c2 : w0.cell? ⟨w.heap.size, 2, none⟩ = some (.int .i64 m.v) := r0.cell 2)
        | (go_at_call 84; refine (Tmr.in_any _ _ _ _).mono ?_; rintro e w2 ⟨rfl, rfl⟩; rw [h0])
        | (go_at_call 83; refine (byteOk_spec _ _).mono ?_; rintro e w2 ⟨rfl, rfl⟩))
      go_ret
      exact ⟨ret_bool (by rw [HO.out, h0, if_neg (by omega), if_pos k3]; simp), hB0⟩
    have b1 : (m.k == 1) = false := by simpa using k1
    have b2 : (m.k == 2) = false := by simpa using k2
    have b3 : (m.k == 3) = false := by simpa using k3
    go_enter Try.func87, Try.ntmps87
    go_wp2_with (first
      | (refine box_m3 rfl rfl hvv ?_; intro w0 r0 hB0; have c0 : w0.cell? ⟨w.heap.size, 0, none⟩ = some (.int .i64 m.t) := r0.cell 0; have c1 : w0.cell? ⟨w.heap.size, 1, none⟩ = some (.int .i64 m.k) := r0.cell 1)
      | (go_at_call 84; refine (Tmr.in_any _ _ _ _).mono ?_; rintro e w2 ⟨rfl, rfl⟩; rw [h0]))
    go_ret
    exact ⟨ret_bool (by rw [HO.out, h0, if_neg (by omega), if_neg k3]; simp), hB0⟩
theorem l9Later_spec (a b : M3) (w : World) : Calls Try.prog 88 #[a.val, b.val] w fun e w' => e = .returned (.bool (later a b)) ∧ Below w.heap.size w w' := by
  have HO : Hid (later a b = (decide (b.t < a.t) || (a.t == b.t && decide (b.k < a.k)))) := show _ = _ from rfl
  have hB : Below w.heap.size w ((w.alloc (.cells #[.int .i64 a.t, .int .i64 a.k, .int .i64 a.v] 78)).alloc (.cells #[.int .i64 b.t, .int .i64 b.k, .int .i64 b.v] 78)) := ((Below.refl _ w).alloc (Nat.le_refl _) _).alloc (by simp) _
  have HB : Hid (Below w.heap.size w ((w.alloc (.cells #[.int .i64 a.t, .int .i64 a.k, .int .i64 a.v] 78)).alloc (.cells #[.int .i64 b.t, .int .i64 b.k, .int .i64 b.v] 78))) := hB
  clear hB
  rw [m3_val, m3_val]
  generalize later a b = r at HO ⊢
  obtain ⟨t1, k1, v1⟩ := a
  obtain ⟨t2, k2, v2⟩ := b
  by_cases h1 : t2 < t1
  · have d1 : decide (t2 < t1) = true := by simpa using h1
    go_enter Try.func88, Try.ntmps88
    go_wp2
    go_ret
    exact ⟨ret_bool (by rw [HO.out]; simp [d1]), HB.out⟩
  · have d1 : decide (t2 < t1) = false := by simpa using h1
    by_cases h2 : t1 = t2
    · subst h2
      by_cases h3 : k2 < k1
      · go_enter Try.func88, Try.ntmps88
        go_wp2
        go_ret
        exact ⟨ret_bool (by rw [HO.out]; simp [h3]), HB.out⟩
      · go_enter Try.func88, Try.ntmps88
        go_wp2
        go_ret
        exact ⟨ret_bool (by rw [HO.out]; simp [h3]), HB.out⟩
    · have d2 : (t1 == t2) = false := by simpa using h2
      go_enter Try.func88, Try.ntmps88
      go_wp2
      go_ret
      exact ⟨ret_bool (by rw [HO.out]; simp [d1, d2]), HB.out⟩
end Go.Proofs.Ytjjafaikaghlgaa.Mem
