/-
  The cable's port, as the program has it: the shift that is embedded, and its parts. The cable's port, as the program has it: a start, and an answer.
-/
import Derived.Test.YtjjafaikaghlgaaSrl
import Derived.Test.YtjjafaikaghlgaaRow
namespace Go.Proofs.Ytjjafaikaghlgaa.Srl
open Go.ChangeShapes Go.WideShapes Go.RowKit Base Num Slc Rw Reg Tmr
set_option linter.unusedVariables false
set_option maxRecDepth 20000

/-- A port from inside: the shift (data, left), busy, lead, next at, wait. -/
def Sr.port (s : Sr) : Value := .agg #[.int .i64 s.d, .int .i64 s.n, .bool s.b, .bool s.l, .int .i64 s.x, .bool s.t]
theorem Sr.eta_port (s : Sr) : s.port = .agg #[.int .i64 s.d, .int .i64 s.n, .bool s.b, .bool s.l, .int .i64 s.x, .bool s.t] := rfl
theorem und_port : Try.prog.underlying 128 = some (.struct #[{ name := "shift", type := 126, offset := 0, embedded := true, tag := "", pkgPath := "loop.example/g00741/impl", byteOffset := 0 }, { name := "busy", type := 4, offset := 2, embedded := false, tag := "", pkgPath := "loop.example/g00741/impl", byteOffset := 16 }, { name := "lead", type := 4, offset := 3, embedded := false, tag := "", pkgPath := "loop.example/g00741/impl", byteOffset := 17 }, { name := "nextAt", type := 2, offset := 4, embedded := false, tag := "", pkgPath := "loop.example/g00741/impl", byteOffset := 24 }, { name := "wait", type := 4, offset := 5, embedded := false, tag := "", pkgPath := "loop.example/g00741/impl", byteOffset := 32 }]) := by kernel_rfl
theorem info_port : (Try.prog.info? 128).map (·.size) = some 6 := by kernel_rfl
theorem info_shift : (Try.prog.info? 126).map (·.size) = some 2 := by kernel_rfl
section
variable {ops : Array Oper} {rest : List Oper} {o : Oper} {a : Act} {w : World} {Q : Exit → Act → World → Prop} {x y : Operand} {g : Nat} {d n q : Int} {b l t : Bool} {T : TypeId} {old : Array Value}
/-- A port from inside is stored into a block of its own. -/
theorem st_port (hgd : o.guard = none) (ho : o.op = .store 128 x y) (hx : a.eval x = .pointer (some ⟨g, 0, none⟩)) (hy : a.eval y = .agg #[.int .i64 d, .int .i64 n, .bool b, .bool l, .int .i64 q, .bool t]) (hr : Row w g old T) (hold : old.size = 6)
    (h : ∀ w', Row w' g #[.int .i64 d, .int .i64 n, .bool b, .bool l, .int .i64 q, .bool t] T → Onto g w w' → w'.heap.size = w.heap.size → wpList Try.prog ops Q rest (a.put o.dst undef) w') : wpList Try.prog ops Q (o :: rest) a w :=
  st_row hgd _ x y ho hx hy hr info_port hold (by simp [Value.oneCell']) h
/-- A shift is stored into a block of its own. -/
theorem st_shift (hgd : o.guard = none) (ho : o.op = .store 126 x y) (hx : a.eval x = .pointer (some ⟨g, 0, none⟩)) (hy : a.eval y = .agg #[.int .i64 d, .int .i64 n]) (hr : Row w g old T) (hold : old.size = 2)
    (h : ∀ w', Row w' g #[.int .i64 d, .int .i64 n] T → Onto g w w' → w'.heap.size = w.heap.size → wpList Try.prog ops Q rest (a.put o.dst undef) w') : wpList Try.prog ops Q (o :: rest) a w :=
  st_row hgd _ x y ho hx hy hr info_shift hold (by simp [Value.oneCell']) h
end
def lfOk (b : Bool) (n : Int) : Bool := if b then inn n 1 8 else n == 0
def ldOk (b l t : Bool) : Bool := (b || !l) && (l || !t)
def nxOk (b l t : Bool) (x : Int) : Bool := if b && l && !t then clk x else x == 0
theorem bitOk_impl (n : Int) (w : World) :
    Calls Try.prog 101 #[.int .i64 n] w fun e w' => e = .returned (.bool (inn n 0 1)) ∧ w' = w := by
  by_cases h0 : n = 0
  · subst h0
    go_enter Try.func101, Try.ntmps101
    go_wp2
    go_ret
    exact ⟨rfl, rfl⟩
  · go_enter Try.func101, Try.ntmps101
    go_wp2
    go_ret
    exact ⟨ret_bool (by rw [Bool.eq_iff_iff]; simp [inn]; omega), rfl⟩
theorem dataOk_impl (d n : Int) (w : World) :
    Calls Try.prog 95 #[.agg #[.int .i64 d, .int .i64 n]] w fun e w' => e = .returned (.bool (bok d)) ∧ Below w.heap.size w w' := by
  go_enter Try.func95, Try.ntmps95
  go_wp2_with (go_at_call 60; refine (byteOk_impl _ _).mono ?_; rintro e w1 ⟨rfl, rfl⟩)
  go_ret
  exact ⟨rfl, (Below.refl _ _).alloc (Nat.le_refl _) _⟩
theorem leftOk_impl (d n : Int) (b : Bool) (w : World) :
    Calls Try.prog 96 #[.agg #[.int .i64 d, .int .i64 n], .bool b] w fun e w' => e = .returned (.bool (lfOk b n)) ∧ Below w.heap.size w w' := by
  cases b
  · go_enter Try.func96, Try.ntmps96
    go_wp2
    go_ret
    exact ⟨ret_bool (by simp [lfOk]), (Below.refl _ _).alloc (Nat.le_refl _) _⟩
  · by_cases h1 : 1 ≤ n
    · go_enter Try.func96, Try.ntmps96
      go_wp2
      go_ret
      exact ⟨ret_bool (by simp [lfOk, inn, h1]), (Below.refl _ _).alloc (Nat.le_refl _) _⟩
    · go_enter Try.func96, Try.ntmps96
      go_wp2
      go_ret
      exact ⟨ret_bool (by simp [lfOk, inn]; omega), (Below.refl _ _).alloc (Nat.le_refl _) _⟩
theorem leadOk_impl (d n x : Int) (b l t : Bool) (w : World) :
    Calls Try.prog 97 #[.agg #[.int .i64 d, .int .i64 n, .bool b, .bool l, .int .i64 x, .bool t]] w fun e w' => e = .returned (.bool (ldOk b l t)) ∧ Below w.heap.size w w' := by
  cases b <;> cases l <;> cases t
  all_goals
    go_enter Try.func97, Try.ntmps97
    go_wp2
    go_ret
    exact ⟨rfl, (Below.refl _ _).alloc (Nat.le_refl _) _⟩
theorem nextAtOk_impl (d n x : Int) (b l t : Bool) (w : World) :
    Calls Try.prog 98 #[.agg #[.int .i64 d, .int .i64 n, .bool b, .bool l, .int .i64 x, .bool t]] w fun e w' => e = .returned (.bool (nxOk b l t x)) ∧ Below w.heap.size w w' := by
  cases b <;> cases l <;> cases t
  all_goals
    go_enter Try.func98, Try.ntmps98
    go_wp2_with (go_at_call 93; refine (clockOk_impl _ _).mono ?_; rintro e w1 ⟨rfl, rfl⟩)
    go_ret
    exact ⟨ret_bool (by simp [nxOk]), (Below.refl _ _).alloc (Nat.le_refl _) _⟩
theorem portOf_impl (s : Sr) (w : World) :
    Calls Try.prog 94 #[s.val] w fun e w' => e = .returned s.port ∧ Below w.heap.size w w' := by
  rw [Sr.eta s]
  go_enter Try.func94, Try.ntmps94
  go_wp2_with (refine st_port rfl rfl rfl rfl (Row.new1 (w := w.alloc _) (n := w.heap.size + 1) (by simp) _ _) rfl ?_; intro w2 r3 ho2 hs2)
  refine ret_row rfl rfl r3 und_port rfl info_port rfl ?_
  exact ⟨rfl, below_onto (((Below.refl _ w).alloc (Nat.le_refl _) _).alloc (by simp) _) ho2 (by omega)⟩
theorem und_shift : Try.prog.underlying 126 = some (.struct #[{ name := "data", type := 2, offset := 0, embedded := false, tag := "", pkgPath := "loop.example/g00741/impl", byteOffset := 0 }, { name := "left", type := 2, offset := 1, embedded := false, tag := "", pkgPath := "loop.example/g00741/impl", byteOffset := 8 }]) := by kernel_rfl
theorem Sr.ok_port (s : Sr) : s.ok = (bok s.d && lfOk s.b s.n && ldOk s.b s.l s.t && nxOk s.b s.l s.t s.x) := by
  obtain ⟨d, b, l, n, x, t⟩ := s
  have k0 : clk 0 = true := by decide
  have kx : (clk x && x == 0) = (x == 0) := by
    rw [Bool.eq_iff_iff]; simp only [Bool.and_eq_true, beq_iff_eq]
    exact ⟨fun h => h.2, fun h => by subst h; exact ⟨k0, rfl⟩⟩
  cases b <;> cases l <;> cases t <;> simp only [Sr.ok, lfOk, ldOk, nxOk] <;> cases bok d <;> cases hx : clk x <;> simp_all
set_option maxHeartbeats 4000000 in
theorem serialOk_impl (s : Sr) (w : World) :
    Calls Try.prog 63 #[s.val] w fun e w' => e = .returned (.bool s.ok) ∧ Below w.heap.size w w' := by
  rw [Sr.ok_port s, Sr.eta s]
  go_enter Try.func63, Try.ntmps63
  go_wp2_with (first
    | (go_at_call 94; refine (portOf_impl s _).mono ?_; rintro e w1 ⟨rfl, hb⟩; have hB := ((Below.refl _ w).alloc (Nat.le_refl _) _).trans (hb.mono (by simp)); clear hb; rw [Sr.eta_port])
    | (refine st_port rfl rfl rfl rfl (Row.new _ _ _) rfl ?_; intro w2 r3 ho2 hs2; replace hB := below_onto (hB.alloc hB.size _) ho2 hB.size; have c3 := r3.cell)
    | (go_at_call 95; refine (dataOk_impl _ _ _).mono ?_; rintro e w1 ⟨rfl, hb⟩; replace r3 := r3.below hb; have c3 := r3.cell; replace hB := below_more hB hb; generalize hc1 : bok _ = r; cases r)
    | (go_at_call 96; refine (leftOk_impl _ _ _ _).mono ?_; rintro e w1 ⟨rfl, hb⟩; replace r3 := r3.below hb; have c3 := r3.cell; replace hB := below_more hB hb; generalize hc2 : lfOk _ _ = r; cases r)
    | (go_at_call 97; refine (leadOk_impl _ _ _ _ _ _ _).mono ?_; rintro e w1 ⟨rfl, hb⟩; replace r3 := r3.below hb; have c3 := r3.cell; replace hB := below_more hB hb; generalize hc3 : ldOk _ _ _ = r; cases r)
    | (go_at_call 98; refine (nextAtOk_impl _ _ _ _ _ _ _).mono ?_; rintro e w1 ⟨rfl, hb⟩; replace r3 := r3.below hb; have c3 := r3.cell; replace hB := below_more hB hb; generalize hc4 : nxOk _ _ _ _ = r; cases r))
  all_goals go_ret
  all_goals exact ⟨ret_bool (by simp [*]), hB⟩
end Go.Proofs.Ytjjafaikaghlgaa.Srl
namespace Go.Proofs.Ytjjafaikaghlgaa.Srl
open Go.ChangeShapes Go.WideShapes Go.RowKit Base Num Slc Rw Reg Tmr
set_option linter.unusedVariables false
set_option maxRecDepth 20000

theorem Sr.starts_port (s : Sr) (lead : Bool) (now : Int) : s.starts lead now = (s.ok && clk now && (!lead || clk (now + 32))) := by
  rw [Bool.eq_iff_iff]
  cases lead
  · simp [Sr.starts, clk, inn]
  · simp [Sr.starts, clk, inn]
    constructor
    · rintro ⟨h, _⟩; exact ⟨⟨h, by omega⟩, by omega⟩
    · rintro ⟨⟨h, _⟩, _⟩; exact ⟨h, by omega⟩
theorem info_i64 : (Try.prog.info? 2).map (·.size) = some 1 := by kernel_rfl
theorem info_bool : (Try.prog.info? 4).map (·.size) = some 1 := by kernel_rfl
end Go.Proofs.Ytjjafaikaghlgaa.Srl
