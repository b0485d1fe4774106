/-
  The cable's port, as the program has it: the shift that is embedded, and its parts. The cable's port, as the program has it: a start, and an answer.
-/
import Derived.Test.YtocofjimkfffeaaGreatDoorSrl
import Derived.Test.YtocofjimkfffeaaGreatDoorRow
namespace Go.Proofs.YtocofjimkfffeaaGreatDoor.Srl
open Go.ChangeShapes Go.WideShapes Go.RowKit Base Num Slc Rw Reg Tmr
set_option linter.unusedVariables false

/-- A port from inside: the shift (data, left), busy, lead, next at, wait. -/
def Sr.port (s : Sr) : Value := .agg #[.int .i64 s.d, .int .i64 s.n, .bool s.b, .bool s.l, .int .i64 s.x, .bool s.t]
theorem Sr.eta_port (s : Sr) : s.port = .agg #[.int .i64 s.d, .int .i64 s.n, .bool s.b, .bool s.l, .int .i64 s.x, .bool s.t] := rfl
theorem und_port : Tryz.prog.underlying 101 = some (.struct #[{ name := "shift", type := 99, offset := 0, embedded := true, tag := "", pkgPath := "loop.example/g00741/impl", byteOffset := 0 }, { name := "busy", type := 4, offset := 2, embedded := false, tag := "", pkgPath := "loop.example/g00741/impl", byteOffset := 16 }, { name := "lead", type := 4, offset := 3, embedded := false, tag := "", pkgPath := "loop.example/g00741/impl", byteOffset := 17 }, { name := "nextAt", type := 2, offset := 4, embedded := false, tag := "", pkgPath := "loop.example/g00741/impl", byteOffset := 24 }, { name := "wait", type := 4, offset := 5, embedded := false, tag := "", pkgPath := "loop.example/g00741/impl", byteOffset := 32 }]) := by kernel_rfl
theorem info_port : (Tryz.prog.info? 101).map (·.size) = some 6 := by kernel_rfl
theorem info_shift : (Tryz.prog.info? 99).map (·.size) = some 2 := by kernel_rfl
section
variable {ops : Array Oper} {rest : List Oper} {o : Oper} {a : Act} {w : World} {Q : Exit → Act → World → Prop} {x y : Operand} {g : Nat} {d n q : Int} {b l t : Bool} {T : TypeId} {old : Array Value}
/-- A port from inside is stored into a block of its own. -/
theorem st_port (hgd : o.guard = none) (ho : o.op = .store 101 x y) (hx : a.eval x = .pointer (some ⟨g, 0, none⟩)) (hy : a.eval y = .agg #[.int .i64 d, .int .i64 n, .bool b, .bool l, .int .i64 q, .bool t]) (hr : Row w g old T) (hold : old.size = 6)
    (h : ∀ w', Row w' g #[.int .i64 d, .int .i64 n, .bool b, .bool l, .int .i64 q, .bool t] T → Onto g w w' → w'.heap.size = w.heap.size → wpList Tryz.prog ops Q rest (a.put o.dst undef) w') : wpList Tryz.prog ops Q (o :: rest) a w :=
  st_row hgd _ x y ho hx hy hr info_port hold (by simp [Value.oneCell']) h
/-- A shift is stored into a block of its own. -/
theorem st_shift (hgd : o.guard = none) (ho : o.op = .store 99 x y) (hx : a.eval x = .pointer (some ⟨g, 0, none⟩)) (hy : a.eval y = .agg #[.int .i64 d, .int .i64 n]) (hr : Row w g old T) (hold : old.size = 2)
    (h : ∀ w', Row w' g #[.int .i64 d, .int .i64 n] T → Onto g w w' → w'.heap.size = w.heap.size → wpList Tryz.prog ops Q rest (a.put o.dst undef) w') : wpList Tryz.prog ops Q (o :: rest) a w :=
  st_row hgd _ x y ho hx hy hr info_shift hold (by simp [Value.oneCell']) h
end
def lfOk (b : Bool) (n : Int) : Bool := if b then inn n 1 8 else n == 0
def ldOk (b l t : Bool) : Bool := (b || !l) && (l || !t)
def nxOk (b l t : Bool) (x : Int) : Bool := if b && l && !t then clk x else x == 0
theorem dataOk_impl (d n : Int) (w : World) :
    Calls Tryz.prog 118 #[.agg #[.int .i64 d, .int .i64 n]] w fun e w' => e = .returned (.bool (bok d)) ∧ Below w.heap.size w w' := by
  go_enter Tryz.func118, Tryz.ntmps118
  go_wp2_with (go_at_call 48; refine (byteOk_impl _ _).mono ?_; rintro e w1 ⟨rfl, rfl⟩)
  go_ret
  exact ⟨rfl, (Below.refl _ _).alloc (Nat.le_refl _) _⟩
theorem leftOk_impl (d n : Int) (b : Bool) (w : World) :
    Calls Tryz.prog 119 #[.agg #[.int .i64 d, .int .i64 n], .bool b] w fun e w' => e = .returned (.bool (lfOk b n)) ∧ Below w.heap.size w w' := by
  cases b
  · go_enter Tryz.func119, Tryz.ntmps119
    go_wp2
    go_ret
    exact ⟨ret_bool (by simp [lfOk]), (Below.refl _ _).alloc (Nat.le_refl _) _⟩
  · by_cases h1 : 1 ≤ n
    · go_enter Tryz.func119, Tryz.ntmps119
      go_wp2
      go_ret
      exact ⟨ret_bool (by simp [lfOk, inn, h1]), (Below.refl _ _).alloc (Nat.le_refl _) _⟩
    · go_enter Tryz.func119, Tryz.ntmps119
      go_wp2
      go_ret
      exact ⟨ret_bool (by simp [lfOk, inn]; omega), (Below.refl _ _).alloc (Nat.le_refl _) _⟩
theorem leadOk_impl (d n x : Int) (b l t : Bool) (w : World) :
    Calls Tryz.prog 120 #[.agg #[.int .i64 d, .int .i64 n, .bool b, .bool l, .int .i64 x, .bool t]] w fun e w' => e = .returned (.bool (ldOk b l t)) ∧ Below w.heap.size w w' := by
  cases b <;> cases l <;> cases t
  all_goals
    go_enter Tryz.func120, Tryz.ntmps120
    go_wp2
    go_ret
    exact ⟨rfl, (Below.refl _ _).alloc (Nat.le_refl _) _⟩
theorem nextAtOk_impl (d n x : Int) (b l t : Bool) (w : World) :
    Calls Tryz.prog 121 #[.agg #[.int .i64 d, .int .i64 n, .bool b, .bool l, .int .i64 x, .bool t]] w fun e w' => e = .returned (.bool (nxOk b l t x)) ∧ Below w.heap.size w w' := by
  cases b <;> cases l <;> cases t
  all_goals
    go_enter Tryz.func121, Tryz.ntmps121
    go_wp2_with (go_at_call 116; refine (clockOk_impl _ _).mono ?_; rintro e w1 ⟨rfl, rfl⟩)
    go_ret
    exact ⟨ret_bool (by simp [nxOk]), (Below.refl _ _).alloc (Nat.le_refl _) _⟩
theorem portOf_impl (s : Sr) (w : World) :
    Calls Tryz.prog 117 #[s.val] w fun e w' => e = .returned s.port ∧ Below w.heap.size w w' := by
  rw [Sr.eta s]
  go_enter Tryz.func117, Tryz.ntmps117
  go_wp2_with (refine st_port rfl rfl rfl rfl (Row.new1 (w := w.alloc _) (n := w.heap.size + 1) (by simp) _ _) rfl ?_; intro w2 r3 ho2 hs2)
  refine ret_row rfl rfl r3 und_port rfl info_port rfl ?_
  exact ⟨rfl, below_onto (((Below.refl _ w).alloc (Nat.le_refl _) _).alloc (by simp) _) ho2 (by omega)⟩
theorem serial_impl (s : Sr) (w : World) :
    Calls Tryz.prog 156 #[s.port] w fun e w' => e = .returned s.val ∧ Below w.heap.size w w' := by
  rw [Sr.eta_port s]
  go_enter Tryz.func156, Tryz.ntmps156
  go_wp2_with (refine st_sr rfl rfl rfl rfl (Row.new1 (w := w.alloc _) (n := w.heap.size + 1) (by simp) _ _) rfl ?_; intro w2 r3 ho2 hs2)
  refine ret_row rfl rfl r3 und_sr rfl info_sr rfl ?_
  exact ⟨rfl, below_onto (((Below.refl _ w).alloc (Nat.le_refl _) _).alloc (by simp) _) ho2 (by omega)⟩
theorem und_shift : Tryz.prog.underlying 99 = some (.struct #[{ name := "data", type := 2, offset := 0, embedded := false, tag := "", pkgPath := "loop.example/g00741/impl", byteOffset := 0 }, { name := "left", type := 2, offset := 1, embedded := false, tag := "", pkgPath := "loop.example/g00741/impl", byteOffset := 8 }]) := by kernel_rfl
theorem Sr.ok_port (s : Sr) : s.ok = (bok s.d && lfOk s.b s.n && ldOk s.b s.l s.t && nxOk s.b s.l s.t s.x) := by
  obtain ⟨d, b, l, n, x, t⟩ := s
  have k0 : clk 0 = true := by decide
  have kx : (clk x && x == 0) = (x == 0) := by
    rw [Bool.eq_iff_iff]; simp only [Bool.and_eq_true, beq_iff_eq]
    exact ⟨fun h => h.2, fun h => by subst h; exact ⟨k0, rfl⟩⟩
  cases b <;> cases l <;> cases t <;> simp only [Sr.ok, lfOk, ldOk, nxOk] <;> cases bok d <;> cases hx : clk x <;> simp_all
set_option maxHeartbeats 4000000 in
theorem serialOk_impl (s : Sr) (w : World) :
    Calls Tryz.prog 51 #[s.val] w fun e w' => e = .returned (.bool s.ok) ∧ Below w.heap.size w w' := by
  rw [Sr.ok_port s, Sr.eta s]
  go_enter Tryz.func51, Tryz.ntmps51
  go_wp2_with (first
    | (go_at_call 117; refine (portOf_impl s _).mono ?_; rintro e w1 ⟨rfl, hb⟩; have hB := ((Below.refl _ w).alloc (Nat.le_refl _) _).trans (hb.mono (by simp)); clear hb; rw [Sr.eta_port])
    | (refine st_port rfl rfl rfl rfl (Row.new _ _ _) rfl ?_; intro w2 r3 ho2 hs2; replace hB := below_onto (hB.alloc hB.size _) ho2 hB.size; have c3 := r3.cell)
    | (go_at_call 118; refine (dataOk_impl _ _ _).mono ?_; rintro e w1 ⟨rfl, hb⟩; replace r3 := r3.below hb; have c3 := r3.cell; replace hB := below_more hB hb; generalize hc1 : bok _ = r; cases r)
    | (go_at_call 119; refine (leftOk_impl _ _ _ _).mono ?_; rintro e w1 ⟨rfl, hb⟩; replace r3 := r3.below hb; have c3 := r3.cell; replace hB := below_more hB hb; generalize hc2 : lfOk _ _ = r; cases r)
    | (go_at_call 120; refine (leadOk_impl _ _ _ _ _ _ _).mono ?_; rintro e w1 ⟨rfl, hb⟩; replace r3 := r3.below hb; have c3 := r3.cell; replace hB := below_more hB hb; generalize hc3 : ldOk _ _ _ = r; cases r)
    | (go_at_call 121; refine (nextAtOk_impl _ _ _ _ _ _ _).mono ?_; rintro e w1 ⟨rfl, hb⟩; replace r3 := r3.below hb; have c3 := r3.cell; replace hB := below_more hB hb; generalize hc4 : nxOk _ _ _ _ = r; cases r))
  all_goals go_ret
  all_goals exact ⟨ret_bool (by simp [*]), hB⟩
end Go.Proofs.YtocofjimkfffeaaGreatDoor.Srl
namespace Go.Proofs.YtocofjimkfffeaaGreatDoor.Srl
open Go.ChangeShapes Go.WideShapes Go.RowKit Base Num Slc Rw Reg Tmr
set_option linter.unusedVariables false

theorem Sr.starts_port (s : Sr) (lead : Bool) (now : Int) : s.starts lead now = (s.ok && clk now && (!lead || clk (now + 32))) := by
  rw [Bool.eq_iff_iff]
  cases lead
  · simp [Sr.starts, clk, inn]
  · simp [Sr.starts, clk, inn]
    constructor
    · rintro ⟨h, _⟩; exact ⟨⟨h, by omega⟩, by omega⟩
    · rintro ⟨⟨h, _⟩, _⟩; exact ⟨h, by omega⟩
theorem info_i64 : (Tryz.prog.info? 2).map (·.size) = some 1 := by kernel_rfl
theorem info_bool : (Tryz.prog.info? 4).map (·.size) = some 1 := by kernel_rfl
set_option maxHeartbeats 4000000 in
theorem serialStart_impl (s : Sr) (lead : Bool) (now : Int) (w : World) :
    Calls Tryz.prog 155 #[s.val, .bool lead, .int .i64 now] w fun e w' => e = .returned (s.start lead now).val ∧ Below w.heap.size w w' := by
  rw [Sr.eta s]
  have hsp := Sr.starts_port s lead now
  cases hok : s.ok
  · rw [Sr.start_no (by simp [hsp, hok])]
    go_enter Tryz.func155, Tryz.ntmps155
    go_wp2_with (first
      | (go_at_call 51; refine (serialOk_impl s _).mono ?_; rintro e w1 ⟨rfl, hb⟩; rw [hok]; obtain ⟨r1, r2, hB⟩ := box2 hb)
      | (refine st_sr rfl rfl rfl rfl r2 rfl ?_; intro w2 r3 ho2 hs2))
    refine ret_row rfl rfl r3 und_sr rfl info_sr rfl ?_
    exact ⟨rfl, below_onto hB ho2 (by omega)⟩
  cases hk : clk now
  · rw [Sr.start_no (by simp [hsp, hk])]
    go_enter Tryz.func155, Tryz.ntmps155
    go_wp2_with (first
      | (go_at_call 51; refine (serialOk_impl s _).mono ?_; rintro e w1 ⟨rfl, hb⟩; rw [hok]; obtain ⟨r1, r2, hB⟩ := box2 hb)
      | (go_at_call 116; refine (clockOk_impl _ _).mono ?_; rintro e w1 ⟨rfl, rfl⟩; rw [hk])
      | (refine st_sr rfl rfl rfl rfl r2 rfl ?_; intro w2 r3 ho2 hs2))
    refine ret_row rfl rfl r3 und_sr rfl info_sr rfl ?_
    exact ⟨rfl, below_onto hB ho2 (by omega)⟩
  have hn := clk_true hk
  cases lead
  · have e : s.start false now = ⟨s.d, true, false, 8, 0, false⟩ := by simp [Sr.start, hsp, hok, hk]
    rw [e]
    go_enter Tryz.func155, Tryz.ntmps155
    go_wp2_with (first
      | (go_at_call 51; refine (serialOk_impl s _).mono ?_; rintro e w1 ⟨rfl, hb⟩; rw [hok]; obtain ⟨r1, r2, hB⟩ := box2 hb; clear hb; have c1 := r1.cell)
      | (go_at_call 116; refine (clockOk_impl _ _).mono ?_; rintro e w1 ⟨rfl, rfl⟩; rw [hk])
      | (refine st_port rfl rfl rfl rfl (Row.new _ _ _) rfl ?_; intro w2 r4 ho2 hs2; have r5 := (r2.alloc _).onto ho2 (Nat.ne_of_lt r2.lt); replace hB := below_onto (hB.alloc hB.size _) ho2 hB.size; have c4 := r4.cell; clear ho2 hs2)
      | (go_at_call 156; refine (serial_impl ⟨s.d, true, false, 8, 0, false⟩ _).mono ?_; rintro e w3 ⟨rfl, hb3⟩; replace r5 := r5.below hb3; replace hB := below_more hB hb3; rw [Sr.eta])
      | (refine st_sr rfl rfl rfl rfl r5 rfl ?_; intro w4 r6 ho4 hs4))
    refine ret_row rfl rfl r6 und_sr rfl info_sr rfl ?_
    exact ⟨rfl, below_onto hB ho4 (by omega)⟩
  cases hk2 : clk (now + 32)
  · rw [Sr.start_no (by simp [hsp, hk2])]
    go_enter Tryz.func155, Tryz.ntmps155
    go_wp2_with (first
      | (go_at_call 51; refine (serialOk_impl s _).mono ?_; rintro e w1 ⟨rfl, hb⟩; rw [hok]; obtain ⟨r1, r2, hB⟩ := box2 hb)
      | (go_at_call 116; refine (clockOk_impl _ _).mono ?_; rintro e w1 ⟨rfl, rfl⟩; first | rw [hk] | rw [hk2])
      | (refine st_sr rfl rfl rfl rfl r2 rfl ?_; intro w2 r3 ho2 hs2))
    refine ret_row rfl rfl r3 und_sr rfl info_sr rfl ?_
    exact ⟨rfl, below_onto hB ho2 (by omega)⟩
  · have e : s.start true now = ⟨s.d, true, true, 8, now + 32, false⟩ := by simp [Sr.start, hsp, hok, hk, hk2]
    rw [e]
    go_enter Tryz.func155, Tryz.ntmps155
    go_wp2_with (first
      | (go_at_call 51; refine (serialOk_impl s _).mono ?_; rintro e w1 ⟨rfl, hb⟩; rw [hok]; obtain ⟨r1, r2, hB⟩ := box2 hb; clear hb; have c1 := r1.cell)
      | (go_at_call 116; refine (clockOk_impl _ _).mono ?_; rintro e w1 ⟨rfl, rfl⟩; first | rw [hk] | rw [hk2])
      | (refine st_port rfl rfl rfl rfl (Row.new _ _ _) rfl ?_; intro w2 r4 ho2 hs2; have r5 := (r2.alloc _).onto ho2 (Nat.ne_of_lt r2.lt); have n5 : w.heap.size + 1 ≠ _ := Nat.ne_of_lt r2.lt; have hB0 := hB.size; replace hB := below_onto (hB.alloc hB.size _) ho2 hB.size; have c4 := r4.cell; clear ho2 hs2)
      | (refine st_int rfl rfl rfl rfl r4 info_i64 rfl ?_; intro w6 r7 ho6 hs6; simp only [List.setIfInBounds_toArray, List.set_cons_succ, List.set_cons_zero] at r7; replace r5 := r5.onto ho6 n5; replace hB := below_onto hB ho6 hB0; have c7 := r7.cell; clear ho6 hs6)
      | (go_at_call 156; refine (serial_impl ⟨s.d, true, true, 8, now + 32, false⟩ _).mono ?_; rintro e w3 ⟨rfl, hb3⟩; replace r5 := r5.below hb3; replace hB := below_more hB hb3; rw [Sr.eta])
      | (refine st_sr rfl rfl rfl rfl r5 rfl ?_; intro w4 r6 ho4 hs4))
    refine ret_row rfl rfl r6 und_sr rfl info_sr rfl ?_
    exact ⟨rfl, below_onto hB ho4 (by omega)⟩
end Go.Proofs.YtocofjimkfffeaaGreatDoor.Srl
