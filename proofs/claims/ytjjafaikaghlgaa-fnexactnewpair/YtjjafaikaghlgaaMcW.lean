/-
  A machine in a block of a call's own: made, read, written, handed back.
-/
import Derived.Test.YtjjafaikaghlgaaMc
namespace Go.Proofs.Ytjjafaikaghlgaa.Mem
open Go.ChangeShapes Go.WideShapes Go.RowKit Base Num Slc Rw Tmr Srl Rom RomOf
set_option linter.unusedVariables false
set_option maxRecDepth 20000

abbrev nil64 : Value := .slice none 0 0
/-- The machine's block. -/
abbrev MRow (w : World) (g : Nat) (x y : Value) (m : Mc) : Prop := Row w g (m.cells x y) 64
theorem cells_one {v : Value} (h : v.oneCell' = true) : v.cells.toList = [v] := by
  cases v <;> first | rfl | (simp [Value.oneCell'] at h)
theorem one_own {base : Nat} {w : World} {v : Value} {l : List Int} (h : Own base w v l) : v.oneCell' = true := one_sl h.sl
theorem all_one {x y : Value} (hx : x.oneCell' = true) (hy : y.oneCell' = true) (m : Mc) : (m.cells x y).all (·.oneCell') = true := by
  unfold Value.oneCell' at hx hy
  simp only [Mc.cells, List.all_toArray, List.all_cons, List.all_nil, Value.oneCell', hx, hy, Bool.and_true]
theorem info_s : (Try.prog.info? 37).map (·.size) = some 1 := by kernel_rfl
theorem info_i : (Try.prog.info? 2).map (·.size) = some 1 := by kernel_rfl
theorem info_b : (Try.prog.info? 4).map (·.size) = some 1 := by kernel_rfl
theorem info_t : (Try.prog.info? 60).map (·.size) = some 4 := by kernel_rfl
theorem info_p : (Try.prog.info? 62).map (·.size) = some 6 := by kernel_rfl
section
variable {ops : Array Oper} {rest : List Oper} {o : Oper} {a : Act} {w : World} {Q : Exit → Act → World → Prop} {x y : Operand} {g k : Nat} {T : TypeId} {v vr va : Value} {m : Mc}
/-- A new machine, all zero. -/
theorem al_mc (hgd : o.guard = none) (ho : o.op = .alloc 64)
    (h : ∀ w', MRow w' w.heap.size nil64 nil64 Mc.nul → Below w.heap.size w w' → wpList Try.prog ops Q rest (a.put o.dst (.pointer (some ⟨w.heap.size, 0, none⟩))) w') : wpList Try.prog ops Q (o :: rest) a w :=
  wpList_plain hgd fun _ hK => by
    have e : (execOp a.eval o).run Try.prog w = .ok (.value (.pointer (some ⟨w.heap.size, 0, none⟩))) (w.alloc (.cells (Mc.nul.cells nil64 nil64) 64)) := by
      unfold execOp
      rw [ho]
      simp [go_sem, Mc.cells, Mc.nul, Tm.nul, Sr.nul]
    unfold Oper.wp
    rw [e]
    exact hK _ _ (h _ (Row.new _ _ _) ((Below.refl _ _).alloc (Nat.le_refl _) _))
theorem box_m (hgd : o.guard = none) (ho : o.op = .box 64 x) (hx : a.eval x = m.val vr va)
    (h : ∀ w', MRow w' w.heap.size vr va m → Below w.heap.size w w' → wpList Try.prog ops Q rest (a.put o.dst (.pointer (some ⟨w.heap.size, 0, none⟩))) w') : wpList Try.prog ops Q (o :: rest) a w :=
  box_mc hgd ho hx (Cs.of vr va m) h
/-- The whole machine is read. -/
theorem ld_mc (hgd : o.guard = none) (ho : o.op = .load 64 x) (hx : a.eval x = .pointer (some ⟨g, 0, none⟩)) (hr : MRow w g vr va m)
    (h : wpList Try.prog ops Q rest (a.put o.dst (m.val vr va)) w) : wpList Try.prog ops Q (o :: rest) a w :=
  ld_row hgd _ x ho hx hr Try.underlying64 rfl info_mc h
/-- A machine is laid into a block. -/
theorem st_mc {m0 : Mc} {x0 y0 : Value} (hgd : o.guard = none) (ho : o.op = .store 64 x y) (hx : a.eval x = .pointer (some ⟨g, 0, none⟩)) (hy : a.eval y = m.val vr va) (hr : MRow w g x0 y0 m0) (h1 : vr.oneCell' = true) (h2 : va.oneCell' = true)
    (h : ∀ w', MRow w' g vr va m → Onto g w w' → w'.heap.size = w.heap.size → wpList Try.prog ops Q rest (a.put o.dst undef) w') : wpList Try.prog ops Q (o :: rest) a w :=
  st_row hgd _ x y ho hx hy hr info_mc rfl (all_one h1 h2 m) h
/-- A list is laid into its field. -/
theorem st_rom (hgd : o.guard = none) (ho : o.op = .store 37 x y) (hx : a.eval x = .pointer (some ⟨g, 0, none⟩)) (hy : a.eval y = v) (hr : MRow w g vr va m) (h1 : v.oneCell' = true) (l : List Int)
    (h : ∀ w', MRow w' g v va { m with rom := l } → Onto g w w' → w'.heap.size = w.heap.size → wpList Try.prog ops Q rest (a.put o.dst undef) w') : wpList Try.prog ops Q (o :: rest) a w :=
  st_in (vs := [v]) (cs' := Mc.cells v va { m with rom := l }) hgd ho hx hy hr (cells_one h1) info_s rfl (by simp [h1]) rfl h
theorem st_ram (hgd : o.guard = none) (ho : o.op = .store 37 x y) (hx : a.eval x = .pointer (some ⟨g, 1, none⟩)) (hy : a.eval y = v) (hr : MRow w g vr va m) (h1 : v.oneCell' = true) (l : List Int)
    (h : ∀ w', MRow w' g vr v { m with ram := l } → Onto g w w' → w'.heap.size = w.heap.size → wpList Try.prog ops Q rest (a.put o.dst undef) w') : wpList Try.prog ops Q (o :: rest) a w :=
  st_in (vs := [v]) (cs' := Mc.cells vr v { m with ram := l }) hgd ho hx hy hr (cells_one h1) info_s rfl (by simp [h1]) rfl h
/-- A number is laid into its field. -/
theorem st_num {z : Int} {m' : Mc} (hgd : o.guard = none) (ho : o.op = .store 2 x y) (hx : a.eval x = .pointer (some ⟨g, k, none⟩)) (hy : a.eval y = .int .i64 z) (hr : MRow w g vr va m) (hk : decide (k < 25) = true)
    (hcs : (m.cells vr va).setIfInBounds k (.int .i64 z) = m'.cells vr va)
    (h : ∀ w', MRow w' g vr va m' → Onto g w w' → w'.heap.size = w.heap.size → wpList Try.prog ops Q rest (a.put o.dst undef) w') : wpList Try.prog ops Q (o :: rest) a w :=
  st_in (vs := [.int .i64 z]) hgd ho hx hy hr rfl info_i (by rw [Mc.size]; exact hk) rfl hcs h
theorem st_yes {z : Bool} {m' : Mc} (hgd : o.guard = none) (ho : o.op = .store 4 x y) (hx : a.eval x = .pointer (some ⟨g, k, none⟩)) (hy : a.eval y = .bool z) (hr : MRow w g vr va m) (hk : decide (k < 25) = true)
    (hcs : (m.cells vr va).setIfInBounds k (.bool z) = m'.cells vr va)
    (h : ∀ w', MRow w' g vr va m' → Onto g w w' → w'.heap.size = w.heap.size → wpList Try.prog ops Q rest (a.put o.dst undef) w') : wpList Try.prog ops Q (o :: rest) a w :=
  st_in (vs := [.bool z]) hgd ho hx hy hr rfl info_b (by rw [Mc.size]; exact hk) rfl hcs h
/-- A port, or a timer, is laid into its field. -/
theorem st_port' {s : Sr} (hgd : o.guard = none) (ho : o.op = .store 62 x y) (hx : a.eval x = .pointer (some ⟨g, 18, none⟩)) (hy : a.eval y = s.val) (hr : MRow w g vr va m)
    (h : ∀ w', MRow w' g vr va { m with p := s } → Onto g w w' → w'.heap.size = w.heap.size → wpList Try.prog ops Q rest (a.put o.dst undef) w') : wpList Try.prog ops Q (o :: rest) a w :=
  st_in (vs := [.int .i64 s.d, .bool s.b, .bool s.l, .int .i64 s.n, .int .i64 s.x, .bool s.t]) (cs' := Mc.cells vr va { m with p := s }) hgd ho hx hy hr rfl info_p rfl rfl rfl h
theorem st_time' {t : Tm} (hgd : o.guard = none) (ho : o.op = .store 60 x y) (hx : a.eval x = .pointer (some ⟨g, 14, none⟩)) (hy : a.eval y = t.val) (hr : MRow w g vr va m)
    (h : ∀ w', MRow w' g vr va { m with t := t } → Onto g w w' → w'.heap.size = w.heap.size → wpList Try.prog ops Q rest (a.put o.dst undef) w') : wpList Try.prog ops Q (o :: rest) a w :=
  st_in (vs := [.int .i64 t.c, .int .i64 t.v, .int .i64 t.s, .int .i64 t.m]) (cs' := Mc.cells vr va { m with t := t }) hgd ho hx hy hr rfl info_t rfl rfl rfl h
theorem ld_time (hgd : o.guard = none) (ho : o.op = .load 60 x) (hx : a.eval x = .pointer (some ⟨g, 14, none⟩)) (hr : MRow w g vr va m) (h : wpList Try.prog ops Q rest (a.put o.dst m.t.val) w) : wpList Try.prog ops Q (o :: rest) a w :=
  ld_t hgd ho hx hr (Cs.of vr va m) h
theorem ld_ser (hgd : o.guard = none) (ho : o.op = .load 62 x) (hx : a.eval x = .pointer (some ⟨g, 18, none⟩)) (hr : MRow w g vr va m) (h : wpList Try.prog ops Q rest (a.put o.dst m.p.val) w) : wpList Try.prog ops Q (o :: rest) a w :=
  ld_p hgd ho hx hr (Cs.of vr va m) h
theorem ret_mc {fn : Func} {R : Ending → World → Prop} {q : Tmp} (h : fn.results = #[.cell q 64]) (hp : a.tmps.getD q undef = .pointer (some ⟨g, 0, none⟩)) (hr : MRow w g vr va m) (hde : a.defers = []) (hR : R (.returned (m.val vr va)) w) :
    bodyPost Try.prog fn R .ret a w := ret_row h hp hr Try.underlying64 rfl info_mc hde hR
end
theorem cw {w : World} {g : Nat} {vr va : Value} {m : Mc} (h : MRow w g vr va m) : Cw w g vr va m := (Cs.of vr va m).at h
end Go.Proofs.Ytjjafaikaghlgaa.Mem
