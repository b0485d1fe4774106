/-
  What FnSteps leans on: part 5.
-/
import Derived.WalkMore
import Derived.Test.YtamldhflkfbdnaaGreatDoorRows
import Derived.WalkKit
import Derived.WalkLawsBesides
import Derived.Deep.QuietTactic
import Derived.BigQuiet
import Derived.RegionTactic
import Derived.Test.YtamldhflkfbdnaaGreatDoorStsP1
import Derived.Test.YtamldhflkfbdnaaGreatDoorStsP2
import Derived.Test.YtamldhflkfbdnaaGreatDoorStsP3
import Derived.Test.YtamldhflkfbdnaaGreatDoorStsP4
set_option linter.unusedVariables false
set_option linter.unusedSimpArgs false
set_option maxRecDepth 20000
namespace Go.Proofs.YtamldhflkfbdnaaGreatDoor.Mem
open Go.ChangeShapes Go.WideShapes Go.RowKit Base Num Slc Slf Rw Tmr Srl Rom Opl Reg

def xW (x y vo ve : Value) (s : St) : Array Value := #[x, y, .int .i64 s.m.a, .int .i64 s.m.b, .int .i64 s.m.pc, .int .i64 s.m.sp, .bool s.m.z, .bool s.m.c, .bool s.m.e, .bool s.m.h, .bool s.m.s, .int .i64 s.m.fl, .int .i64 s.m.ms, .int .i64 s.m.ky,
 .int .i64 s.m.t.c, .int .i64 s.m.t.v, .int .i64 s.m.t.s, .int .i64 s.m.t.m, .int .i64 s.m.p.d, .bool s.m.p.b, .bool s.m.p.l, .int .i64 s.m.p.n, .int .i64 s.m.p.x, .bool s.m.p.t, .int .i64 s.m.k, vo, ve, .int .i64 s.u]
def St.val (x y vo ve : Value) (s : St) : Value := .agg (xW x y vo ve s)
abbrev SRow (w : World) (g : Nat) (x y vo ve : Value) (s : St) : Prop := Row w g (xW x y vo ve s) 36
theorem zBo : (Tryz.prog.info? 36).map (·.size) = some 28 := by kernel_rfl
theorem zWc (x y vo ve : Value) (s : St) : (xW x y vo ve s).size = 28 := rfl
structure Sw (w : World) (g : Nat) (vo ve : Value) (s : St) : Prop where
 fl : w.cell? ⟨g, 11, none⟩ = some (.int .i64 s.m.fl)
 pd : w.cell? ⟨g, 18, none⟩ = some (.int .i64 s.m.p.d)
 px : w.cell? ⟨g, 22, none⟩ = some (.int .i64 s.m.p.x)
 k : w.cell? ⟨g, 24, none⟩ = some (.int .i64 s.m.k)
 o : w.cell? ⟨g, 25, none⟩ = some vo
 e : w.cell? ⟨g, 26, none⟩ = some ve
 u : w.cell? ⟨g, 27, none⟩ = some (.int .i64 s.u)
theorem sw {w : World} {g : Nat} {x y vo ve : Value} {s : St} (h : SRow w g x y vo ve s) : Sw w g vo ve s := ⟨h.cell 11, h.cell 18, h.cell 22, h.cell 24, h.cell 25, h.cell 26, h.cell 27⟩
theorem zLh (x y vo ve : Value) (s : St) : (xW x y vo ve s).extract 0 (0 + (s.m.cells x y).size) = s.m.cells x y := by kernel_rfl
theorem zVe (x y vo ve : Value) (s : St) (x' y' : Value) (m' : Mc) : spl (m'.cells x' y').toList 0 (xW x y vo ve s) = xW x' y' vo ve { s with m := m' } := by kernel_rfl
theorem zQt (x y vo ve : Value) (s : St) : (xW x y vo ve s).extract 18 (18 + 6) = #[.int .i64 s.m.p.d, .bool s.m.p.b, .bool s.m.p.l, .int .i64 s.m.p.n, .int .i64 s.m.p.x, .bool s.m.p.t] := by kernel_rfl
theorem zQs (x y vo ve : Value) (s : St) : (xW x y vo ve s).extract 14 (14 + 4) = #[.int .i64 s.m.t.c, .int .i64 s.m.t.v, .int .i64 s.m.t.s, .int .i64 s.m.t.m] := by kernel_rfl
theorem zLl {x y vo ve : Value} (hx : x.oneCell' = true) (hy : y.oneCell' = true) (ho : vo.oneCell' = true) (he : ve.oneCell' = true) (s : St) : (xW x y vo ve s).all (·.oneCell') = true := by
 unfold Value.oneCell' at hx hy ho he
 simp only [xW, List.all_toArray, List.all_cons, List.all_nil, Value.oneCell', hx, hy, ho, he, Bool.and_true]
theorem zS0 : Tryz.prog.built 36 [] = some (xW zY zY zY zY St.nul) := by kernel_rfl
theorem zSz (x y : Value) (m : Mc) : Tryz.prog.built 36 [(0, m.val x y)] = some (xW x y zY zY ⟨m, [], [], 0⟩) := by kernel_rfl
section
variable {ops : Array Oper} {rest : List Oper} {op : Oper} {a : Act} {w : World} {Q : Exit → Act → World → Prop} {p q : Operand} {g k : Nat} {T : TypeId} {v x y vo ve : Value} {s : St}
theorem xV (hgd : op.guard = none) (ho : op.op = .alloc 36)
  (h : ∀ w', SRow w' w.heap.size zY zY zY zY St.nul → Below w.heap.size w w' → wpList Tryz.prog ops Q rest (a.put op.dst (.pointer (some ⟨w.heap.size, 0, none⟩))) w') : wpList Tryz.prog ops Q (op :: rest) a w :=
 wpList_plain hgd fun _ hK => by
  have e : (execOp a.eval op).run Tryz.prog w = .ok (.value (.pointer (some ⟨w.heap.size, 0, none⟩))) (w.alloc (.cells (xW zY zY zY zY St.nul) 36)) := by
   unfold execOp
   rw [ho]
   kernel_rfl
  unfold Oper.wp
  rw [e]
  exact hK _ _ (h _ (Row.new _ _ _) ((Below.refl _ _).alloc (Nat.le_refl _) _))
theorem zEt (hgd : op.guard = none) (ho : op.op = .box 36 p) (hx : a.eval p = s.val x y vo ve)
  (h : ∀ w', SRow w' w.heap.size x y vo ve s → Below w.heap.size w w' → wpList Tryz.prog ops Q rest (a.put op.dst (.pointer (some ⟨w.heap.size, 0, none⟩))) w') : wpList Tryz.prog ops Q (op :: rest) a w :=
 wpList_plain hgd fun _ hK => by
  have e : (Instr.box 36 (s.val x y vo ve)).run Tryz.prog w = .ok (.pointer (some ⟨w.heap.size, 0, none⟩)) (w.alloc (.cells (xW x y vo ve s) 36)) := rfl
  unfold Oper.wp execOp
  simp only [ho, hx, Sem.run_bind, Result.andThen_ok, e]
  exact hK _ _ (h _ (Row.new _ _ _) ((Below.refl _ _).alloc (Nat.le_refl _) _))
theorem zFr (hgd : op.guard = none) (ho : op.op = .build 36 #[]) (h : wpList Tryz.prog ops Q rest (a.put op.dst (St.nul.val zY zY zY zY)) w) : wpList Tryz.prog ops Q (op :: rest) a w :=
 wpList_plain hgd fun _ hK => zAr (parts := []) (vals := []) ho rfl zS0 (hK _ _ h)
theorem zEu {m : Mc} (hgd : op.guard = none) (ho : op.op = .build 36 #[(0, p)]) (hp : a.eval p = m.val x y) (h : wpList Tryz.prog ops Q rest (a.put op.dst (St.val x y zY zY ⟨m, [], [], 0⟩)) w) : wpList Tryz.prog ops Q (op :: rest) a w :=
 wpList_plain hgd fun _ hK => zAr (parts := [(0, p)]) (vals := [(0, m.val x y)]) ho (by simp only [List.map_cons, List.map_nil, hp]) (zSz x y m) (hK _ _ h)
theorem vP (hgd : op.guard = none) (ho : op.op = .load 36 p) (hx : a.eval p = .pointer (some ⟨g, 0, none⟩)) (hr : SRow w g x y vo ve s)
  (h : wpList Tryz.prog ops Q rest (a.put op.dst (s.val x y vo ve)) w) : wpList Tryz.prog ops Q (op :: rest) a w :=
 zF9 hgd _ p ho hx hr Tryz.underlying36 rfl zBo h
theorem st_s {x0 y0 o0 e0 : Value} {s0 : St} (hgd : op.guard = none) (ho : op.op = .store 36 p q) (hx : a.eval p = .pointer (some ⟨g, 0, none⟩)) (hy : a.eval q = s.val x y vo ve) (hr : SRow w g x0 y0 o0 e0 s0) (h1 : x.oneCell' = true) (h2 : y.oneCell' = true) (h3 : vo.oneCell' = true) (h4 : ve.oneCell' = true)
  (h : ∀ w', SRow w' g x y vo ve s → Onto g w w' → w'.heap.size = w.heap.size → wpList Tryz.prog ops Q rest (a.put op.dst undef) w') : wpList Tryz.prog ops Q (op :: rest) a w :=
 zBf hgd _ p q ho hx hy hr zBo rfl (zLl h1 h2 h3 h4 s) h
theorem zNa {K : Act → World → Prop} {x0 y0 o0 e0 : Value} {s0 : St} (ho : op.op = .store 36 p q) (hx : a.eval p = .pointer (some ⟨g, 0, none⟩)) (hy : a.eval q = s.val x y vo ve) (hr : SRow w g x0 y0 o0 e0 s0) (h1 : x.oneCell' = true) (h2 : y.oneCell' = true) (h3 : vo.oneCell' = true) (h4 : ve.oneCell' = true)
  (h : ∀ w', SRow w' g x y vo ve s → Onto g w w' → K (a.put op.dst undef) w') : op.wp Tryz.prog a w K Q := by
 exact wp_store_row _ _ _ ho g (xW x y vo ve s) hx hy _ _ hr.row zBo rfl (zLl h1 h2 h3 h4 s)
  (h _ (Row.of (setRow_heap w g (xW x0 y0 o0 e0 s0) (xW x y vo ve s) _ _ hr.row)) ⟨rfl, rfl, rfl, by simp, fun k hk _ => setRow_other w g k _ hk⟩)
theorem zJ1 (hgd : op.guard = none) (ho : op.op = .load 30 p) (hx : a.eval p = .pointer (some ⟨g, 0, none⟩)) (hr : SRow w g x y vo ve s)
  (h : wpList Tryz.prog ops Q rest (a.put op.dst (s.m.val x y)) w) : wpList Tryz.prog ops Q (op :: rest) a w :=
 zJ2 (cs' := s.m.cells x y) hgd ho hx hr Tryz.underlying30 rfl (zLh x y vo ve s) jB h
theorem zH7 (hgd : op.guard = none) (ho : op.op = .load 28 p) (hx : a.eval p = .pointer (some ⟨g, 18, none⟩)) (hr : SRow w g x y vo ve s)
  (h : wpList Tryz.prog ops Q rest (a.put op.dst s.m.p.val) w) : wpList Tryz.prog ops Q (op :: rest) a w :=
 zJ2 (cs' := #[.int .i64 s.m.p.d, .bool s.m.p.b, .bool s.m.p.l, .int .i64 s.m.p.n, .int .i64 s.m.p.x, .bool s.m.p.t]) hgd ho hx hr Tryz.underlying28 rfl (zQt x y vo ve s) (by kernel_rfl) h
theorem zJ0 (hgd : op.guard = none) (ho : op.op = .load 26 p) (hx : a.eval p = .pointer (some ⟨g, 14, none⟩)) (hr : SRow w g x y vo ve s)
  (h : wpList Tryz.prog ops Q rest (a.put op.dst s.m.t.val) w) : wpList Tryz.prog ops Q (op :: rest) a w :=
 zJ2 (cs' := #[.int .i64 s.m.t.c, .int .i64 s.m.t.v, .int .i64 s.m.t.s, .int .i64 s.m.t.m]) hgd ho hx hr Tryz.underlying26 rfl (zQs x y vo ve s) (by kernel_rfl) h
theorem zJn {m' : Mc} {x' y' : Value} (hgd : op.guard = none) (ho : op.op = .store 30 p q) (hx : a.eval p = .pointer (some ⟨g, 0, none⟩)) (hy : a.eval q = m'.val x' y') (hr : SRow w g x y vo ve s) (h1 : x'.oneCell' = true) (h2 : y'.oneCell' = true)
  (h : ∀ w', SRow w' g x' y' vo ve { s with m := m' } → Onto g w w' → w'.heap.size = w.heap.size → wpList Tryz.prog ops Q rest (a.put op.dst undef) w') : wpList Tryz.prog ops Q (op :: rest) a w :=
 vG (vs := (m'.cells x' y').toList) (cs' := xW x' y' vo ve { s with m := m' }) hgd ho hx hy hr rfl jB rfl (by have := zDj h1 h2 m'; simpa using this) (zVe x y vo ve s x' y' m') h
theorem zCd {z : Int} {s' : St} (hgd : op.guard = none) (ho : op.op = .store 2 p q) (hx : a.eval p = .pointer (some ⟨g, k, none⟩)) (hy : a.eval q = .int .i64 z) (hr : SRow w g x y vo ve s) (hk : decide (k < 28) = true)
  (hcs : (xW x y vo ve s).setIfInBounds k (.int .i64 z) = xW x y vo ve s')
  (h : ∀ w', SRow w' g x y vo ve s' → Onto g w w' → w'.heap.size = w.heap.size → wpList Tryz.prog ops Q rest (a.put op.dst undef) w') : wpList Tryz.prog ops Q (op :: rest) a w :=
 vG (vs := [.int .i64 z]) hgd ho hx hy hr rfl zBb (by rw [zWc]; exact hk) rfl hcs h
theorem zHm {r : Sr} (hgd : op.guard = none) (ho : op.op = .store 28 p q) (hx : a.eval p = .pointer (some ⟨g, 18, none⟩)) (hy : a.eval q = r.val) (hr : SRow w g x y vo ve s)
  (h : ∀ w', SRow w' g x y vo ve (s.port r) → Onto g w w' → w'.heap.size = w.heap.size → wpList Tryz.prog ops Q rest (a.put op.dst undef) w') : wpList Tryz.prog ops Q (op :: rest) a w :=
 vG (vs := [.int .i64 r.d, .bool r.b, .bool r.l, .int .i64 r.n, .int .i64 r.x, .bool r.t]) (cs' := xW x y vo ve (s.port r)) hgd ho hx hy hr rfl zD4 rfl rfl (by kernel_rfl) h
theorem zJm {t : Tm} (hgd : op.guard = none) (ho : op.op = .store 26 p q) (hx : a.eval p = .pointer (some ⟨g, 14, none⟩)) (hy : a.eval q = t.val) (hr : SRow w g x y vo ve s)
  (h : ∀ w', SRow w' g x y vo ve { s with m := { s.m with t := t } } → Onto g w w' → w'.heap.size = w.heap.size → wpList Tryz.prog ops Q rest (a.put op.dst undef) w') : wpList Tryz.prog ops Q (op :: rest) a w :=
 vG (vs := [.int .i64 t.c, .int .i64 t.v, .int .i64 t.s, .int .i64 t.m]) (cs' := xW x y vo ve { s with m := { s.m with t := t } }) hgd ho hx hy hr rfl zE2 rfl rfl (by kernel_rfl) h
theorem zLc {l : List M3} (hgd : op.guard = none) (ho : op.op = .store 31 p q) (hx : a.eval p = .pointer (some ⟨g, 25, none⟩)) (hy : a.eval q = v) (hr : SRow w g x y vo ve s) (h1 : v.oneCell' = true)
  (h : ∀ w', SRow w' g x y v ve { s with o := l } → Onto g w w' → w'.heap.size = w.heap.size → wpList Tryz.prog ops Q rest (a.put op.dst undef) w') : wpList Tryz.prog ops Q (op :: rest) a w :=
 vG (vs := [v]) (cs' := xW x y v ve { s with o := l }) hgd ho hx hy hr (cells_one h1) (by kernel_rfl) rfl (by simp [h1]) rfl h
theorem zHn {l : List M3} (hgd : op.guard = none) (ho : op.op = .store 34 p q) (hx : a.eval p = .pointer (some ⟨g, 26, none⟩)) (hy : a.eval q = v) (hr : SRow w g x y vo ve s) (h1 : v.oneCell' = true)
  (h : ∀ w', SRow w' g x y vo v { s with e := l } → Onto g w w' → w'.heap.size = w.heap.size → wpList Tryz.prog ops Q rest (a.put op.dst undef) w') : wpList Tryz.prog ops Q (op :: rest) a w :=
 vG (vs := [v]) (cs' := xW x y vo v { s with e := l }) hgd ho hx hy hr (cells_one h1) (by kernel_rfl) rfl (by simp [h1]) rfl h
theorem zDu {fn : Func} {R : Ending → World → Prop} {q : Tmp} (h : fn.results = #[.cell q 36]) (hp : a.tmps.getD q undef = .pointer (some ⟨g, 0, none⟩)) (hr : SRow w g x y vo ve s) (hde : a.defers = []) (hR : R (.returned (s.val x y vo ve)) w) :
  bodyPost Tryz.prog fn R .ret a w := qQ h hp hr Tryz.underlying36 rfl zBo hde hR
theorem vQ {fn : Func} {R : Ending → World → Prop} {q u : Tmp} {z : Value} (h : fn.results = #[.cell q 36, .tmp u]) (hp : a.tmps.getD q undef = .pointer (some ⟨g, 0, none⟩)) (hr : SRow w g x y vo ve s) (hde : a.defers = []) (hv : a.tmps.getD u undef = z) (hR : R (.returned (.tuple #[s.val x y vo ve, z])) w) :
  bodyPost Tryz.prog fn R .ret a w := qN h hp hr Tryz.underlying36 rfl zBo hde hv hR
end
end Go.Proofs.YtamldhflkfbdnaaGreatDoor.Mem
namespace Go.Proofs.YtamldhflkfbdnaaGreatDoor.Mem
open Go.ChangeShapes Go.WideShapes Go.RowKit Base Num Slc Rw Tmr Srl Rom RomOf Ex

end Go.Proofs.YtamldhflkfbdnaaGreatDoor.Mem
namespace Go.Proofs.YtamldhflkfbdnaaGreatDoor.Mem
open Go.ChangeShapes Go.WideShapes Go.RowKit Base Num Slc Rw Tmr Srl Rom RomOf Opl Reg

def jE (x y : Value) (m : Mc) (n o : Int) : Array Value := #[x, y, .int .i64 m.a, .int .i64 m.b, .int .i64 m.pc, .int .i64 m.sp, .bool m.z, .bool m.c, .bool m.e, .bool m.h, .bool m.s, .int .i64 m.fl, .int .i64 m.ms, .int .i64 m.ky,
 .int .i64 m.t.c, .int .i64 m.t.v, .int .i64 m.t.s, .int .i64 m.t.m, .int .i64 m.p.d, .bool m.p.b, .bool m.p.l, .int .i64 m.p.n, .int .i64 m.p.x, .bool m.p.t, .int .i64 m.k, .int .i64 n, .int .i64 o]
abbrev DRow (w : World) (g : Nat) (x y : Value) (m : Mc) (n o : Int) : Prop := Row w g (jE x y m n o) 220
theorem zOi : (Tryz.prog.info? 220).map (·.size) = some 27 := by kernel_rfl
theorem zSo (x y : Value) (m : Mc) (n o : Int) : (jE x y m n o).size = 27 := rfl
structure Dw (w : World) (g : Nat) (x y : Value) (m : Mc) (n o : Int) : Prop where
 a : w.cell? ⟨g, 2, none⟩ = some (.int .i64 m.a)
 b : w.cell? ⟨g, 3, none⟩ = some (.int .i64 m.b)
 pc : w.cell? ⟨g, 4, none⟩ = some (.int .i64 m.pc)
 sp : w.cell? ⟨g, 5, none⟩ = some (.int .i64 m.sp)
 z : w.cell? ⟨g, 6, none⟩ = some (.bool m.z)
 c : w.cell? ⟨g, 7, none⟩ = some (.bool m.c)
 n : w.cell? ⟨g, 25, none⟩ = some (.int .i64 n)
 o : w.cell? ⟨g, 26, none⟩ = some (.int .i64 o)
theorem dw {w : World} {g : Nat} {x y : Value} {m : Mc} {n o : Int} (h : DRow w g x y m n o) : Dw w g x y m n o :=
 ⟨h.cell 2, h.cell 3, h.cell 4, h.cell 5, h.cell 6, h.cell 7, h.cell 25, h.cell 26⟩
structure DSt (base : Nat) (w : World) (g : Nat) (x y : Value) (m : Mc) (n o : Int) : Prop where
 row : DRow w g x y m n o
 hx : Own base w x m.rom
 hy : Own base w y m.ram
 ap : ∀ k, x.ownBlock = some k → y.ownBlock ≠ some k
 gx : x.ownBlock ≠ some g
 gy : y.ownBlock ≠ some g
 hb : base ≤ g
theorem DSt.below {base : Nat} {w w' : World} {g : Nat} {x y : Value} {m : Mc} {n o : Int} (h : DSt base w g x y m n o) (hb : Below w.heap.size w w') : DSt base w' g x y m n o :=
 { h with row := h.row.below hb, hx := h.hx.below hb, hy := h.hy.below hb }
theorem DSt.drew {base : Nat} {w : World} {g : Nat} {x y : Value} {m : Mc} {n o : Int} (h : DSt base w g x y m n o) : DSt base w.drew g x y m n o :=
 { h with row := h.row.drewN 1, hx := h.hx.drewN 1, hy := h.hy.drewN 1 }
theorem DSt.set {base : Nat} {w w' : World} {g : Nat} {x y : Value} {m m' : Mc} {n n' o o' : Int} (h : DSt base w g x y m n o) (hr : DRow w' g x y m' n' o') (ho : Onto g w w') (h1 : m'.rom = m.rom) (h2 : m'.ram = m.ram) : DSt base w' g x y m' n' o' :=
 ⟨hr, h1 ▸ h.hx.onto ho h.gx, h2 ▸ h.hy.onto ho h.gy, h.ap, h.gx, h.gy, h.hb⟩
theorem DSt.sl {base : Nat} {w : World} {g : Nat} {x y : Value} {m : Mc} {n o : Int} (h : DSt base w g x y m n o) : MSl w (m.val x y) m := ⟨x, y, rfl, h.hx.sl, h.hy.sl⟩
theorem zMv (x y : Value) (m : Mc) (n o : Int) : (jE x y m n o).extract 0 (0 + (m.cells x y).size) = m.cells x y := by kernel_rfl
theorem zVx (x y : Value) (m : Mc) (n o : Int) (x' y' : Value) (m' : Mc) : spl (m'.cells x' y').toList 0 (jE x y m n o) = jE x' y' m' n o := by kernel_rfl
theorem zZ {fn : Func} {R : Ending → World → Prop} {a : Act} {w : World} (h : fn.results = #[]) (hde : a.defers = []) (hR : R (.returned (.tuple #[])) w) : bodyPost Tryz.prog fn R .normal a w :=
 bodyPost_end (results_none h a.tmps Tryz.prog w) hde hR
section
variable {ops : Array Oper} {rest : List Oper} {op : Oper} {a : Act} {w : World} {Q : Exit → Act → World → Prop} {p q : Operand} {g k : Nat} {T : TypeId} {v x y : Value} {m : Mc} {n o : Int}
theorem zRo (hgd : op.guard = none) (ho : op.op = .load 30 p) (hx : a.eval p = .pointer (some ⟨g, 0, none⟩)) (hr : DRow w g x y m n o)
  (h : wpList Tryz.prog ops Q rest (a.put op.dst (m.val x y)) w) : wpList Tryz.prog ops Q (op :: rest) a w :=
 zJ2 (cs' := m.cells x y) hgd ho hx hr Tryz.underlying30 rfl (zMv x y m n o) jB h
theorem zUs {m' : Mc} {x' y' : Value} (hgd : op.guard = none) (ho : op.op = .store 30 p q) (hx : a.eval p = .pointer (some ⟨g, 0, none⟩)) (hy : a.eval q = m'.val x' y') (hr : DRow w g x y m n o) (h1 : x'.oneCell' = true) (h2 : y'.oneCell' = true)
  (h : ∀ w', DRow w' g x' y' m' n o → Onto g w w' → w'.heap.size = w.heap.size → wpList Tryz.prog ops Q rest (a.put op.dst undef) w') : wpList Tryz.prog ops Q (op :: rest) a w :=
 vG (vs := (m'.cells x' y').toList) (cs' := jE x' y' m' n o) hgd ho hx hy hr rfl jB rfl (by have := zDj h1 h2 m'; simpa using this) (zVx x y m n o x' y' m') h
theorem zBd {z n' o' : Int} {m' : Mc} (hgd : op.guard = none) (ho : op.op = .store 2 p q) (hx : a.eval p = .pointer (some ⟨g, k, none⟩)) (hy : a.eval q = .int .i64 z) (hr : DRow w g x y m n o) (hk : decide (k < 27) = true)
  (hcs : (jE x y m n o).setIfInBounds k (.int .i64 z) = jE x y m' n' o')
  (h : ∀ w', DRow w' g x y m' n' o' → Onto g w w' → w'.heap.size = w.heap.size → wpList Tryz.prog ops Q rest (a.put op.dst undef) w') : wpList Tryz.prog ops Q (op :: rest) a w :=
 vG (vs := [.int .i64 z]) hgd ho hx hy hr rfl zBb (by rw [zSo]; exact hk) rfl hcs h
theorem zJo {z : Bool} {m' : Mc} (hgd : op.guard = none) (ho : op.op = .store 4 p q) (hx : a.eval p = .pointer (some ⟨g, k, none⟩)) (hy : a.eval q = .bool z) (hr : DRow w g x y m n o) (hk : decide (k < 27) = true)
  (hcs : (jE x y m n o).setIfInBounds k (.bool z) = jE x y m' n o)
  (h : ∀ w', DRow w' g x y m' n o → Onto g w w' → w'.heap.size = w.heap.size → wpList Tryz.prog ops Q rest (a.put op.dst undef) w') : wpList Tryz.prog ops Q (op :: rest) a w :=
 vG (vs := [.bool z]) hgd ho hx hy hr rfl zR6 (by rw [zSo]; exact hk) rfl hcs h
end
section
variable {op : Oper} {a : Act} {w : World} {K : Act → World → Prop} {Q : Exit → Act → World → Prop} {p q : Operand} {g k : Nat} {x y : Value} {m : Mc} {n o : Int}
theorem zQv {z n' o' : Int} {m' : Mc} (ho : op.op = .store 2 p q) (hx : a.eval p = .pointer (some ⟨g, k, none⟩)) (hy : a.eval q = .int .i64 z) (hr : DRow w g x y m n o) (hk : decide (k < 27) = true)
  (hcs : (jE x y m n o).setIfInBounds k (.int .i64 z) = jE x y m' n' o')
  (h : ∀ w', DRow w' g x y m' n' o' → Onto g w w' → K (a.put op.dst undef) w') : op.wp Tryz.prog a w K Q := by
 unfold Oper.wp execOp
 have ht : w.there g k 1 := hr.there k 1 (by rw [zSo]; have := of_decide_eq_true hk; omega)
 simp only [ho, hx, hy, Instr.storeAt, Instr.sureAddr, Sem.run_bind, Sem.run_pure, Result.andThen_ok, zA6 w g k 2 (.int .i64 z) [.int .i64 z] rfl ht zBb rfl]
 have h1 : Row (w.setCell ⟨g, k, none⟩ (.int .i64 z)) g (jE x y m' n' o') 220 := by
  rw [← hcs]; exact hr.set k (.int .i64 z)
 exact h _ h1 ((Onto.refl g w).setCell rfl _)
theorem zLx (ho : op.op = .load 30 p) (hx : a.eval p = .pointer (some ⟨g, 0, none⟩)) (hr : DRow w g x y m n o) (h : K (a.put op.dst (m.val x y)) w) : op.wp Tryz.prog a w K Q :=
 zFj (cs' := m.cells x y) ho hx hr Tryz.underlying30 rfl (zMv x y m n o) jB h
end
def Done (base : Nat) (w w' : World) (g : Nat) (m : Mc) (n o : Int) : Prop := ∃ x y, DSt base w' g x y m n o ∧ Onto g w w'
theorem Done.mk {base : Nat} {w w' : World} {g : Nat} {x y : Value} {m : Mc} {n o : Int} (h : DSt base w' g x y m n o) (ho : Onto g w w') : Done base w w' g m n o := ⟨x, y, h, ho⟩
theorem zD9 {g : Nat} {w w' : World} (h : Below w.heap.size w w') : Onto g w w' := ⟨h.os, h.tape, h.output, h.size, fun k _ hk => h.block k hk⟩
theorem zAg (q n : Int) (w : World) :
  Calls Tryz.prog 205 #[.int .i64 q, .int .i64 n] w fun e w' => e = .returned (.int .i64 (addB q n)) ∧ w' = w := by
 go_enter Tryz.func205, Tryz.ntmps205
 go_wp2_with (go_at_call 246; refine (zAk _ _ _).mono ?_; rintro e w1 ⟨rfl, rfl⟩)
 go_ret
 exact ⟨rfl, rfl⟩
section
variable {base : Nat} {w : World} {g : Nat} {x y : Value} {m : Mc} {n o : Int}
theorem zF6 (h : DSt base w g x y m n o) (z : Int) (c : Bool) :
  Calls Tryz.prog 263 #[.pointer (some ⟨g, 0, none⟩), .int .i64 z, .bool c] w fun e w' => e = .returned (.tuple #[]) ∧ Done base w w' g (m.cmp z c) n o := by
 go_enter Tryz.func263, Tryz.ntmps263
 go_wp2_with (first
  | (refine zJo (m' := { m with z := z == 0 }) rfl rfl rfl rfl h.row rfl rfl ?_; intro w1 r1 o1 s1; have h1 := h.set r1 o1 rfl rfl)
  | (refine zJo (m' := m.cmp z c) rfl rfl rfl rfl r1 rfl rfl ?_; intro w2 r2 o2 s2))
 refine zZ rfl rfl ?_
 exact ⟨rfl, .mk (h1.set r2 o2 rfl rfl) (o1.trans o2)⟩
theorem zAw (h : DSt base w g x y m n o) (z : Int) (c : Bool) :
  Calls Tryz.prog 258 #[.pointer (some ⟨g, 0, none⟩), .int .i64 z, .bool c] w fun e w' => e = .returned (.tuple #[]) ∧ Done base w w' g (m.alu z c) n o := by
 go_enter Tryz.func258, Tryz.ntmps258
 go_wp2_with (first
  | (refine zBd (m' := { m with a := z }) (n' := n) (o' := o) rfl rfl rfl rfl h.row rfl rfl ?_; intro w1 r1 o1 s1; have h1 := h.set r1 o1 rfl rfl)
  | (go_at_call 263; refine (zF6 h1 _ _).mono ?_; rintro e w2 ⟨rfl, x2, y2, h2, o2⟩))
 refine zZ rfl rfl ?_
 exact ⟨rfl, .mk h2 (o1.trans o2)⟩
theorem zGx (h : DSt base w g x y m n o) (z : Int) (c : Bool) :
  Calls Tryz.prog 271 #[.pointer (some ⟨g, 0, none⟩), .int .i64 z, .bool c] w fun e w' => e = .returned (.tuple #[]) ∧ Done base w w' g (m.cntB z) n o := by
 go_enter Tryz.func271, Tryz.ntmps271
 go_wp2_with (first
  | (refine zBd (m' := { m with b := z }) (n' := n) (o' := o) rfl rfl rfl rfl h.row rfl rfl ?_; intro w1 r1 o1 s1; have h1 := h.set r1 o1 rfl rfl)
  | (go_at_call 263; refine (zF6 h1 _ _).mono ?_; rintro e w2 ⟨rfl, x2, y2, h2, o2⟩))
 refine zZ rfl rfl ?_
 exact ⟨rfl, .mk h2 (o1.trans o2)⟩
theorem zA9 (h : DSt base w g x y m n o) (c : Bool) :
  Calls Tryz.prog 274 #[.pointer (some ⟨g, 0, none⟩), .bool c] w fun e w' => e = .returned (.tuple #[]) ∧ Done base w w' g (m.jmp n c) n o := by
 have hc := (dw h.row).n
 cases c
 ·go_enter Tryz.func274, Tryz.ntmps274
  go_wp2
  refine zZ rfl rfl ?_
  exact ⟨rfl, .mk h (Onto.refl _ _)⟩
 ·go_enter Tryz.func274, Tryz.ntmps274
  go_wp2_with (refine zBd (m' := { m with pc := n }) (n' := n) (o' := o) rfl rfl rfl rfl h.row rfl rfl ?_; intro w1 r1 o1 s1)
  refine zZ rfl rfl ?_
  exact ⟨rfl, .mk (h.set r1 o1 rfl rfl) o1⟩
theorem DSt.other {w1 w2 : World} {x' y' : Value} {m' : Mc} {n' o' : Int} (h : DSt base w g x y m n o) (hm : MOwn w.heap.size w1 (m'.val x' y') m') (hr : DRow w2 g x' y' m' n' o') (ho : Onto g w1 w2) : DSt base w2 g x' y' m' n' o' := by
 obtain ⟨vr, va, e, h1, h2, h3⟩ := hm
 have hg := h.row.lt
 have hb := h.hb
 have e1 : vr = x' ∧ va = y' := by
  simp only [Mc.val, Mc.cells, Value.agg.injEq] at e
  injection e with e
  injection e with e1 e
  injection e with e2 e
  exact ⟨e1.symm, e2.symm⟩
 obtain ⟨rfl, rfl⟩ := e1
 have g1 : vr.ownBlock ≠ some g := fun e => by have := (h1.lt _ e).1; omega
 have g2 : va.ownBlock ≠ some g := fun e => by have := (h2.lt _ e).1; omega
 exact ⟨hr, (h1.onto ho g1).mono (by omega), (h2.onto ho g2).mono (by omega), h3, g1, g2, hb⟩
theorem zDb (h : DSt base w g x y m n o) (q z : Int) :
  Calls Tryz.prog 254 #[.pointer (some ⟨g, 0, none⟩), .int .i64 q, .int .i64 z] w fun e w' => e = .returned (.tuple #[]) ∧ Done base w w' g (m.writtenAt q z) n (if q = 249 then z else o) := by
 by_cases hq : q = 249
 ·rw [if_pos hq]
  have hq' : (q == 249) = true := by simpa using hq
  clear hq
  go_enter Tryz.func254, Tryz.ntmps254
  go_wp2_with (first
   | (refine zRo rfl rfl rfl h.row ?_)
   | (go_at_call 305; refine (zDp _ m _ _ _ h.sl).mono ?_; rintro e w1 ⟨v1, rfl, hm1, hb1⟩; obtain ⟨x1, y1, rfl, hx1, hy1, ha1⟩ := hm1; have h1 := h.below hb1)
   | (refine zUs rfl rfl rfl rfl h1.row (zB hx1) (zB hy1) ?_; intro w2 r2 o2 s2)
   | (refine zBd (m' := m.writtenAt q z) (n' := n) (o' := z) rfl rfl rfl rfl r2 rfl rfl ?_; intro w3 r3 o3 s3))
  refine zZ rfl rfl ?_
  exact ⟨rfl, .mk ((h.other ⟨x1, y1, rfl, hx1, hy1, ha1⟩ r2 o2).set r3 o3 rfl rfl) (((zD9 hb1).trans o2).trans o3)⟩
 ·rw [if_neg hq]
  have hq' : (q == 249) = false := by simpa using hq
  clear hq
  go_enter Tryz.func254, Tryz.ntmps254
  go_wp2_with (first
   | (refine zRo rfl rfl rfl h.row ?_)
   | (go_at_call 305; refine (zDp _ m _ _ _ h.sl).mono ?_; rintro e w1 ⟨v1, rfl, hm1, hb1⟩; obtain ⟨x1, y1, rfl, hx1, hy1, ha1⟩ := hm1; have h1 := h.below hb1)
   | (refine zUs rfl rfl rfl rfl h1.row (zB hx1) (zB hy1) ?_; intro w2 r2 o2 s2))
  refine zZ rfl rfl ?_
  exact ⟨rfl, .mk (h.other ⟨x1, y1, rfl, hx1, hy1, ha1⟩ r2 o2) ((zD9 hb1).trans o2)⟩
theorem zJs (h : DSt base w g x y m n (-1)) (hok : m.ok = true) (z : Int) (hz : bok z = true) :
  Calls Tryz.prog 242 #[.pointer (some ⟨g, 0, none⟩), .int .i64 z] w fun e w' => e = .returned (.tuple #[]) ∧ Done base w w' g (m.psh z) n (m.pshOut z) := by
 have hc := (dw h.row).sp
 have e1 := zN3 (okm.1 hok).sp
 have HE : Hid (({ m with sp := (m.sp + 255) % 256 } : Mc).writtenAt ((m.sp + 255) % 256) z = m.psh z) := zB1 (zLt hok _) (zCz _) hz
 generalize hs : (m.sp + 255) % 256 = s at HE e1
 have HO : Hid (m.pshOut z = if s = 249 then z else -1) := show m.pshOut z = if s = 249 then z else -1 by rw [← hs]; rfl
 clear hs
 go_enter Tryz.func242, Tryz.ntmps242
 go_wp2_with (first
  | (go_at_call 261; refine (zA5 _ _ _).mono ?_; rintro e w0 ⟨rfl, rfl⟩; rw [e1])
  | (refine zBd (m' := { m with sp := s }) (n' := n) (o' := -1) rfl rfl rfl rfl h.row rfl rfl ?_; intro w1 r1 o1 s1; have h1 := h.set r1 o1 rfl rfl; have hc1 := (dw r1).sp)
  | (go_at_call 254; refine (zDb h1 _ _).mono ?_; rintro e w2 ⟨rfl, x2, y2, h2, o2⟩))
 refine zZ rfl rfl ?_
 have he := HE.out
 rw [he, ← HO.out] at h2
 exact ⟨rfl, .mk h2 (o1.trans o2)⟩
end
section
variable {base : Nat} {w : World} {g : Nat} {x y : Value} {m : Mc} {n : Int}
set_option maxRecDepth 100000 in
theorem zDx (h : DSt base w g x y m n (-1)) (hok : m.ok = true) :
  Calls Tryz.prog 280 #[.pointer (some ⟨g, 0, none⟩)] w fun e w' => e = .returned (.int .i64 m.top) ∧ Done base w w' g m.popd n (-1) := by
 have e1 : m.readAt m.sp = m.top := zBh hok (okm.1 hok).sp
 have e2 := zK4 (okm.1 hok).sp
 go_enter Tryz.func280, Tryz.ntmps280
 go_wp2_with fail
 refine xA (by kernel_rfl) (by kernel_rfl) 10 (by decide) (by kernel_rfl) (by kernel_rfl) (fun W => DSt base W g x y m n (-1) ∧ Onto g w W) (fun W => DSt base W g x y m n (-1) ∧ Onto g w W) [pt g 0, pt g 0, pt g 0, m.val x y, pt g 0, pt g 0, pt g 0, pt g 5, .int .i64 m.sp, .int .i64 (m.readAt m.sp), .int .i64 (m.readAt m.sp)] ⟨h.drew, (Onto.refl g w).drew⟩ ?step ?last ?done
 case step =>
  intro L ix o' A W hne hi hI hg hd
  have hin : ix < 11 := qB hi
  rcases ix with _ | _ | _ | _ | _ | _ | _ | _ | _ | _ | _ | ix
  ·cases hi; exact am rfl rfl rfl (kv (hI.ol 0 rfl) hg)
  ·cases hi; exact zC rfl rfl (qK rfl (hI.vl hd 0 rfl) (kk hg))
  ·cases hi; exact zC rfl rfl (zH (hI.vl hd 1 rfl) rfl (by kernel_rfl) (kk hg))
  ·cases hi; exact zC rfl rfl (zLx rfl (hI.vl hd 2 rfl) hg.1.row (kk hg))
  ·cases hi; exact am rfl rfl rfl (kv (hI.ol 0 rfl) hg)
  ·cases hi; exact zC rfl rfl (qK rfl (hI.vl hd 4 rfl) (kk hg))
  ·cases hi; exact zC rfl rfl (zH (hI.vl hd 5 rfl) rfl (by kernel_rfl) (kk hg))
  ·cases hi; exact zC rfl rfl (zH (hI.vl hd 6 rfl) rfl (by kernel_rfl) (kk hg))
  ·cases hi; exact zC rfl rfl (zN rfl Tryz.underlying2 (hI.vl hd 7 rfl) (dw hg.1.row).sp (kk hg))
  ·cases hi; have e0 := hI.vl hd 3 rfl
   have e1 := hI.vl hd 8 rfl
   refine zC rfl rfl (zS rfl Tryz.func203 (by kernel_rfl) (by kernel_rfl) ?_)
   simp only [List.map_cons, List.map_nil, e0, e1]
   refine (vR _ m _ _ hg.1.sl).mono ?_
   rintro e w1 ⟨rfl, hb⟩
   exact ⟨_, rfl, _, rfl, rfl, hg.1.below hb, hg.2.trans (zD9 hb)⟩
  ·exact absurd rfl hne
  omega
 case last =>
  intro L o' A W hi hI hg hd
  cases hi
  have e0 : A.eval (.tmp 13) = .int .i64 (m.readAt m.sp) := hI.val hd 9 13 rfl rfl (by kernel_rfl)
  exact zC rfl rfl (qC rfl ⟨_, rfl, e0, hg⟩)
 case done =>
  intro A W hI hE
  have e0' : A.tmps.getD 0 undef = .pointer (some ⟨g, 0, none⟩) := hI.old 0 (by kernel_rfl)
  have e1' : A.tmps.getD 1 undef = undef := hI.old 1 (by kernel_rfl)
  have e2' : A.tmps.getD 2 undef = .int .i64 0 := hI.old 2 (by kernel_rfl)
  have e3' : A.tmps.getD 3 undef = .int .i64 (m.readAt m.sp) := hI.last 10 3 rfl
  have e4' : A.tmps.getD 4 undef = .pointer (some ⟨g, 0, none⟩) := hI.last 0 4 rfl
  have e5' : A.tmps.getD 5 undef = .pointer (some ⟨g, 0, none⟩) := hI.last 1 5 rfl
  have e6' : A.tmps.getD 6 undef = .pointer (some ⟨g, 0, none⟩) := hI.last 2 6 rfl
  have e7' : A.tmps.getD 7 undef = m.val x y := hI.last 3 7 rfl
  have e8' : A.tmps.getD 8 undef = .pointer (some ⟨g, 0, none⟩) := hI.last 4 8 rfl
  have e9' : A.tmps.getD 9 undef = .pointer (some ⟨g, 0, none⟩) := hI.last 5 9 rfl
  have e10' : A.tmps.getD 10 undef = .pointer (some ⟨g, 0, none⟩) := hI.last 6 10 rfl
  have e11' : A.tmps.getD 11 undef = .pointer (some ⟨g, 5, none⟩) := hI.last 7 11 rfl
  have e12' : A.tmps.getD 12 undef = .int .i64 m.sp := hI.last 8 12 rfl
  have e13' : A.tmps.getD 13 undef = .int .i64 (m.readAt m.sp) := hI.last 9 13 rfl
  have e14' : A.tmps.getD 14 undef = undef := hI.old 14 (by kernel_rfl)
  have e15' : A.tmps.getD 15 undef = undef := hI.old 15 (by kernel_rfl)
  have e16' : A.tmps.getD 16 undef = undef := hI.old 16 (by kernel_rfl)
  have e17' : A.tmps.getD 17 undef = undef := hI.old 17 (by kernel_rfl)
  have e18' : A.tmps.getD 18 undef = undef := hI.old 18 (by kernel_rfl)
  have e19' : A.tmps.getD 19 undef = undef := hI.old 19 (by kernel_rfl)
  have e20' : A.tmps.getD 20 undef = undef := hI.old 20 (by kernel_rfl)
  have e21' : A.tmps.getD 21 undef = undef := hI.old 21 (by kernel_rfl)
  have e22' : A.tmps.getD 22 undef = undef := hI.old 22 (by kernel_rfl)
  have e23' : A.tmps.getD 23 undef = undef := hI.old 23 (by kernel_rfl)
  have e24' : A.tmps.getD 24 undef = undef := hI.old 24 (by kernel_rfl)
  have hA := jC A 25 hI.size
  have hde : A.defers = [] := hI.defers
  rw [hde, show List.range 25 = [0, 1, 2, 3, 4, 5, 6, 7, 8, 9, 10, 11, 12, 13, 14, 15, 16, 17, 18, 19, 20, 21, 22, 23, 24] from rfl] at hA
  simp only [List.map_cons, List.map_nil, e0', e1', e2', e3', e4', e5', e6', e7', e8', e9', e10', e11', e12', e13', e14', e15', e16', e17', e18', e19', e20', e21', e22', e23', e24'] at hA
  rw [hA]
  clear hA e0' e1' e2' e3' e4' e5' e6' e7' e8' e9' e10' e11' e12' e13' e14' e15' e16' e17' e18' e19' e20' e21' e22' e23' e24' hI hde
  obtain ⟨hD, hO⟩ := hE
  have hc := (dw hD.row).sp
  rw [e1]
  go_wp2_with (first
   | (go_at_call 205; refine (zAg _ _ _).mono ?_; rintro e w0 ⟨rfl, rfl⟩; rw [e2])
   | (refine zBd (m' := m.popd) (n' := n) (o' := -1) rfl rfl rfl rfl hD.row rfl rfl ?_; intro w1 r1 o1 s1))
  go_ret
  exact ⟨rfl, .mk (hD.set r1 o1 rfl rfl) (hO.trans o1)⟩
theorem zRa (h : DSt base w g x y m n (-1)) (hok : m.ok = true) (hn : bok n = true) :
  Calls Tryz.prog 247 #[.pointer (some ⟨g, 0, none⟩)] w fun e w' => e = .returned (.tuple #[]) ∧ Done base w w' g (m.does n 0).1 n (m.does n 0).2 := by
 go_enter Tryz.func247, Tryz.ntmps247
 go_wp2
 refine zZ rfl rfl ?_
 exact ⟨rfl, .mk h (Onto.refl _ _)⟩
theorem zRm (h : DSt base w g x y m n (-1)) (hok : m.ok = true) (hn : bok n = true) :
  Calls Tryz.prog 248 #[.pointer (some ⟨g, 0, none⟩)] w fun e w' => e = .returned (.tuple #[]) ∧ Done base w w' g (m.does n 1).1 n (m.does n 1).2 := by
 have hc := (dw h.row).n
 go_enter Tryz.func248, Tryz.ntmps248
 go_wp2_with (refine zBd (m' := (m.does n 1).1) (n' := n) (o' := -1) rfl rfl rfl rfl h.row rfl rfl ?_; intro w1 r1 o1 s1)
 refine zZ rfl rfl ?_
 exact ⟨rfl, .mk (h.set r1 o1 rfl rfl) o1⟩
theorem zRl (h : DSt base w g x y m n (-1)) (hok : m.ok = true) (hn : bok n = true) :
  Calls Tryz.prog 249 #[.pointer (some ⟨g, 0, none⟩)] w fun e w' => e = .returned (.tuple #[]) ∧ Done base w w' g (m.does n 2).1 n (m.does n 2).2 := by
 have hc := (dw h.row).n
 go_enter Tryz.func249, Tryz.ntmps249
 go_wp2_with (refine zBd (m' := (m.does n 2).1) (n' := n) (o' := -1) rfl rfl rfl rfl h.row rfl rfl ?_; intro w1 r1 o1 s1)
 refine zZ rfl rfl ?_
 exact ⟨rfl, .mk (h.set r1 o1 rfl rfl) o1⟩
theorem zRi (h : DSt base w g x y m n (-1)) (hok : m.ok = true) (hn : bok n = true) :
  Calls Tryz.prog 250 #[.pointer (some ⟨g, 0, none⟩)] w fun e w' => e = .returned (.tuple #[]) ∧ Done base w w' g (m.does n 3).1 n (m.does n 3).2 := by
 have hc := (dw h.row).b
 go_enter Tryz.func250, Tryz.ntmps250
 go_wp2_with (refine zBd (m' := (m.does n 3).1) (n' := n) (o' := -1) rfl rfl rfl rfl h.row rfl rfl ?_; intro w1 r1 o1 s1)
 refine zZ rfl rfl ?_
 exact ⟨rfl, .mk (h.set r1 o1 rfl rfl) o1⟩
theorem zRh (h : DSt base w g x y m n (-1)) (hok : m.ok = true) (hn : bok n = true) :
  Calls Tryz.prog 251 #[.pointer (some ⟨g, 0, none⟩)] w fun e w' => e = .returned (.tuple #[]) ∧ Done base w w' g (m.does n 4).1 n (m.does n 4).2 := by
 have hc := (dw h.row).a
 go_enter Tryz.func251, Tryz.ntmps251
 go_wp2_with (refine zBd (m' := (m.does n 4).1) (n' := n) (o' := -1) rfl rfl rfl rfl h.row rfl rfl ?_; intro w1 r1 o1 s1)
 refine zZ rfl rfl ?_
 exact ⟨rfl, .mk (h.set r1 o1 rfl rfl) o1⟩
set_option maxRecDepth 100000 in
theorem zSe (h : DSt base w g x y m n (-1)) (hok : m.ok = true) (hn : bok n = true) :
  Calls Tryz.prog 252 #[.pointer (some ⟨g, 0, none⟩)] w fun e w' => e = .returned (.tuple #[]) ∧ Done base w w' g (m.does n 5).1 n (m.does n 5).2 := by
 go_enter Tryz.func252, Tryz.ntmps252
 go_wp2_with fail
 refine xA (by kernel_rfl) (by kernel_rfl) 13 (by decide) (by kernel_rfl) (by kernel_rfl) (fun W => DSt base W g x y m n (-1) ∧ Onto g w W) (fun W => Done base w W g (m.does n 5).1 n (m.does n 5).2) [pt g 0, pt g 0, pt g 0, pt g 0, m.val x y, pt g 0, pt g 0, pt g 25, .int .i64 n, .int .i64 (m.readAt n), pt g 0, pt g 0, pt g 2, undef] ⟨h.drew, (Onto.refl g w).drew⟩ ?step ?last ?done
 case step =>
  intro L ix o' A W hne hi hI hg hd
  have hin : ix < 14 := qB hi
  rcases ix with _ | _ | _ | _ | _ | _ | _ | _ | _ | _ | _ | _ | _ | _ | ix
  ·cases hi; exact am rfl rfl rfl (kv (hI.ol 0 rfl) hg)
  ·cases hi; exact am rfl rfl rfl (kv (hI.ol 0 rfl) hg)
  ·cases hi; exact zC rfl rfl (qK rfl (hI.vl hd 1 rfl) (kk hg))
  ·cases hi; exact zC rfl rfl (zH (hI.vl hd 2 rfl) rfl (by kernel_rfl) (kk hg))
  ·cases hi; exact zC rfl rfl (zLx rfl (hI.vl hd 3 rfl) hg.1.row (kk hg))
  ·cases hi; exact am rfl rfl rfl (kv (hI.ol 0 rfl) hg)
  ·cases hi; exact zC rfl rfl (qK rfl (hI.vl hd 5 rfl) (kk hg))
  ·cases hi; exact zC rfl rfl (zH (hI.vl hd 6 rfl) rfl (by kernel_rfl) (kk hg))
  ·cases hi; exact zC rfl rfl (zN rfl Tryz.underlying2 (hI.vl hd 7 rfl) (dw hg.1.row).n (kk hg))
  ·cases hi; have e0 := hI.vl hd 4 rfl
   have e1 := hI.vl hd 8 rfl
   refine zC rfl rfl (zS rfl Tryz.func203 (by kernel_rfl) (by kernel_rfl) ?_)
   simp only [List.map_cons, List.map_nil, e0, e1]
   refine (vR _ m _ _ hg.1.sl).mono ?_
   rintro e w1 ⟨rfl, hb⟩
   exact ⟨_, rfl, _, rfl, rfl, hg.1.below hb, hg.2.trans (zD9 hb)⟩
  ·cases hi; exact zC rfl rfl (qK rfl (hI.vl hd 0 rfl) (kk hg))
  ·cases hi; exact zC rfl rfl (zH (hI.vl hd 10 rfl) rfl (by kernel_rfl) (kk hg))
  ·cases hi; exact zC rfl rfl (zH (hI.vl hd 11 rfl) rfl (by kernel_rfl) (kk hg))
  ·exact absurd rfl hne
  omega
 case last =>
  intro L o' A W hi hI hg hd
  cases hi
  have e0 : A.eval (.tmp 14) = .pointer (some ⟨g, 2, none⟩) := hI.val hd 12 14 rfl rfl (by kernel_rfl)
  have e1 : A.eval (.tmp 11) = .int .i64 (m.readAt n) := hI.val hd 9 11 rfl rfl (by kernel_rfl)
  rw [zBh hok hn] at e1
  exact zC rfl rfl (zQv (m' := (m.does n 5).1) (n' := n) (o' := -1) rfl e0 e1 hg.1.row rfl rfl (fun w' hr ho => ⟨_, rfl, rfl, .mk (hg.1.set hr ho rfl rfl) (hg.2.trans ho)⟩))
 case done =>
  intro A W hI hE
  exact zZ rfl hI.defers ⟨rfl, hE⟩
set_option maxRecDepth 100000 in
theorem zQ0 (h : DSt base w g x y m n (-1)) (hok : m.ok = true) (hn : bok n = true) :
  Calls Tryz.prog 253 #[.pointer (some ⟨g, 0, none⟩)] w fun e w' => e = .returned (.tuple #[]) ∧ Done base w w' g (m.does n 6).1 n (m.does n 6).2 := by
 go_enter Tryz.func253, Tryz.ntmps253
 go_wp2_with fail
 refine xA (by kernel_rfl) (by kernel_rfl) 10 (by decide) (by kernel_rfl) (by kernel_rfl) (fun W => DSt base W g x y m n (-1) ∧ Onto g w W) (fun W => Done base w W g (m.does n 6).1 n (m.does n 6).2) [pt g 0, pt g 0, pt g 0, pt g 25, .int .i64 n, pt g 0, pt g 0, pt g 0, pt g 2, .int .i64 m.a, .tuple #[]] ⟨h.drew, (Onto.refl g w).drew⟩ ?step ?last ?done
 case step =>
  intro L ix o' A W hne hi hI hg hd
  have hin : ix < 11 := qB hi
  rcases ix with _ | _ | _ | _ | _ | _ | _ | _ | _ | _ | _ | ix
  ·cases hi; exact am rfl rfl rfl (kv (hI.ol 0 rfl) hg)
  ·cases hi; exact am rfl rfl rfl (kv (hI.ol 0 rfl) hg)
  ·cases hi; exact zC rfl rfl (qK rfl (hI.vl hd 1 rfl) (kk hg))
  ·cases hi; exact zC rfl rfl (zH (hI.vl hd 2 rfl) rfl (by kernel_rfl) (kk hg))
  ·cases hi; exact zC rfl rfl (zN rfl Tryz.underlying2 (hI.vl hd 3 rfl) (dw hg.1.row).n (kk hg))
  ·cases hi; exact am rfl rfl rfl (kv (hI.ol 0 rfl) hg)
  ·cases hi; exact zC rfl rfl (qK rfl (hI.vl hd 5 rfl) (kk hg))
  ·cases hi; exact zC rfl rfl (zH (hI.vl hd 6 rfl) rfl (by kernel_rfl) (kk hg))
  ·cases hi; exact zC rfl rfl (zH (hI.vl hd 7 rfl) rfl (by kernel_rfl) (kk hg))
  ·cases hi; exact zC rfl rfl (zN rfl Tryz.underlying2 (hI.vl hd 8 rfl) (dw hg.1.row).a (kk hg))
  ·exact absurd rfl hne
  omega
 case last =>
  intro L o' A W hi hI hg hd
  cases hi
  have e0 : A.eval (.tmp 2) = .pointer (some ⟨g, 0, none⟩) := hI.val hd 0 2 rfl rfl (by kernel_rfl)
  have e1 : A.eval (.tmp 6) = .int .i64 n := hI.val hd 4 6 rfl rfl (by kernel_rfl)
  have e2 : A.eval (.tmp 11) = .int .i64 m.a := hI.val hd 9 11 rfl rfl (by kernel_rfl)
  refine zC rfl rfl (zS rfl Tryz.func254 (by kernel_rfl) (by kernel_rfl) ?_)
  simp only [List.map_cons, List.map_nil, e0, e1, e2]
  refine (zDb hg.1 _ _).mono ?_
  rintro e w1 ⟨rfl, x1, y1, h1, o1⟩
  rw [zB1 hok hn (okm.1 hok).a] at h1
  exact ⟨_, rfl, _, rfl, rfl, .mk h1 (hg.2.trans o1)⟩
 case done =>
  intro A W hI hE
  exact zZ rfl hI.defers ⟨rfl, hE⟩
set_option maxRecDepth 100000 in
theorem zSd (h : DSt base w g x y m n (-1)) (hok : m.ok = true) (hn : bok n = true) :
  Calls Tryz.prog 255 #[.pointer (some ⟨g, 0, none⟩)] w fun e w' => e = .returned (.tuple #[]) ∧ Done base w w' g (m.does n 7).1 n (m.does n 7).2 := by
 go_enter Tryz.func255, Tryz.ntmps255
 go_wp2_with fail
 refine xA (by kernel_rfl) (by kernel_rfl) 14 (by decide) (by kernel_rfl) (by kernel_rfl) (fun W => DSt base W g x y m n (-1) ∧ Onto g w W) (fun W => Done base w W g (m.does n 7).1 n (m.does n 7).2) [pt g 0, pt g 0, pt g 0, pt g 0, m.val x y, pt g 0, pt g 0, pt g 0, pt g 3, .int .i64 m.b, .int .i64 (m.readAt m.b), pt g 0, pt g 0, pt g 2, undef] ⟨h.drew, (Onto.refl g w).drew⟩ ?step ?last ?done
 case step =>
  intro L ix o' A W hne hi hI hg hd
  have hin : ix < 15 := qB hi
  rcases ix with _ | _ | _ | _ | _ | _ | _ | _ | _ | _ | _ | _ | _ | _ | _ | ix
  ·cases hi; exact am rfl rfl rfl (kv (hI.ol 0 rfl) hg)
  ·cases hi; exact am rfl rfl rfl (kv (hI.ol 0 rfl) hg)
  ·cases hi; exact zC rfl rfl (qK rfl (hI.vl hd 1 rfl) (kk hg))
  ·cases hi; exact zC rfl rfl (zH (hI.vl hd 2 rfl) rfl (by kernel_rfl) (kk hg))
  ·cases hi; exact zC rfl rfl (zLx rfl (hI.vl hd 3 rfl) hg.1.row (kk hg))
  ·cases hi; exact am rfl rfl rfl (kv (hI.ol 0 rfl) hg)
  ·cases hi; exact zC rfl rfl (qK rfl (hI.vl hd 5 rfl) (kk hg))
  ·cases hi; exact zC rfl rfl (zH (hI.vl hd 6 rfl) rfl (by kernel_rfl) (kk hg))
  ·cases hi; exact zC rfl rfl (zH (hI.vl hd 7 rfl) rfl (by kernel_rfl) (kk hg))
  ·cases hi; exact zC rfl rfl (zN rfl Tryz.underlying2 (hI.vl hd 8 rfl) (dw hg.1.row).b (kk hg))
  ·cases hi; have e0 := hI.vl hd 4 rfl
   have e1 := hI.vl hd 9 rfl
   refine zC rfl rfl (zS rfl Tryz.func203 (by kernel_rfl) (by kernel_rfl) ?_)
   simp only [List.map_cons, List.map_nil, e0, e1]
   refine (vR _ m _ _ hg.1.sl).mono ?_
   rintro e w1 ⟨rfl, hb⟩
   exact ⟨_, rfl, _, rfl, rfl, hg.1.below hb, hg.2.trans (zD9 hb)⟩
  ·cases hi; exact zC rfl rfl (qK rfl (hI.vl hd 0 rfl) (kk hg))
  ·cases hi; exact zC rfl rfl (zH (hI.vl hd 11 rfl) rfl (by kernel_rfl) (kk hg))
  ·cases hi; exact zC rfl rfl (zH (hI.vl hd 12 rfl) rfl (by kernel_rfl) (kk hg))
  ·exact absurd rfl hne
  omega
 case last =>
  intro L o' A W hi hI hg hd
  cases hi
  have e0 : A.eval (.tmp 15) = .pointer (some ⟨g, 2, none⟩) := hI.val hd 13 15 rfl rfl (by kernel_rfl)
  have e1 : A.eval (.tmp 12) = .int .i64 (m.readAt m.b) := hI.val hd 10 12 rfl rfl (by kernel_rfl)
  rw [zBh hok (okm.1 hok).b] at e1
  exact zC rfl rfl (zQv (m' := (m.does n 7).1) (n' := n) (o' := -1) rfl e0 e1 hg.1.row rfl rfl (fun w' hr ho => ⟨_, rfl, rfl, .mk (hg.1.set hr ho rfl rfl) (hg.2.trans ho)⟩))
 case done =>
  intro A W hI hE
  exact zZ rfl hI.defers ⟨rfl, hE⟩
set_option maxRecDepth 100000 in
theorem zQ5 (h : DSt base w g x y m n (-1)) (hok : m.ok = true) (hn : bok n = true) :
  Calls Tryz.prog 256 #[.pointer (some ⟨g, 0, none⟩)] w fun e w' => e = .returned (.tuple #[]) ∧ Done base w w' g (m.does n 8).1 n (m.does n 8).2 := by
 go_enter Tryz.func256, Tryz.ntmps256
 go_wp2_with fail
 refine xA (by kernel_rfl) (by kernel_rfl) 11 (by decide) (by kernel_rfl) (by kernel_rfl) (fun W => DSt base W g x y m n (-1) ∧ Onto g w W) (fun W => Done base w W g (m.does n 8).1 n (m.does n 8).2) [pt g 0, pt g 0, pt g 0, pt g 0, pt g 3, .int .i64 m.b, pt g 0, pt g 0, pt g 0, pt g 2, .int .i64 m.a, .tuple #[]] ⟨h.drew, (Onto.refl g w).drew⟩ ?step ?last ?done
 case step =>
  intro L ix o' A W hne hi hI hg hd
  have hin : ix < 12 := qB hi
  rcases ix with _ | _ | _ | _ | _ | _ | _ | _ | _ | _ | _ | _ | ix
  ·cases hi; exact am rfl rfl rfl (kv (hI.ol 0 rfl) hg)
  ·cases hi; exact am rfl rfl rfl (kv (hI.ol 0 rfl) hg)
  ·cases hi; exact zC rfl rfl (qK rfl (hI.vl hd 1 rfl) (kk hg))
  ·cases hi; exact zC rfl rfl (zH (hI.vl hd 2 rfl) rfl (by kernel_rfl) (kk hg))
  ·cases hi; exact zC rfl rfl (zH (hI.vl hd 3 rfl) rfl (by kernel_rfl) (kk hg))
  ·cases hi; exact zC rfl rfl (zN rfl Tryz.underlying2 (hI.vl hd 4 rfl) (dw hg.1.row).b (kk hg))
  ·cases hi; exact am rfl rfl rfl (kv (hI.ol 0 rfl) hg)
  ·cases hi; exact zC rfl rfl (qK rfl (hI.vl hd 6 rfl) (kk hg))
  ·cases hi; exact zC rfl rfl (zH (hI.vl hd 7 rfl) rfl (by kernel_rfl) (kk hg))
  ·cases hi; exact zC rfl rfl (zH (hI.vl hd 8 rfl) rfl (by kernel_rfl) (kk hg))
  ·cases hi; exact zC rfl rfl (zN rfl Tryz.underlying2 (hI.vl hd 9 rfl) (dw hg.1.row).a (kk hg))
  ·exact absurd rfl hne
  omega
 case last =>
  intro L o' A W hi hI hg hd
  cases hi
  have e0 : A.eval (.tmp 2) = .pointer (some ⟨g, 0, none⟩) := hI.val hd 0 2 rfl rfl (by kernel_rfl)
  have e1 : A.eval (.tmp 7) = .int .i64 m.b := hI.val hd 5 7 rfl rfl (by kernel_rfl)
  have e2 : A.eval (.tmp 12) = .int .i64 m.a := hI.val hd 10 12 rfl rfl (by kernel_rfl)
  refine zC rfl rfl (zS rfl Tryz.func254 (by kernel_rfl) (by kernel_rfl) ?_)
  simp only [List.map_cons, List.map_nil, e0, e1, e2]
  refine (zDb hg.1 _ _).mono ?_
  rintro e w1 ⟨rfl, x1, y1, h1, o1⟩
  rw [zB1 hok (okm.1 hok).b (okm.1 hok).a] at h1
  exact ⟨_, rfl, _, rfl, rfl, .mk h1 (hg.2.trans o1)⟩
 case done =>
  intro A W hI hE
  exact zZ rfl hI.defers ⟨rfl, hE⟩
set_option maxRecDepth 100000 in
theorem zTh (h : DSt base w g x y m n (-1)) (hok : m.ok = true) (hn : bok n = true) :
  Calls Tryz.prog 257 #[.pointer (some ⟨g, 0, none⟩)] w fun e w' => e = .returned (.tuple #[]) ∧ Done base w w' g (m.does n 9).1 n (m.does n 9).2 := by
 go_enter Tryz.func257, Tryz.ntmps257
 go_wp2_with fail
 refine xA (by kernel_rfl) (by kernel_rfl) 13 (by decide) (by kernel_rfl) (by kernel_rfl) (fun W => DSt base W g x y m n (-1) ∧ Onto g w W) (fun W => Done base w W g (m.does n 9).1 n (m.does n 9).2) [pt g 0, pt g 0, pt g 0, pt g 0, pt g 2, .int .i64 m.a, pt g 0, pt g 0, pt g 25, .int .i64 n, .tuple #[.int .i64 (addB m.a n), .bool (addC m.a n)], .int .i64 (addB m.a n), .bool (addC m.a n), .tuple #[]] ⟨h.drew, (Onto.refl g w).drew⟩ ?step ?last ?done
 case step =>
  intro L ix o' A W hne hi hI hg hd
  have hin : ix < 14 := qB hi
  rcases ix with _ | _ | _ | _ | _ | _ | _ | _ | _ | _ | _ | _ | _ | _ | ix
  ·cases hi; exact am rfl rfl rfl (kv (hI.ol 0 rfl) hg)
  ·cases hi; exact am rfl rfl rfl (kv (hI.ol 0 rfl) hg)
  ·cases hi; exact zC rfl rfl (qK rfl (hI.vl hd 1 rfl) (kk hg))
  ·cases hi; exact zC rfl rfl (zH (hI.vl hd 2 rfl) rfl (by kernel_rfl) (kk hg))
  ·cases hi; exact zC rfl rfl (zH (hI.vl hd 3 rfl) rfl (by kernel_rfl) (kk hg))
  ·cases hi; exact zC rfl rfl (zN rfl Tryz.underlying2 (hI.vl hd 4 rfl) (dw hg.1.row).a (kk hg))
  ·cases hi; exact am rfl rfl rfl (kv (hI.ol 0 rfl) hg)
  ·cases hi; exact zC rfl rfl (qK rfl (hI.vl hd 6 rfl) (kk hg))
  ·cases hi; exact zC rfl rfl (zH (hI.vl hd 7 rfl) rfl (by kernel_rfl) (kk hg))
  ·cases hi; exact zC rfl rfl (zN rfl Tryz.underlying2 (hI.vl hd 8 rfl) (dw hg.1.row).n (kk hg))
  ·cases hi; have e0 := hI.vl hd 5 rfl
   have e1 := hI.vl hd 9 rfl
   refine zC rfl rfl (zS rfl Tryz.func246 (by kernel_rfl) (by kernel_rfl) ?_)
   simp only [List.map_cons, List.map_nil, e0, e1]
   refine (zAk _ _ _).mono ?_
   rintro e w1 ⟨rfl, rfl⟩
   exact ⟨_, rfl, _, rfl, rfl, hg⟩
  ·cases hi; exact zC rfl rfl (zH (hI.vl hd 10 rfl) rfl (by kernel_rfl) (kk hg))
  ·cases hi; exact zC rfl rfl (zH (hI.vl hd 10 rfl) rfl (by kernel_rfl) (kk hg))
  ·exact absurd rfl hne
  omega
 case last =>
  intro L o' A W hi hI hg hd
  cases hi
  have e0 : A.eval (.tmp 2) = .pointer (some ⟨g, 0, none⟩) := hI.val hd 0 2 rfl rfl (by kernel_rfl)
  have e1 : A.eval (.tmp 13) = .int .i64 (addB m.a n) := hI.val hd 11 13 rfl rfl (by kernel_rfl)
  have e2 : A.eval (.tmp 14) = .bool (addC m.a n) := hI.val hd 12 14 rfl rfl (by kernel_rfl)
  refine zC rfl rfl (zS rfl Tryz.func258 (by kernel_rfl) (by kernel_rfl) ?_)
  simp only [List.map_cons, List.map_nil, e0, e1, e2]
  refine (zAw hg.1 _ _).mono ?_
  rintro e w1 ⟨rfl, x1, y1, h1, o1⟩
  exact ⟨_, rfl, _, rfl, rfl, .mk h1 (hg.2.trans o1)⟩
 case done =>
  intro A W hI hE
  exact zZ rfl hI.defers ⟨rfl, hE⟩
set_option maxRecDepth 100000 in
theorem zTi (h : DSt base w g x y m n (-1)) (hok : m.ok = true) (hn : bok n = true) :
  Calls Tryz.prog 259 #[.pointer (some ⟨g, 0, none⟩)] w fun e w' => e = .returned (.tuple #[]) ∧ Done base w w' g (m.does n 10).1 n (m.does n 10).2 := by
 go_enter Tryz.func259, Tryz.ntmps259
 go_wp2_with fail
 refine xA (by kernel_rfl) (by kernel_rfl) 14 (by decide) (by kernel_rfl) (by kernel_rfl) (fun W => DSt base W g x y m n (-1) ∧ Onto g w W) (fun W => Done base w W g (m.does n 10).1 n (m.does n 10).2) [pt g 0, pt g 0, pt g 0, pt g 0, pt g 2, .int .i64 m.a, pt g 0, pt g 0, pt g 0, pt g 3, .int .i64 m.b, .tuple #[.int .i64 (addB m.a m.b), .bool (addC m.a m.b)], .int .i64 (addB m.a m.b), .bool (addC m.a m.b), .tuple #[]] ⟨h.drew, (Onto.refl g w).drew⟩ ?step ?last ?done
 case step =>
  intro L ix o' A W hne hi hI hg hd
  have hin : ix < 15 := qB hi
  rcases ix with _ | _ | _ | _ | _ | _ | _ | _ | _ | _ | _ | _ | _ | _ | _ | ix
  ·cases hi; exact am rfl rfl rfl (kv (hI.ol 0 rfl) hg)
  ·cases hi; exact am rfl rfl rfl (kv (hI.ol 0 rfl) hg)
  ·cases hi; exact zC rfl rfl (qK rfl (hI.vl hd 1 rfl) (kk hg))
  ·cases hi; exact zC rfl rfl (zH (hI.vl hd 2 rfl) rfl (by kernel_rfl) (kk hg))
  ·cases hi; exact zC rfl rfl (zH (hI.vl hd 3 rfl) rfl (by kernel_rfl) (kk hg))
  ·cases hi; exact zC rfl rfl (zN rfl Tryz.underlying2 (hI.vl hd 4 rfl) (dw hg.1.row).a (kk hg))
  ·cases hi; exact am rfl rfl rfl (kv (hI.ol 0 rfl) hg)
  ·cases hi; exact zC rfl rfl (qK rfl (hI.vl hd 6 rfl) (kk hg))
  ·cases hi; exact zC rfl rfl (zH (hI.vl hd 7 rfl) rfl (by kernel_rfl) (kk hg))
  ·cases hi; exact zC rfl rfl (zH (hI.vl hd 8 rfl) rfl (by kernel_rfl) (kk hg))
  ·cases hi; exact zC rfl rfl (zN rfl Tryz.underlying2 (hI.vl hd 9 rfl) (dw hg.1.row).b (kk hg))
  ·cases hi; have e0 := hI.vl hd 5 rfl
   have e1 := hI.vl hd 10 rfl
   refine zC rfl rfl (zS rfl Tryz.func246 (by kernel_rfl) (by kernel_rfl) ?_)
   simp only [List.map_cons, List.map_nil, e0, e1]
   refine (zAk _ _ _).mono ?_
   rintro e w1 ⟨rfl, rfl⟩
   exact ⟨_, rfl, _, rfl, rfl, hg⟩
  ·cases hi; exact zC rfl rfl (zH (hI.vl hd 11 rfl) rfl (by kernel_rfl) (kk hg))
  ·cases hi; exact zC rfl rfl (zH (hI.vl hd 11 rfl) rfl (by kernel_rfl) (kk hg))
  ·exact absurd rfl hne
  omega
 case last =>
  intro L o' A W hi hI hg hd
  cases hi
  have e0 : A.eval (.tmp 2) = .pointer (some ⟨g, 0, none⟩) := hI.val hd 0 2 rfl rfl (by kernel_rfl)
  have e1 : A.eval (.tmp 14) = .int .i64 (addB m.a m.b) := hI.val hd 12 14 rfl rfl (by kernel_rfl)
  have e2 : A.eval (.tmp 15) = .bool (addC m.a m.b) := hI.val hd 13 15 rfl rfl (by kernel_rfl)
  refine zC rfl rfl (zS rfl Tryz.func258 (by kernel_rfl) (by kernel_rfl) ?_)
  simp only [List.map_cons, List.map_nil, e0, e1, e2]
  refine (zAw hg.1 _ _).mono ?_
  rintro e w1 ⟨rfl, x1, y1, h1, o1⟩
  exact ⟨_, rfl, _, rfl, rfl, .mk h1 (hg.2.trans o1)⟩
 case done =>
  intro A W hI hE
  exact zZ rfl hI.defers ⟨rfl, hE⟩
set_option maxRecDepth 100000 in
theorem zQn (h : DSt base w g x y m n (-1)) (hok : m.ok = true) (hn : bok n = true) :
  Calls Tryz.prog 260 #[.pointer (some ⟨g, 0, none⟩)] w fun e w' => e = .returned (.tuple #[]) ∧ Done base w w' g (m.does n 11).1 n (m.does n 11).2 := by
 go_enter Tryz.func260, Tryz.ntmps260
 go_wp2_with fail
 refine xA (by kernel_rfl) (by kernel_rfl) 13 (by decide) (by kernel_rfl) (by kernel_rfl) (fun W => DSt base W g x y m n (-1) ∧ Onto g w W) (fun W => Done base w W g (m.does n 11).1 n (m.does n 11).2) [pt g 0, pt g 0, pt g 0, pt g 0, pt g 2, .int .i64 m.a, pt g 0, pt g 0, pt g 25, .int .i64 n, .tuple #[.int .i64 (subB m.a n), .bool (subC m.a n)], .int .i64 (subB m.a n), .bool (subC m.a n), .tuple #[]] ⟨h.drew, (Onto.refl g w).drew⟩ ?step ?last ?done
 case step =>
  intro L ix o' A W hne hi hI hg hd
  have hin : ix < 14 := qB hi
  rcases ix with _ | _ | _ | _ | _ | _ | _ | _ | _ | _ | _ | _ | _ | _ | ix
  ·cases hi; exact am rfl rfl rfl (kv (hI.ol 0 rfl) hg)
  ·cases hi; exact am rfl rfl rfl (kv (hI.ol 0 rfl) hg)
  ·cases hi; exact zC rfl rfl (qK rfl (hI.vl hd 1 rfl) (kk hg))
  ·cases hi; exact zC rfl rfl (zH (hI.vl hd 2 rfl) rfl (by kernel_rfl) (kk hg))
  ·cases hi; exact zC rfl rfl (zH (hI.vl hd 3 rfl) rfl (by kernel_rfl) (kk hg))
  ·cases hi; exact zC rfl rfl (zN rfl Tryz.underlying2 (hI.vl hd 4 rfl) (dw hg.1.row).a (kk hg))
  ·cases hi; exact am rfl rfl rfl (kv (hI.ol 0 rfl) hg)
  ·cases hi; exact zC rfl rfl (qK rfl (hI.vl hd 6 rfl) (kk hg))
  ·cases hi; exact zC rfl rfl (zH (hI.vl hd 7 rfl) rfl (by kernel_rfl) (kk hg))
  ·cases hi; exact zC rfl rfl (zN rfl Tryz.underlying2 (hI.vl hd 8 rfl) (dw hg.1.row).n (kk hg))
  ·cases hi; have e0 := hI.vl hd 5 rfl
   have e1 := hI.vl hd 9 rfl
   refine zC rfl rfl (zS rfl Tryz.func261 (by kernel_rfl) (by kernel_rfl) ?_)
   simp only [List.map_cons, List.map_nil, e0, e1]
   refine (zA5 _ _ _).mono ?_
   rintro e w1 ⟨rfl, rfl⟩
   exact ⟨_, rfl, _, rfl, rfl, hg⟩
  ·cases hi; exact zC rfl rfl (zH (hI.vl hd 10 rfl) rfl (by kernel_rfl) (kk hg))
  ·cases hi; exact zC rfl rfl (zH (hI.vl hd 10 rfl) rfl (by kernel_rfl) (kk hg))
  ·exact absurd rfl hne
  omega
 case last =>
  intro L o' A W hi hI hg hd
  cases hi
  have e0 : A.eval (.tmp 2) = .pointer (some ⟨g, 0, none⟩) := hI.val hd 0 2 rfl rfl (by kernel_rfl)
  have e1 : A.eval (.tmp 13) = .int .i64 (subB m.a n) := hI.val hd 11 13 rfl rfl (by kernel_rfl)
  have e2 : A.eval (.tmp 14) = .bool (subC m.a n) := hI.val hd 12 14 rfl rfl (by kernel_rfl)
  refine zC rfl rfl (zS rfl Tryz.func258 (by kernel_rfl) (by kernel_rfl) ?_)
  simp only [List.map_cons, List.map_nil, e0, e1, e2]
  refine (zAw hg.1 _ _).mono ?_
  rintro e w1 ⟨rfl, x1, y1, h1, o1⟩
  exact ⟨_, rfl, _, rfl, rfl, .mk h1 (hg.2.trans o1)⟩
 case done =>
  intro A W hI hE
  exact zZ rfl hI.defers ⟨rfl, hE⟩
set_option maxRecDepth 100000 in
theorem zSv (h : DSt base w g x y m n (-1)) (hok : m.ok = true) (hn : bok n = true) :
  Calls Tryz.prog 262 #[.pointer (some ⟨g, 0, none⟩)] w fun e w' => e = .returned (.tuple #[]) ∧ Done base w w' g (m.does n 12).1 n (m.does n 12).2 := by
 go_enter Tryz.func262, Tryz.ntmps262
 go_wp2_with fail
 refine xA (by kernel_rfl) (by kernel_rfl) 13 (by decide) (by kernel_rfl) (by kernel_rfl) (fun W => DSt base W g x y m n (-1) ∧ Onto g w W) (fun W => Done base w W g (m.does n 12).1 n (m.does n 12).2) [pt g 0, pt g 0, pt g 0, pt g 0, pt g 2, .int .i64 m.a, pt g 0, pt g 0, pt g 25, .int .i64 n, .tuple #[.int .i64 (subB m.a n), .bool (subC m.a n)], .int .i64 (subB m.a n), .bool (subC m.a n), .tuple #[]] ⟨h.drew, (Onto.refl g w).drew⟩ ?step ?last ?done
 case step =>
  intro L ix o' A W hne hi hI hg hd
  have hin : ix < 14 := qB hi
  rcases ix with _ | _ | _ | _ | _ | _ | _ | _ | _ | _ | _ | _ | _ | _ | ix
  ·cases hi; exact am rfl rfl rfl (kv (hI.ol 0 rfl) hg)
  ·cases hi; exact am rfl rfl rfl (kv (hI.ol 0 rfl) hg)
  ·cases hi; exact zC rfl rfl (qK rfl (hI.vl hd 1 rfl) (kk hg))
  ·cases hi; exact zC rfl rfl (zH (hI.vl hd 2 rfl) rfl (by kernel_rfl) (kk hg))
  ·cases hi; exact zC rfl rfl (zH (hI.vl hd 3 rfl) rfl (by kernel_rfl) (kk hg))
  ·cases hi; exact zC rfl rfl (zN rfl Tryz.underlying2 (hI.vl hd 4 rfl) (dw hg.1.row).a (kk hg))
  ·cases hi; exact am rfl rfl rfl (kv (hI.ol 0 rfl) hg)
  ·cases hi; exact zC rfl rfl (qK rfl (hI.vl hd 6 rfl) (kk hg))
  ·cases hi; exact zC rfl rfl (zH (hI.vl hd 7 rfl) rfl (by kernel_rfl) (kk hg))
  ·cases hi; exact zC rfl rfl (zN rfl Tryz.underlying2 (hI.vl hd 8 rfl) (dw hg.1.row).n (kk hg))
  ·cases hi; have e0 := hI.vl hd 5 rfl
   have e1 := hI.vl hd 9 rfl
   refine zC rfl rfl (zS rfl Tryz.func261 (by kernel_rfl) (by kernel_rfl) ?_)
   simp only [List.map_cons, List.map_nil, e0, e1]
   refine (zA5 _ _ _).mono ?_
   rintro e w1 ⟨rfl, rfl⟩
   exact ⟨_, rfl, _, rfl, rfl, hg⟩
  ·cases hi; exact zC rfl rfl (zH (hI.vl hd 10 rfl) rfl (by kernel_rfl) (kk hg))
  ·cases hi; exact zC rfl rfl (zH (hI.vl hd 10 rfl) rfl (by kernel_rfl) (kk hg))
  ·exact absurd rfl hne
  omega
 case last =>
  intro L o' A W hi hI hg hd
  cases hi
  have e0 : A.eval (.tmp 2) = .pointer (some ⟨g, 0, none⟩) := hI.val hd 0 2 rfl rfl (by kernel_rfl)
  have e1 : A.eval (.tmp 13) = .int .i64 (subB m.a n) := hI.val hd 11 13 rfl rfl (by kernel_rfl)
  have e2 : A.eval (.tmp 14) = .bool (subC m.a n) := hI.val hd 12 14 rfl rfl (by kernel_rfl)
  refine zC rfl rfl (zS rfl Tryz.func263 (by kernel_rfl) (by kernel_rfl) ?_)
  simp only [List.map_cons, List.map_nil, e0, e1, e2]
  refine (zF6 hg.1 _ _).mono ?_
  rintro e w1 ⟨rfl, x1, y1, h1, o1⟩
  exact ⟨_, rfl, _, rfl, rfl, .mk h1 (hg.2.trans o1)⟩
 case done =>
  intro A W hI hE
  exact zZ rfl hI.defers ⟨rfl, hE⟩
set_option maxRecDepth 100000 in
theorem zTf (h : DSt base w g x y m n (-1)) (hok : m.ok = true) (hn : bok n = true) :
  Calls Tryz.prog 264 #[.pointer (some ⟨g, 0, none⟩)] w fun e w' => e = .returned (.tuple #[]) ∧ Done base w w' g (m.does n 13).1 n (m.does n 13).2 := by
 go_enter Tryz.func264, Tryz.ntmps264
 go_wp2_with fail
 refine xA (by kernel_rfl) (by kernel_rfl) 11 (by decide) (by kernel_rfl) (by kernel_rfl) (fun W => DSt base W g x y m n (-1) ∧ Onto g w W) (fun W => Done base w W g (m.does n 13).1 n (m.does n 13).2) [pt g 0, pt g 0, pt g 0, pt g 0, pt g 2, .int .i64 m.a, pt g 0, pt g 0, pt g 25, .int .i64 n, .int .i64 (bits .and .i64 m.a n), .tuple #[]] ⟨h.drew, (Onto.refl g w).drew⟩ ?step ?last ?done
 case step =>
  intro L ix o' A W hne hi hI hg hd
  have hin : ix < 12 := qB hi
  rcases ix with _ | _ | _ | _ | _ | _ | _ | _ | _ | _ | _ | _ | ix
  ·cases hi; exact am rfl rfl rfl (kv (hI.ol 0 rfl) hg)
  ·cases hi; exact am rfl rfl rfl (kv (hI.ol 0 rfl) hg)
  ·cases hi; exact zC rfl rfl (qK rfl (hI.vl hd 1 rfl) (kk hg))
  ·cases hi; exact zC rfl rfl (zH (hI.vl hd 2 rfl) rfl (by kernel_rfl) (kk hg))
  ·cases hi; exact zC rfl rfl (zH (hI.vl hd 3 rfl) rfl (by kernel_rfl) (kk hg))
  ·cases hi; exact zC rfl rfl (zN rfl Tryz.underlying2 (hI.vl hd 4 rfl) (dw hg.1.row).a (kk hg))
  ·cases hi; exact am rfl rfl rfl (kv (hI.ol 0 rfl) hg)
  ·cases hi; exact zC rfl rfl (qK rfl (hI.vl hd 6 rfl) (kk hg))
  ·cases hi; exact zC rfl rfl (zH (hI.vl hd 7 rfl) rfl (by kernel_rfl) (kk hg))
  ·cases hi; exact zC rfl rfl (zN rfl Tryz.underlying2 (hI.vl hd 8 rfl) (dw hg.1.row).n (kk hg))
  ·cases hi; exact zC rfl rfl (qP rfl (hI.vl hd 5 rfl) (hI.vl hd 9 rfl) (fun w => by simp [go_sem]) (kk hg))
  ·exact absurd rfl hne
  omega
 case last =>
  intro L o' A W hi hI hg hd
  cases hi
  have e0 : A.eval (.tmp 2) = .pointer (some ⟨g, 0, none⟩) := hI.val hd 0 2 rfl rfl (by kernel_rfl)
  have e1 : A.eval (.tmp 12) = .int .i64 (bits .and .i64 m.a n) := hI.val hd 10 12 rfl rfl (by kernel_rfl)
  refine zC rfl rfl (zS rfl Tryz.func258 (by kernel_rfl) (by kernel_rfl) ?_)
  simp only [List.map_cons, List.map_nil, e0, e1]
  refine (zAw hg.1 _ _).mono ?_
  rintro e w1 ⟨rfl, x1, y1, h1, o1⟩
  exact ⟨_, rfl, _, rfl, rfl, .mk h1 (hg.2.trans o1)⟩
 case done =>
  intro A W hI hE
  exact zZ rfl hI.defers ⟨rfl, hE⟩
set_option maxRecDepth 100000 in
theorem zQb (h : DSt base w g x y m n (-1)) (hok : m.ok = true) (hn : bok n = true) :
  Calls Tryz.prog 265 #[.pointer (some ⟨g, 0, none⟩)] w fun e w' => e = .returned (.tuple #[]) ∧ Done base w w' g (m.does n 14).1 n (m.does n 14).2 := by
 go_enter Tryz.func265, Tryz.ntmps265
 go_wp2_with fail
 refine xA (by kernel_rfl) (by kernel_rfl) 11 (by decide) (by kernel_rfl) (by kernel_rfl) (fun W => DSt base W g x y m n (-1) ∧ Onto g w W) (fun W => Done base w W g (m.does n 14).1 n (m.does n 14).2) [pt g 0, pt g 0, pt g 0, pt g 0, pt g 2, .int .i64 m.a, pt g 0, pt g 0, pt g 25, .int .i64 n, .int .i64 (bits .xor .i64 m.a n), .tuple #[]] ⟨h.drew, (Onto.refl g w).drew⟩ ?step ?last ?done
 case step =>
  intro L ix o' A W hne hi hI hg hd
  have hin : ix < 12 := qB hi
  rcases ix with _ | _ | _ | _ | _ | _ | _ | _ | _ | _ | _ | _ | ix
  ·cases hi; exact am rfl rfl rfl (kv (hI.ol 0 rfl) hg)
  ·cases hi; exact am rfl rfl rfl (kv (hI.ol 0 rfl) hg)
  ·cases hi; exact zC rfl rfl (qK rfl (hI.vl hd 1 rfl) (kk hg))
  ·cases hi; exact zC rfl rfl (zH (hI.vl hd 2 rfl) rfl (by kernel_rfl) (kk hg))
  ·cases hi; exact zC rfl rfl (zH (hI.vl hd 3 rfl) rfl (by kernel_rfl) (kk hg))
  ·cases hi; exact zC rfl rfl (zN rfl Tryz.underlying2 (hI.vl hd 4 rfl) (dw hg.1.row).a (kk hg))
  ·cases hi; exact am rfl rfl rfl (kv (hI.ol 0 rfl) hg)
  ·cases hi; exact zC rfl rfl (qK rfl (hI.vl hd 6 rfl) (kk hg))
  ·cases hi; exact zC rfl rfl (zH (hI.vl hd 7 rfl) rfl (by kernel_rfl) (kk hg))
  ·cases hi; exact zC rfl rfl (zN rfl Tryz.underlying2 (hI.vl hd 8 rfl) (dw hg.1.row).n (kk hg))
  ·cases hi; exact zC rfl rfl (qP rfl (hI.vl hd 5 rfl) (hI.vl hd 9 rfl) (fun w => by simp [go_sem]) (kk hg))
  ·exact absurd rfl hne
  omega
 case last =>
  intro L o' A W hi hI hg hd
  cases hi
  have e0 : A.eval (.tmp 2) = .pointer (some ⟨g, 0, none⟩) := hI.val hd 0 2 rfl rfl (by kernel_rfl)
  have e1 : A.eval (.tmp 12) = .int .i64 (bits .xor .i64 m.a n) := hI.val hd 10 12 rfl rfl (by kernel_rfl)
  refine zC rfl rfl (zS rfl Tryz.func258 (by kernel_rfl) (by kernel_rfl) ?_)
  simp only [List.map_cons, List.map_nil, e0, e1]
  refine (zAw hg.1 _ _).mono ?_
  rintro e w1 ⟨rfl, x1, y1, h1, o1⟩
  exact ⟨_, rfl, _, rfl, rfl, .mk h1 (hg.2.trans o1)⟩
 case done =>
  intro A W hI hE
  exact zZ rfl hI.defers ⟨rfl, hE⟩
theorem zQy (h : DSt base w g x y m n (-1)) (hok : m.ok = true) (hn : bok n = true) :
  Calls Tryz.prog 266 #[.pointer (some ⟨g, 0, none⟩)] w fun e w' => e = .returned (.tuple #[]) ∧ Done base w w' g (m.does n 15).1 n (m.does n 15).2 := by
 have hc := (dw h.row).a
 go_enter Tryz.func266, Tryz.ntmps266
 go_wp2_with (first
  | (go_at_call 267; refine (zBy _ _).mono ?_; rintro e w0 ⟨rfl, rfl⟩)
  | (go_at_call 258; refine (zAw h _ _).mono ?_; rintro e w1 ⟨rfl, x1, y1, h1, o1⟩))
 refine zZ rfl rfl ?_
 exact ⟨rfl, .mk h1 o1⟩
theorem zQx (h : DSt base w g x y m n (-1)) (hok : m.ok = true) (hn : bok n = true) :
  Calls Tryz.prog 268 #[.pointer (some ⟨g, 0, none⟩)] w fun e w' => e = .returned (.tuple #[]) ∧ Done base w w' g (m.does n 16).1 n (m.does n 16).2 := by
 have hc := (dw h.row).a
 go_enter Tryz.func268, Tryz.ntmps268
 go_wp2_with (first
  | (go_at_call 269; refine (zFv _ _).mono ?_; rintro e w0 ⟨rfl, rfl⟩)
  | (go_at_call 258; refine (zAw h _ _).mono ?_; rintro e w1 ⟨rfl, x1, y1, h1, o1⟩))
 refine zZ rfl rfl ?_
 exact ⟨rfl, .mk h1 o1⟩
theorem zR7 (h : DSt base w g x y m n (-1)) (hok : m.ok = true) (hn : bok n = true) :
  Calls Tryz.prog 270 #[.pointer (some ⟨g, 0, none⟩)] w fun e w' => e = .returned (.tuple #[]) ∧ Done base w w' g (m.does n 17).1 n (m.does n 17).2 := by
 have hc := (dw h.row).b
 go_enter Tryz.func270, Tryz.ntmps270
 go_wp2_with (first
  | (go_at_call 246; refine (zAk _ _ _).mono ?_; rintro e w0 ⟨rfl, rfl⟩)
  | (go_at_call 271; refine (zGx h _ _).mono ?_; rintro e w1 ⟨rfl, x1, y1, h1, o1⟩))
 refine zZ rfl rfl ?_
 exact ⟨rfl, .mk h1 o1⟩
theorem zSs (h : DSt base w g x y m n (-1)) (hok : m.ok = true) (hn : bok n = true) :
  Calls Tryz.prog 272 #[.pointer (some ⟨g, 0, none⟩)] w fun e w' => e = .returned (.tuple #[]) ∧ Done base w w' g (m.does n 18).1 n (m.does n 18).2 := by
 have hc := (dw h.row).b
 go_enter Tryz.func272, Tryz.ntmps272
 go_wp2_with (first
  | (go_at_call 261; refine (zA5 _ _ _).mono ?_; rintro e w0 ⟨rfl, rfl⟩)
  | (go_at_call 271; refine (zGx h _ _).mono ?_; rintro e w1 ⟨rfl, x1, y1, h1, o1⟩))
 refine zZ rfl rfl ?_
 exact ⟨rfl, .mk h1 o1⟩
theorem zR3 (h : DSt base w g x y m n (-1)) (hok : m.ok = true) (hn : bok n = true) :
  Calls Tryz.prog 273 #[.pointer (some ⟨g, 0, none⟩)] w fun e w' => e = .returned (.tuple #[]) ∧ Done base w w' g (m.does n 19).1 n (m.does n 19).2 := by
 go_enter Tryz.func273, Tryz.ntmps273
 go_wp2_with (first
  | (go_at_call 274; refine (zA9 h _).mono ?_; rintro e w1 ⟨rfl, x1, y1, h1, o1⟩))
 refine zZ rfl rfl ?_
 exact ⟨rfl, .mk h1 o1⟩
theorem zR0 (h : DSt base w g x y m n (-1)) (hok : m.ok = true) (hn : bok n = true) :
  Calls Tryz.prog 275 #[.pointer (some ⟨g, 0, none⟩)] w fun e w' => e = .returned (.tuple #[]) ∧ Done base w w' g (m.does n 20).1 n (m.does n 20).2 := by
 have hc := (dw h.row).z
 go_enter Tryz.func275, Tryz.ntmps275
 go_wp2_with (first
  | (go_at_call 274; refine (zA9 h _).mono ?_; rintro e w1 ⟨rfl, x1, y1, h1, o1⟩))
 refine zZ rfl rfl ?_
 exact ⟨rfl, .mk h1 o1⟩
theorem zR2 (h : DSt base w g x y m n (-1)) (hok : m.ok = true) (hn : bok n = true) :
  Calls Tryz.prog 276 #[.pointer (some ⟨g, 0, none⟩)] w fun e w' => e = .returned (.tuple #[]) ∧ Done base w w' g (m.does n 21).1 n (m.does n 21).2 := by
 have hc := (dw h.row).z
 go_enter Tryz.func276, Tryz.ntmps276
 go_wp2_with (first
  | (go_at_call 274; refine (zA9 h _).mono ?_; rintro e w1 ⟨rfl, x1, y1, h1, o1⟩))
 refine zZ rfl rfl ?_
 exact ⟨rfl, .mk h1 o1⟩
theorem zR1 (h : DSt base w g x y m n (-1)) (hok : m.ok = true) (hn : bok n = true) :
  Calls Tryz.prog 277 #[.pointer (some ⟨g, 0, none⟩)] w fun e w' => e = .returned (.tuple #[]) ∧ Done base w w' g (m.does n 22).1 n (m.does n 22).2 := by
 have hc := (dw h.row).c
 go_enter Tryz.func277, Tryz.ntmps277
 go_wp2_with (first
  | (go_at_call 274; refine (zA9 h _).mono ?_; rintro e w1 ⟨rfl, x1, y1, h1, o1⟩))
 refine zZ rfl rfl ?_
 exact ⟨rfl, .mk h1 o1⟩
theorem zSy (h : DSt base w g x y m n (-1)) (hok : m.ok = true) (hn : bok n = true) :
  Calls Tryz.prog 278 #[.pointer (some ⟨g, 0, none⟩)] w fun e w' => e = .returned (.tuple #[]) ∧ Done base w w' g (m.does n 23).1 n (m.does n 23).2 := by
 have hc := (dw h.row).pc
 go_enter Tryz.func278, Tryz.ntmps278
 go_wp2_with (first
  | (go_at_call 242; refine (zJs h hok _ (okm.1 hok).pc).mono ?_; rintro e w1 ⟨rfl, x1, y1, h1, o1⟩; have hc1 := (dw h1.row).n)
  | (refine zBd (m' := (m.does n 23).1) (n' := n) (o' := (m.does n 23).2) rfl rfl rfl rfl h1.row rfl rfl ?_; intro w2 r2 o2 s2))
 refine zZ rfl rfl ?_
 exact ⟨rfl, .mk (h1.set r2 o2 rfl rfl) (o1.trans o2)⟩
theorem zQz (h : DSt base w g x y m n (-1)) (hok : m.ok = true) (hn : bok n = true) :
  Calls Tryz.prog 279 #[.pointer (some ⟨g, 0, none⟩)] w fun e w' => e = .returned (.tuple #[]) ∧ Done base w w' g (m.does n 24).1 n (m.does n 24).2 := by
 go_enter Tryz.func279, Tryz.ntmps279
 go_wp2_with (first
  | (go_at_call 280; refine (zDx h hok).mono ?_; rintro e w1 ⟨rfl, x1, y1, h1, o1⟩)
  | (refine zBd (m' := (m.does n 24).1) (n' := n) (o' := -1) rfl rfl rfl rfl h1.row rfl rfl ?_; intro w2 r2 o2 s2; have h2 := h1.set r2 o2 rfl rfl))
 refine zZ rfl rfl ?_
 exact ⟨rfl, .mk h2 (o1.trans o2)⟩
theorem zQ2 (h : DSt base w g x y m n (-1)) (hok : m.ok = true) (hn : bok n = true) :
  Calls Tryz.prog 281 #[.pointer (some ⟨g, 0, none⟩)] w fun e w' => e = .returned (.tuple #[]) ∧ Done base w w' g (m.does n 25).1 n (m.does n 25).2 := by
 have hc := (dw h.row).a
 go_enter Tryz.func281, Tryz.ntmps281
 go_wp2_with (first
  | (go_at_call 242; refine (zJs h hok _ (okm.1 hok).a).mono ?_; rintro e w1 ⟨rfl, x1, y1, h1, o1⟩; have hc1 := (dw h1.row).n))
 refine zZ rfl rfl ?_
 exact ⟨rfl, .mk h1 o1⟩
theorem zQ3 (h : DSt base w g x y m n (-1)) (hok : m.ok = true) (hn : bok n = true) :
  Calls Tryz.prog 282 #[.pointer (some ⟨g, 0, none⟩)] w fun e w' => e = .returned (.tuple #[]) ∧ Done base w w' g (m.does n 26).1 n (m.does n 26).2 := by
 go_enter Tryz.func282, Tryz.ntmps282
 go_wp2_with (first
  | (go_at_call 280; refine (zDx h hok).mono ?_; rintro e w1 ⟨rfl, x1, y1, h1, o1⟩)
  | (refine zBd (m' := (m.does n 26).1) (n' := n) (o' := -1) rfl rfl rfl rfl h1.row rfl rfl ?_; intro w2 r2 o2 s2; have h2 := h1.set r2 o2 rfl rfl))
 refine zZ rfl rfl ?_
 exact ⟨rfl, .mk h2 (o1.trans o2)⟩
theorem zSn (h : DSt base w g x y m n (-1)) (hok : m.ok = true) (hn : bok n = true) :
  Calls Tryz.prog 283 #[.pointer (some ⟨g, 0, none⟩)] w fun e w' => e = .returned (.tuple #[]) ∧ Done base w w' g (m.does n 27).1 n (m.does n 27).2 := by
 go_enter Tryz.func283, Tryz.ntmps283
 go_wp2_with (refine zJo (m' := (m.does n 27).1) rfl rfl rfl rfl h.row rfl rfl ?_; intro w1 r1 o1 s1)
 refine zZ rfl rfl ?_
 exact ⟨rfl, .mk (h.set r1 o1 rfl rfl) o1⟩
theorem zSr (h : DSt base w g x y m n (-1)) (hok : m.ok = true) (hn : bok n = true) :
  Calls Tryz.prog 284 #[.pointer (some ⟨g, 0, none⟩)] w fun e w' => e = .returned (.tuple #[]) ∧ Done base w w' g (m.does n 28).1 n (m.does n 28).2 := by
 go_enter Tryz.func284, Tryz.ntmps284
 go_wp2_with (refine zJo (m' := (m.does n 28).1) rfl rfl rfl rfl h.row rfl rfl ?_; intro w1 r1 o1 s1)
 refine zZ rfl rfl ?_
 exact ⟨rfl, .mk (h.set r1 o1 rfl rfl) o1⟩
theorem zQw (h : DSt base w g x y m n (-1)) (hok : m.ok = true) (hn : bok n = true) :
  Calls Tryz.prog 285 #[.pointer (some ⟨g, 0, none⟩)] w fun e w' => e = .returned (.tuple #[]) ∧ Done base w w' g (m.does n 29).1 n (m.does n 29).2 := by
 go_enter Tryz.func285, Tryz.ntmps285
 go_wp2_with (first
  | (go_at_call 280; refine (zDx h hok).mono ?_; rintro e w1 ⟨rfl, x1, y1, h1, o1⟩)
  | (refine zBd (m' := { m.popd with pc := m.top }) (n' := n) (o' := -1) rfl rfl rfl rfl h1.row rfl rfl ?_; intro w2 r2 o2 s2; have h2 := h1.set r2 o2 rfl rfl)
  | (refine zJo (m' := (m.does n 29).1) rfl rfl rfl rfl h2.row rfl rfl ?_; intro w3 r3 o3 s3))
 refine zZ rfl rfl ?_
 exact ⟨rfl, .mk (h2.set r3 o3 rfl rfl) ((o1.trans o2).trans o3)⟩
theorem zR8 (h : DSt base w g x y m n (-1)) (hok : m.ok = true) (hn : bok n = true) :
  Calls Tryz.prog 286 #[.pointer (some ⟨g, 0, none⟩)] w fun e w' => e = .returned (.tuple #[]) ∧ Done base w w' g (m.does n 30).1 n (m.does n 30).2 := by
 go_enter Tryz.func286, Tryz.ntmps286
 go_wp2_with (refine zJo (m' := (m.does n 30).1) rfl rfl rfl rfl h.row rfl rfl ?_; intro w1 r1 o1 s1)
 refine zZ rfl rfl ?_
 exact ⟨rfl, .mk (h.set r1 o1 rfl rfl) o1⟩
end
theorem xS (i : Int) (w : World) (hi : i = 0 ∨ i = 1 ∨ i = 2) :
  Calls Tryz.prog 213 #[.int .i64 i] w fun e w' => e = .returned (.int .i64 (zA1 i)) ∧ w = w' := by
 rcases hi with rfl | rfl | rfl
 all_goals
  go_enter Tryz.func213, Tryz.ntmps213
  go_wp2
  go_ret
  exact ⟨rfl, rfl⟩
theorem zOo (f : Int) (h0 : 0 ≤ f) (h7 : f ≤ 7) (k : Nat) (hk : k < 3) : (bits .and .i64 f (zA1 (k : Int)) == 0) = decide (¬ f / 2 ^ k % 2 = 1) := by
 have h : ∀ a : Fin 8, ∀ b : Fin 3, (bits .and .i64 (a.val : Int) (zA1 (b.val : Int)) == 0) = decide (¬ (a.val : Int) / 2 ^ b.val % 2 = 1) := by decide +kernel
 obtain ⟨n, rfl⟩ : ∃ n : Nat, f = (n : Int) := ⟨f.toNat, by omega⟩
 exact h ⟨n, by omega⟩ ⟨k, hk⟩
set_option maxRecDepth 100000 in
theorem zGd (f s : Int) (w : World) (hf : 0 ≤ f ∧ f ≤ 7) (hs : 0 ≤ s ∧ s ≤ 7) :
  Calls Tryz.prog 241 #[.int .i64 f, .int .i64 s] w fun e w' => e = .returned (.int .i64 (pend f s)) ∧ ∃ n, w' = w.drewN n := by
 have HF : Hid (∀ k : Nat, k < 3 → (bits .and .i64 f (zA1 (k : Int)) == 0) = decide (¬ f / 2 ^ k % 2 = 1)) := fun k hk => zOo f hf.1 hf.2 k hk
 have HS : Hid (∀ k : Nat, k < 3 → (bits .and .i64 s (zA1 (k : Int)) == 0) = decide (¬ s / 2 ^ k % 2 = 1)) := fun k hk => zOo s hs.1 hs.2 k hk
 have HP : Hid (∀ k : Nat, k < 3 → zB0 f s k → f / 2 ^ k % 2 = 1 → s / 2 ^ k % 2 = 1 → pend f s = k) := fun k hk h h1 h2 => zOd hk h h1 h2
 have HN : Hid (zB0 f s 3 → pend f s = -1) := fun h => zOc h
 clear hf hs
 have i0 : ∀ w, (Instr.index 269 (.agg #[.int .i64 f, .int .i64 s]) (.int .i64 0)).run Tryz.prog w = .ok (.int .i64 f) w := fun w => by kernel_rfl
 have i1 : ∀ w, (Instr.index 269 (.agg #[.int .i64 f, .int .i64 s]) (.int .i64 1)).run Tryz.prog w = .ok (.int .i64 s) w := fun w => by kernel_rfl
 go_enter Tryz.func241, Tryz.ntmps241
 go_wp2
 go_step3
 go_wp2
 go_step3
 go_wp2
 go_loopw [8] (fun i wr => ∃ k : Nat, k ≤ 3 ∧ i = .int .i64 k ∧ zB0 f s k ∧ ∃ n, wr = w.drewN n) (fun i _ => 3 - (intOf i).toNat)
 case atStart => exact ⟨0, by omega, rfl, fun j hj => by omega, 0, rfl⟩
 case round =>
  obtain ⟨k, hk, rfl, hn, n, rfl⟩ := hrel
  by_cases h3 : k = 3
  ·subst h3
   have hp := HN.out hn
   go_wp2
   try rw [Exit.noGoto_ret]
   go_ret
   exact ⟨vB (by rw [hp]), n, rfl⟩
  ·have hk3 : k < 3 := by omega
   have a1 := HF.out k hk3
   have a2 := HS.out k hk3
   have a3 := HP.out k hk3 hn
   have a4 : ¬ (f / 2 ^ k % 2 = 1 ∧ s / 2 ^ k % 2 = 1) → zB0 f s (k + 1) := zDy hn
   obtain ⟨b, HB⟩ : ∃ b, Hid (zA1 (k : Int) = b) := ⟨_, show _ = _ from rfl⟩
   rw [HB.out] at a1 a2
   have hkd : decide ((k : Int) < 3) = true := by simp; omega
   clear HF HS HP HN h3 hk
   by_cases h1 : f / 2 ^ k % 2 = 1
   ·simp only [h1, not_true, decide_false] at a1
    by_cases h2 : s / 2 ^ k % 2 = 1
    ·simp only [h2, not_true, decide_false] at a2
     have HE : Hid (pend f s = k) := a3 h1 h2
     clear a3 a4 h1 h2 hn
     go_wp2
     go_loopw [14] (fun j wr => ∃ q : Nat, q ≤ 2 ∧ j = .int .i64 q ∧ ∃ n, wr = w.drewN n) (fun j _ => 2 - (intOf j).toNat)
     case atStart => exact ⟨0, by omega, rfl, n, rfl⟩
     case round =>
      obtain ⟨q, hq, rfl, n', rfl⟩ := hrel
      obtain rfl | rfl | rfl : q = 0 ∨ q = 1 ∨ q = 2 := by omega
      ·go_wp2_with (go_at_call 213; refine (xS _ _ (by omega)).mono ?_; rintro e w1 ⟨rfl, rfl⟩; rw [HB.out])
       go_roundw
       case rel => exact ⟨1, by omega, rfl, n', rfl⟩
       case measure => simp [intOf]
      ·go_wp2_with (go_at_call 213; refine (xS _ _ (by omega)).mono ?_; rintro e w1 ⟨rfl, rfl⟩; rw [HB.out])
       go_roundw
       case rel => exact ⟨2, by omega, rfl, n', rfl⟩
       case measure => simp [intOf]
      ·go_wp2
       try rw [Exit.noGoto_ret]
       go_ret
       exact ⟨vB (by rw [HE.out]), n', rfl⟩
    ·simp only [h2, not_false_eq_true, decide_true] at a2
     have HE : Hid (zB0 f s (k + 1)) := a4 (fun e => h2 e.2)
     clear a3 a4 h1 h2 hn
     go_wp2
     go_loopw [14] (fun j wr => ∃ q : Nat, q ≤ 1 ∧ j = .int .i64 q ∧ ∃ n, wr = w.drewN n) (fun j _ => 2 - (intOf j).toNat)
     case atStart => exact ⟨0, by omega, rfl, n, rfl⟩
     case round =>
      obtain ⟨q, hq, rfl, n', rfl⟩ := hrel
      obtain rfl | rfl : q = 0 ∨ q = 1 := by omega
      ·go_wp2_with (go_at_call 213; refine (xS _ _ (by omega)).mono ?_; rintro e w1 ⟨rfl, rfl⟩; rw [HB.out])
       go_roundw
       case rel => exact ⟨1, by omega, rfl, n', rfl⟩
       case measure => simp [intOf]
      ·go_wp2_with (go_at_call 213; refine (xS _ _ (by omega)).mono ?_; rintro e w1 ⟨rfl, rfl⟩; rw [HB.out])
       go_roundw
       case rel => exact ⟨k + 1, by omega, by go_num, HE.out, n', rfl⟩
       case measure => simp [intOf]; omega
   ·simp only [h1, not_false_eq_true, decide_true] at a1
    have HE : Hid (zB0 f s (k + 1)) := a4 (fun e => h1 e.1)
    clear a3 a4 h1 hn a2
    go_wp2
    go_loopw [14] (fun j wr => j = .int .i64 0 ∧ ∃ n, wr = w.drewN n) (fun j _ => 2 - (intOf j).toNat)
    case atStart => exact ⟨rfl, n, rfl⟩
    case round =>
     obtain ⟨rfl, n', rfl⟩ := hrel
     go_wp2_with (go_at_call 213; refine (xS _ _ (by omega)).mono ?_; rintro e w1 ⟨rfl, rfl⟩; rw [HB.out])
     go_roundw
     case rel => exact ⟨k + 1, by omega, by go_num, HE.out, n', rfl⟩
     case measure => simp [intOf]; omega
theorem zHy (v : Value) (m : Mc) (w : World) (hm : MSl w v m) :
  Calls Tryz.prog 201 #[v] w fun e w' => e = .returned (.int .i64 m.pendIn) ∧ Below w.heap.size w w' := by
 obtain ⟨vr, va, hv, hr, ha⟩ := hm
 have HP : Hid (m.pendIn = if m.ok then m.pend else -1) := show _ = _ from rfl
 cases hok : m.ok
 ·go_enter Tryz.func201, Tryz.ntmps201
  go_wp2_with (first
   | (refine zP rfl rfl hv ?_; intro w0 r0 hB0)
   | (refine zI rfl rfl rfl r0 ?_)
   | (go_at_call 23; refine (zX _ m _ ⟨vr, va, rfl, hr.below hB0, ha.below hB0⟩).mono ?_; rintro e w2 ⟨rfl, hb2⟩; rw [hok]; have hB3 := hB0.trans (hb2.mono hB0.size)))
  go_ret
  exact ⟨vB (by rw [HP.out, hok]; rfl), hB3⟩
 ·obtain ⟨hf, hs⟩ := Mc.ok_parts hok
  go_enter Tryz.func201, Tryz.ntmps201
  go_wp2_with (first
   | (refine zP rfl rfl hv ?_; intro w0 r0 hB0)
   | (refine zI rfl rfl rfl r0 ?_)
   | (go_at_call 23; refine (zX _ m _ ⟨vr, va, rfl, hr.below hB0, ha.below hB0⟩).mono ?_; rintro e w2 ⟨rfl, hb2⟩; rw [hok]; have hB3 := hB0.trans (hb2.mono hB0.size); replace r0 := r0.below hb2; have k1 := (cw r0).fl; have k2 := (cw r0).ms)
   | (go_at_call 241; refine (zGd _ _ _ hf hs).mono ?_; rintro e w3 ⟨rfl, n3, h3⟩; have hB4 := hB3.trans ((xC h3).mono hB3.size); clear h3))
  go_ret
  exact ⟨vB (by rw [HP.out, hok]; rfl), hB4⟩
theorem zV7 (i j : Int) (x y : Operand) (w : World) (h0 : -9223372036854775808 ≤ i - j) (h1 : i - j ≤ 9223372036854775807) : (do eqGuard .sub 2 x y (.int .i64 i) (.int .i64 j); binOp .sub 2 (.int .i64 i) (.int .i64 j) : Sem Value).run Tryz.prog w = .ok (.int .i64 (i - j)) w := by
 have e : IntKind.i64.wrap (i - j) = i - j := by
  simp [IntKind.wrap, IntKind.bits, IntKind.signed]
  omega
 have : (do eqGuard .sub 2 x y (.int .i64 i) (.int .i64 j); binOp .sub 2 (.int .i64 i) (.int .i64 j) : Sem Value).run Tryz.prog w = .ok (.int .i64 (IntKind.i64.wrap (i - j))) w := by simp [go_sem]
 rw [this, e]
theorem zF {base : Nat} {w : World} {v : Value} {l : List Int} {g : Nat} {cs : Array Value} {T : TypeId} (h : Own base w v l) (hr : Row w g cs T) (hT : T ≠ 2) : v.ownBlock ≠ some g := fun e => by
 rcases h.2 with ⟨rfl, _⟩ | ⟨g', cap, cur, rfl, _, hb, _⟩
 ·simp [Value.ownBlock] at e
 ·have e' : g' = g := Option.some.inj e
  rw [e', hr.row] at hb
  simp only [Option.some.injEq, Obj.cells.injEq] at hb
  exact hT hb.2.1
structure Ca (w : World) (base gr : Nat) (x y : Value) (m M : Mc) (W : World) : Prop where
 row : MRow W w.heap.size x y M
 res : MRow W gr zY zY Mc.nul
 ow : Ow base W x y m
 bel : Below w.heap.size w W
theorem Ca.drew {w : World} {base gr : Nat} {x y : Value} {m M : Mc} {W : World} (h : Ca w base gr x y m M W) : Ca w base gr x y m M W.drew :=
 ⟨h.row.drewN 1, h.res.drewN 1, h.ow.below (xC (n := 1) rfl), h.bel.drew⟩
theorem zWj {x y : Value} (hx : x.oneCell' = true) (hy : y.oneCell' = true) (m : Mc) (n o : Int) : (jE x y m n o).all (·.oneCell') = true := by
 unfold Value.oneCell' at hx hy
 simp only [jE, List.all_toArray, List.all_cons, List.all_nil, Value.oneCell', hx, hy, Bool.and_true]
section
variable {ops : Array Oper} {rest : List Oper} {o : Oper} {a : Act} {w : World} {Q : Exit → Act → World → Prop} {p q : Operand} {g k : Nat} {x y : Value} {m : Mc}
theorem zWl (hgd : o.guard = none) (ho : o.op = .alloc 220)
  (h : ∀ w', DRow w' w.heap.size zY zY Mc.nul 0 0 → Below w.heap.size w w' → wpList Tryz.prog ops Q rest (a.put o.dst (.pointer (some ⟨w.heap.size, 0, none⟩))) w') : wpList Tryz.prog ops Q (o :: rest) a w :=
 wpList_plain hgd fun _ hK => by
  have e : (execOp a.eval o).run Tryz.prog w = .ok (.value (.pointer (some ⟨w.heap.size, 0, none⟩))) (w.alloc (.cells (jE zY zY Mc.nul 0 0) 220)) := by
   unfold execOp
   rw [ho]
   kernel_rfl
  unfold Oper.wp
  rw [e]
  exact hK _ _ (h _ (Row.new _ _ _) ((Below.refl _ _).alloc (Nat.le_refl _) _))
theorem zWb {x0 y0 : Value} {m0 : Mc} {n0 o0 n1 o1 : Int} (hgd : o.guard = none) (ho : o.op = .store 220 p q) (hx : a.eval p = .pointer (some ⟨g, 0, none⟩)) (hy : a.eval q = .agg (jE x y m n1 o1)) (hr : DRow w g x0 y0 m0 n0 o0) (h1 : x.oneCell' = true) (h2 : y.oneCell' = true)
  (h : ∀ w', DRow w' g x y m n1 o1 → Onto g w w' → w'.heap.size = w.heap.size → wpList Tryz.prog ops Q rest (a.put o.dst undef) w') : wpList Tryz.prog ops Q (o :: rest) a w :=
 zBf hgd _ p q ho hx hy hr zOi rfl (zWj h1 h2 m _ _) h
end
theorem zS3 (x y : Value) (m : Mc) : Tryz.prog.built 220 [(0, m.val x y)] = some (jE x y m 0 0) := by kernel_rfl
theorem zWk {ops : Array Oper} {rest : List Oper} {o : Oper} {a : Act} {w : World} {Q : Exit → Act → World → Prop} {p : Operand} {x y : Value} {m : Mc} (hgd : o.guard = none) (ho : o.op = .build 220 #[(0, p)]) (hp : a.eval p = m.val x y) (h : wpList Tryz.prog ops Q rest (a.put o.dst (.agg (jE x y m 0 0))) w) : wpList Tryz.prog ops Q (o :: rest) a w :=
 wpList_plain hgd fun _ hK => zAr (parts := [(0, p)]) (vals := [(0, m.val x y)]) ho (by simp only [List.map_cons, List.map_nil, hp]) (zS3 x y m) (hK _ _ h)
theorem zQ1 {base : Nat} {w : World} {g : Nat} {x y : Value} {m : Mc} {n o : Int} (h : DSt base w g x y m n o) (hok : m.ok = true) (z : Int) (hz : bok z = true) :
  Calls Tryz.prog 242 #[.pointer (some ⟨g, 0, none⟩), .int .i64 z] w fun e w' => e = .returned (.tuple #[]) ∧ ∃ o', Done base w w' g (m.psh z) n o' := by
 have hc := (dw h.row).sp
 have e1 := zN3 (okm.1 hok).sp
 have HE : Hid (({ m with sp := (m.sp + 255) % 256 } : Mc).writtenAt ((m.sp + 255) % 256) z = m.psh z) := zB1 (zLt hok _) (zCz _) hz
 generalize hs : (m.sp + 255) % 256 = s at HE e1
 clear hs
 go_enter Tryz.func242, Tryz.ntmps242
 go_wp2_with (first
  | (go_at_call 261; refine (zA5 _ _ _).mono ?_; rintro e w0 ⟨rfl, rfl⟩; rw [e1])
  | (refine zBd (m' := { m with sp := s }) (n' := n) (o' := o) rfl rfl rfl rfl h.row rfl rfl ?_; intro w1 r1 o1 s1; have h1 := h.set r1 o1 rfl rfl; have hc1 := (dw r1).sp)
  | (go_at_call 254; refine (zDb h1 _ _).mono ?_; rintro e w2 ⟨rfl, x2, y2, h2, o2⟩))
 refine zZ rfl rfl ?_
 have he := HE.out
 rw [he] at h2
 exact ⟨rfl, _, .mk h2 (o1.trans o2)⟩
set_option maxRecDepth 20000 in
theorem zG9 (x y : Value) (m : Mc) (w : World) (base : Nat) (i : Int) (hi : i = 0 ∨ i = 1 ∨ i = 2) (h : Ow base w x y m) (hok : m.ok = true) (hc : m.pend = i) :
  Calls Tryz.prog 202 #[m.woken.val x y, .int .i64 i] w fun e w' => ∃ v, e = .returned v ∧ MOwn base w' v (m.away i) ∧ Below w.heap.size w w' := by
 have hf := qU (okm.1 hok).fl
 have hT := zDq hok hc (by omega)
 have hT' := qU (okm.1 hT).fl
 have HT : Hid ((m.taken i).ok = true) := hT
 have hpc := (okm.1 hok).pc
 have hle := h.le
 have hxl := h.hx.lt
 have hyl := h.hy.lt
 clear hT
 obtain ⟨vv, hvv⟩ : ∃ vv, vv = m.woken.val x y := ⟨_, rfl⟩
 rw [← hvv]
 go_enter Tryz.func202, Tryz.ntmps202
 go_wp2_with (first
  | (refine zP rfl rfl hvv ?_; intro w0 r0 hB0)
  | (refine zR rfl rfl ?_; intro w1 z1 hB1; have r1 := r0.below hB1; have hB2 := hB0.trans (hB1.mono hB0.size); have l0 := r0.lt; have lz := z1.lt)
  | (refine xY (m' := { m.woken with e := false }) rfl rfl rfl rfl r1 rfl rfl ?_; intro w2 r2 o2 s2; have z2 := z1.onto o2 (by omega); have hB3 := zA hB2 o2 (by omega); have h2 := h.below hB3))
 have hG : Ca w base w0.heap.size x y m { m.woken with e := false } w2 := ⟨r2, z2, h2, hB3⟩
 refine xA (by kernel_rfl) (by kernel_rfl) 6 (by decide) (by kernel_rfl) (by kernel_rfl) (fun W => Ca w base w0.heap.size x y m { m.woken with e := false } W) (fun W => Ca w base w0.heap.size x y m (m.taken i) W)
  [.pointer (some ⟨w.heap.size, 11, none⟩), .int .i64 m.fl, .int .i64 i, .int .i64 (zA1 i), .int .i64 (m.fl - zA1 i), .pointer (some ⟨w.heap.size, 11, none⟩), undef] hG.drew ?step ?last ?done
 case step =>
  intro L ix o' A W hne hj hI hg hd
  have hin : ix < 7 := qB hj
  rcases ix with _ | _ | _ | _ | _ | _ | _ | ix
  ·cases hj; exact zC rfl rfl (zH (x := .tmp 2) (hI.ol 2 rfl) rfl (by kernel_rfl) (kk hg))
  ·cases hj; exact zC rfl rfl (zN rfl Tryz.underlying2 (hI.vl hd 0 rfl) (cw hg.row).fl (kk hg))
  ·cases hj; exact am rfl rfl rfl (kv (hI.ol 1 rfl) hg)
  ·cases hj; have e0 : A.eval (.tmp 9) = .int .i64 i := hI.vl hd 2 rfl
   refine zC rfl rfl (zS rfl Tryz.func213 (by kernel_rfl) (by kernel_rfl) ?_)
   simp only [List.map_cons, List.map_nil, e0]
   refine (xS i _ hi).mono ?_
   rintro e w1 ⟨rfl, rfl⟩
   exact ⟨_, rfl, _, rfl, rfl, hg⟩
  ·cases hj; have e0 : A.eval (.tmp 8) = .int .i64 m.fl := hI.vl hd 1 rfl
   have e1 : A.eval (.tmp 10) = .int .i64 (zA1 i) := hI.vl hd 3 rfl
   have hT2 : 0 ≤ m.fl - zA1 i ∧ m.fl - zA1 i ≤ 7 := hT'
   exact zC rfl rfl (qP rfl e0 e1 (fun w => zV7 _ _ _ _ w (by omega) (by omega)) (kk hg))
  ·cases hj; exact zC rfl rfl (zH (x := .tmp 2) (hI.ol 2 rfl) rfl (by kernel_rfl) (kk hg))
  ·exact absurd rfl hne
  omega
 case last =>
  intro L o' A W hj hI hg hd
  cases hj
  have e0 : A.eval (.tmp 12) = .pointer (some ⟨w.heap.size, 11, none⟩) := hI.val hd 5 12 rfl rfl (by kernel_rfl)
  have e1 : A.eval (.tmp 11) = .int .i64 (m.fl - zA1 i) := hI.val hd 4 11 rfl rfl (by kernel_rfl)
  refine zC rfl rfl (zN2 rfl e0 e1 hg.row rfl zBb (by rw [Mc.size]; omega) ?_)
  intro W1 r1 ho
  have hb := hg.bel.size
  exact ⟨_, rfl, rfl, r1, hg.res.onto ho (by omega), hg.ow.at ho (fun e => by have := (hxl _ e).2; omega) (fun e => by have := (hyl _ e).2; omega), zA hg.bel ho (Nat.le_refl _)⟩
 case done =>
  intro A W hI hE
  have hA := hI.frame [7, 8, 9, 10, 11, 12] (by kernel_rfl)
  rw [hA]
  clear hA hI
  simp only [qJ, List.foldl_cons, List.foldl_nil, Act.put, List.setIfInBounds_toArray, List.set_cons_zero, List.set_cons_succ]
  obtain ⟨r3, z3, h3, hB4⟩ := hE
  have hs3 := hB4.size
  have l3 := z3.lt
  have k3 : W.cell? ⟨w.heap.size, 4, none⟩ = some (.int .i64 m.pc) := (cw r3).pc
  clear r0 r1 r2 z1 z2 h2 hG hB0 hB1 hB2 hB3 o2
  go_wp2_with (first
   | (refine zI rfl rfl rfl r3 ?_)
   | (refine zWk rfl rfl rfl ?_)
   | (refine zWl rfl rfl ?_; intro w4 d4 hb4; have hB5 := hB4.trans (hb4.mono hB4.size); have z4 := z3.below hb4; have h4 := h3.below hb4; have k4 : w4.cell? ⟨w.heap.size, 4, none⟩ = some (.int .i64 m.pc) := (cw (r3.below hb4)).pc; have l4 := d4.lt; clear k3)
   | (refine zWb rfl rfl rfl rfl d4 (zB h.hx) (zB h.hy) ?_; intro w5 d5 o5 s5; have z5 := z4.onto o5 (by omega); have r5 := (r3.below hb4).onto o5 (by omega); have k5 : w5.cell? ⟨w.heap.size, 4, none⟩ = some (.int .i64 m.pc) := (cw r5).pc
      have D5 : DSt base w5 W.heap.size x y (m.taken i) 0 0 := ⟨d5, h4.hx.onto o5 (fun e => by have := hxl _ e; omega), h4.hy.onto o5 (fun e => by have := hyl _ e; omega), h.ap, fun e => by have := hxl _ e; omega, fun e => by have := hyl _ e; omega, by omega⟩
      have hB6 := zA hB5 o5 (by omega); clear k4)
   | (go_at_call 242; refine (zQ1 D5 HT.out _ hpc).mono ?_; rintro e w6 ⟨rfl, q6, x6, y6, D6, o6⟩; have z6 := z5.onto o6 (by omega); have hB7 := zA hB6 o6 (by omega))
   | (refine zBd (m' := m.away i) (n' := 0) (o' := q6) rfl rfl rfl rfl D6.row rfl rfl ?_; intro w7 r7 o7 s7; have D7 := D6.set r7 o7 rfl rfl; have z7 := z6.onto o7 (by omega); have hB8 := zA hB7 o7 (by omega))
   | (refine zRo rfl rfl rfl D7.row ?_)
   | (refine zL rfl rfl rfl rfl z7 (zB D7.hx) (zB D7.hy) ?_; intro w8 r8 o8 s8))
  refine qW rfl rfl r8 rfl ?_
  exact ⟨_, rfl, ⟨x6, y6, rfl, D7.hx.onto o8 (zF D7.hx z7 (by decide)), D7.hy.onto o8 (zF D7.hy z7 (by decide)), D7.ap⟩, zA hB8 o8 (by omega)⟩
theorem zGb (v : Value) (m : Mc) (w : World) (hm : MSl w v m) :
  Calls Tryz.prog 134 #[v] w fun e w' => AnsI w.heap.size w' e m.called ∧ Below w.heap.size w w' := by
 obtain ⟨vr, va, hv, hr, ha⟩ := hm
 cases hok : m.ok
 ·have e : m.called = (Mc.nul, -1) := by simp [Mc.called, hok]
  rw [e]
  go_enter Tryz.func134, Tryz.ntmps134
  go_wp2_with (first
   | (refine zP rfl rfl hv ?_; intro w0 r0 hB0)
   | (refine zR rfl rfl ?_; intro w1 z1 hB1; have r1 := r0.below hB1; have hB2 := hB0.trans (hB1.mono hB0.size); have l0 := r0.lt)
   | (refine zI rfl rfl rfl r1 ?_)
   | (go_at_call 23; refine (zX _ m _ ⟨vr, va, rfl, hr.below hB2, ha.below hB2⟩).mono ?_; rintro e w2 ⟨rfl, hb2⟩; rw [hok]; have hB3 := hB2.trans (hb2.mono hB2.size); have z2 := z1.below hb2)
   | (refine zGh rfl rfl ?_)
   | (refine zL rfl rfl rfl rfl z2 rfl rfl ?_; intro w6 r6 o6 s6))
  refine qA rfl rfl r6 rfl rfl ?_
  exact ⟨⟨_, rfl, zFi _ _⟩, zA hB3 o6 (by omega)⟩
 ·have e : m.called = m.call := by simp [Mc.called, hok]
  rw [e]
  have hR := Mc.right hok
  have hR1 := hR.rom
  have hR2 : Hid (m.ram.length = 64) := hR.ram
  have hpi : m.pendIn = m.pend := by simp [Mc.pendIn, hok]
  have hp : m.pend = -1 ∨ m.pend = 0 ∨ m.pend = 1 ∨ m.pend = 2 := zFg m.fl m.ms
  obtain ⟨r, HR⟩ : ∃ r, Hid (r = m.call) := ⟨_, show _ = _ from rfl⟩
  rw [← HR.out]
  clear e
  have hq : Hid (m.ok = true) := hok
  go_enter Tryz.func134, Tryz.ntmps134
  go_wp2_with (first
   | (refine zP rfl rfl hv ?_; intro w0 r0 hB0)
   | (refine zR rfl rfl ?_; intro w1 z1 hB1; have r1 := r0.below hB1; have hB2 := hB0.trans (hB1.mono hB0.size); have l0 := r0.lt; have lz := z1.lt)
   | (refine zI rfl rfl rfl r1 ?_)
   | (go_at_call 23; refine (zX _ m _ ⟨vr, va, rfl, hr.below hB2, ha.below hB2⟩).mono ?_; rintro e w2 ⟨rfl, hb2⟩; rw [hok]; have hB3 := hB2.trans (hb2.mono hB2.size); have z2 := z1.below hb2; replace r1 := r1.below hb2))
  go_at_call 92
  refine (xP _ m _ ⟨vr, va, rfl, hr.below hB3, ha.below hB3⟩ (by omega) (by have := hR2.out; omega) (by omega) (by have := hR2.out; omega)).mono ?_
  rintro e w4 ⟨v4, rfl, ⟨x4, y4, rfl, ho4, hp4, ha4⟩, hb4⟩
  have hB4 := hB3.trans (hb4.mono hB3.size)
  have z4 := z2.below hb4
  have s34 := z2.lt
  have r4 := r1.below hb4
  have lr4 := r4.lt
  have lz4 := z4.lt
  have sB3 := hB3.size
  have sb4 := hb4.size
  have hxl := ho4.lt
  have hyl := hp4.lt
  clear z1 z2 r1
  go_wp2_with (first
   | (refine zR rfl rfl ?_; intro w5 z5 hB5; have lz5 := z5.lt; have r5 := r4.below hB5; have z5' := z4.below hB5; have hp5 := hp4.below hB5; have ho5 := ho4.below hB5)
   | (refine zL rfl rfl rfl rfl z5 (zB ho4) (zB hp4) ?_; intro w6 c6 o6 s6; have hp6 := hp5.onto o6 (fun e => by have := hyl _ e; omega); have ho6 := ho5.onto o6 (fun e => by have := hxl _ e; omega); have z6 := z5'.onto o6 (by omega); have r6 := r5.onto o6 (by omega); have hB6 := zA (hB4.trans (hB5.mono hB4.size)) o6 (by have := hB4.size; omega))
   | (refine zI rfl rfl rfl r6 ?_))
  go_at_call 201
  refine (zHy _ m _ ⟨vr, va, rfl, hr.below hB6, ha.below hB6⟩).mono ?_
  rintro e w7 ⟨rfl, hb7⟩
  rw [hpi]
  have hB7 := hB6.trans (hb7.mono hB6.size)
  have z7 := z6.below hb7
  have c7 := c6.below hb7
  have q7 := r6.below hb7
  have hp7 := hp6.below hb7
  have ho7 := ho6.below hb7
  have ks := (cw q7).s
  have ke := (cw q7).e
  have l7 := c7.lt
  have hw7 : Ow w2.heap.size w7 x4 y4 m := ⟨ho7, hp7, ha4, by omega⟩
  clear r0 r4 r5 r6 c6 z4 z5 z5' z6 hp5 ho5 hp6 ho6 hpi
  obtain ⟨P, HP⟩ : ∃ P, Hid (m.pend = P) := ⟨_, show _ = _ from rfl⟩
  rw [HP.out] at hp ⊢
  by_cases h0 : P < 0
  ·have hr' : r = (m, -1) := by rw [HR.out]; unfold Mc.call; rw [HP.out, if_pos (.inl h0)]
   have HR' : Hid (r = (m, -1)) := hr'
   clear hr'
   obtain rfl : P = -1 := by omega
   go_wp2_with (first
    | (refine zI rfl rfl rfl c7 ?_)
    | (refine zL rfl rfl rfl rfl z7 (zB ho7) (zB hp7) ?_; intro w8 r8 o8 s8))
   refine qA rfl rfl r8 rfl rfl ?_
   rw [HR'.out]
   exact ⟨⟨_, rfl, x4, y4, rfl, (ho7.onto o8 (zF ho7 z7 (by decide))).mono (by omega), (hp7.onto o8 (zF hp7 z7 (by decide))).mono (by omega), ha4⟩, zA hB7 o8 (by omega)⟩
  ·have hp1 : (P == -1) = false := by simp; omega
   cases hs : m.s
   ·rw [hs] at ks
    cases he : m.e
    ·rw [he] at ke
     have HR' : Hid (r = (m.woken, -1)) := show _ = _ by rw [HR.out]; unfold Mc.call; rw [HP.out, hs, if_neg (by simp; omega), he, if_pos rfl]
     go_wp2_with (first
      | (refine xY (m' := m.woken) rfl rfl rfl rfl c7 rfl rfl ?_; intro w8 c8 o8 s8; have z8 := z7.onto o8 (by omega); have q8 := q7.onto o8 (by omega); have ke8 := (cw q8).e; rw [he] at ke8; have ho8 := ho7.onto o8 (zF ho7 c7 (by decide)); have hp8 := hp7.onto o8 (zF hp7 c7 (by decide)); have hB8 := zA hB7 o8 (by omega))
      | (refine zI rfl rfl rfl c8 ?_)
      | (refine zL rfl rfl rfl rfl z8 (zB ho7) (zB hp7) ?_; intro w9 r9 o9 s9))
     refine qA rfl rfl r9 rfl rfl ?_
     rw [HR'.out]
     exact ⟨⟨_, rfl, x4, y4, rfl, (ho8.onto o9 (zF ho8 z8 (by decide))).mono (by omega), (hp8.onto o9 (zF hp8 z8 (by decide))).mono (by omega), ha4⟩, zA hB8 o9 (by omega)⟩
    ·rw [he] at ke
     have HR' : Hid (r = (m.away P, P)) := show _ = _ by rw [HR.out]; unfold Mc.call; rw [HP.out, hs, if_neg (by simp; omega), he, if_neg (by decide)]
     go_wp2_with (first
      | (refine xY (m' := m.woken) rfl rfl rfl rfl c7 rfl rfl ?_; intro w8 c8 o8 s8; have z8 := z7.onto o8 (by omega); have q8 := q7.onto o8 (by omega); have ke8 := (cw q8).e; rw [he] at ke8; have hw8 := hw7.at o8 (zF ho7 c7 (by decide)) (zF hp7 c7 (by decide)); have hB8 := zA hB7 o8 (by omega))
      | (refine zI rfl rfl rfl c8 ?_)
      | (go_at_call 202; refine (zG9 _ _ m _ w2.heap.size P (by omega) hw8 hq.out HP.out).mono ?_; rintro e w9 ⟨v9, rfl, ⟨x9, y9, rfl, hx9, hy9, ha9⟩, hb9⟩; have z9 := z8.below hb9; have hB9 := hB8.trans (hb9.mono hB8.size))
      | (refine zL rfl rfl rfl rfl z9 (zB hx9) (zB hy9) ?_; intro w10 r10 o10 s10))
     refine qA rfl rfl r10 rfl rfl ?_
     rw [HR'.out]
     exact ⟨⟨_, rfl, x9, y9, rfl, (hx9.onto o10 (zF hx9 z9 (by decide))).mono (by omega), (hy9.onto o10 (zF hy9 z9 (by decide))).mono (by omega), ha9⟩, zA hB9 o10 (by omega)⟩
   ·rw [hs] at ks
    have HR' : Hid (r = (m, -1)) := show _ = _ by rw [HR.out]; unfold Mc.call; rw [if_pos (.inr hs)]
    go_wp2_with (first
     | (refine zI rfl rfl rfl c7 ?_)
     | (refine zL rfl rfl rfl rfl z7 (zB ho7) (zB hp7) ?_; intro w8 r8 o8 s8))
    refine qA rfl rfl r8 rfl rfl ?_
    rw [HR'.out]
    exact ⟨⟨_, rfl, x4, y4, rfl, (ho7.onto o8 (zF ho7 z7 (by decide))).mono (by omega), (hp7.onto o8 (zF hp7 z7 (by decide))).mono (by omega), ha4⟩, zA hB7 o8 (by omega)⟩
theorem zBa {m M : Mc} {C : Int} (h : m.called = (M, C)) (v : Value) (w : World) (hm : MSl w v m) :
  Calls Tryz.prog 134 #[v] w fun e w' => ∃ v', e = .returned (.tuple #[v', .int .i64 C]) ∧ MOwn w.heap.size w' v' M ∧ Below w.heap.size w w' := by
 have := zGb v m w hm
 rw [h] at this
 refine this.mono ?_
 rintro e w' ⟨⟨v', rfl, hv'⟩, hb⟩
 exact ⟨v', rfl, hv', hb⟩
end Go.Proofs.YtamldhflkfbdnaaGreatDoor.Mem
namespace Go.Proofs.YtamldhflkfbdnaaGreatDoor.Mem
open Go.ChangeShapes Go.WideShapes Go.RowKit Base Num Slc Slf Rw Tmr Srl Rom Opl Reg

def Plain (T : TypeId) : Prop := T ≠ 40 ∧ T ≠ 82
structure Mild (base : Nat) (w w' : World) : Prop where
 os : w'.os = w.os
 tape : w'.tape = w.tape
 output : w'.output = w.output
 size : w.heap.size ≤ w'.heap.size
 block : ∀ k, k < w.heap.size → (k < base ∨ ∀ cs T fz, w.heap[k]? = some (.cells cs T fz) → Plain T) → w'.heap[k]? = w.heap[k]?
section
variable {base : Nat} {w w' w'' : World}
theorem Mild.of (h : Below w.heap.size w w') : Mild base w w' := ⟨h.os, h.tape, h.output, h.size, fun k hk _ => h.block k hk⟩
theorem Mild.refl (base : Nat) (w : World) : Mild base w w := .of (Below.refl _ _)
theorem Mild.trans (h : Mild base w w') (k : Mild base w' w'') : Mild base w w'' :=
 ⟨k.os.trans h.os, k.tape.trans h.tape, k.output.trans h.output, Nat.le_trans h.size k.size, fun j hj hp => by
  have e := h.block j hj hp
  refine (k.block j (Nat.lt_of_lt_of_le hj h.size) ?_).trans e
  rw [e]; exact hp⟩
theorem Mild.row (h : Mild base w w') {g : Nat} {cs : Array Value} {T : TypeId} (hr : Row w g cs T) (hT : Plain T) : Row w' g cs T :=
 hr.keep (h.block g hr.lt (.inr fun cs' T' fz e => by
  rw [hr.row] at e
  simp only [Option.some.injEq, Obj.cells.injEq] at e
  exact e.2.1 ▸ hT))
theorem Mild.own (h : Mild base w w') {b : Nat} {v : Value} {l : List Int} (ho : Own b w v l) : Own b w' v l := by
 refine ⟨ho.1, ?_⟩
 have hlt := ho.lt
 rcases ho.2 with h0 | ⟨g, cap, cur, rfl, hb, hg, rest⟩
 ·exact .inl h0
 ·refine .inr ⟨g, cap, cur, rfl, hb, ?_, rest⟩
  rw [h.block g (hlt g rfl).2 (.inr fun cs' T' fz e => by
   rw [hg] at e
   simp only [Option.some.injEq, Obj.cells.injEq] at e
   rw [← e.2.1]
   exact ⟨by decide, by decide⟩)]
  exact hg
theorem Mild.ow (h : Mild base w w') {b : Nat} {x y : Value} {m : Mc} (ho : Ow b w x y m) : Ow b w' x y m := ⟨h.own ho.hx, h.own ho.hy, ho.ap, Nat.le_trans ho.le h.size⟩
theorem Mild.old (h : Mild base w w') {α : Type} {f : Fl α} {v : Value} {l : List α} (hs : SlF f w v l) (hv : 0 < l.length → ∀ k, v.ownBlock = some k → k < base) : SlF f w' v l := by
 obtain ⟨a, cap, rfl, h1, h2⟩ := hs
 refine ⟨a, cap, rfl, h1.keep h.size (fun h0 x hx => h.block _ (h1.lt h0 x hx) (.inl (hv h0 _ (by subst hx; rfl)))), h2⟩
theorem Mild.below {w0 : World} (h : Mild base w w') (hb : Below w0.heap.size w0 w) (hs : w0.heap.size ≤ base) : Below w0.heap.size w0 w' :=
 ⟨h.os.trans hb.os, h.tape.trans hb.tape, h.output.trans hb.output, Nat.le_trans hb.size h.size, fun k hk => (h.block k (Nat.lt_of_lt_of_le hk hb.size) (.inl (by omega))).trans (hb.block k hk)⟩
theorem Mild.new {g : Nat} (h : Mild base w w') (ho : Onto g w' w'') (hg : w.heap.size ≤ g) : Mild base w w'' :=
 ⟨ho.os.trans h.os, ho.tape.trans h.tape, ho.output.trans h.output, Nat.le_trans h.size ho.size, fun k hk hp => by
  have := h.size
  rw [ho.block k (by omega) (by omega)]; exact h.block k hk hp⟩
theorem Mild.grown {α : Type} {f : Fl α} {v : Value} {l : List α} (hT : ¬ Plain f.T) (ho : OwnF f base w v l) (hg : w.grownBy w' v.ownBlock) : Mild base w w' :=
 ⟨hg.os, hg.tape, hg.output, hg.size, fun k hk hp => by
  refine hg.block k hk (fun e => ?_)
  rcases ho.2 with ⟨rfl, _⟩ | ⟨g, cap, cur, rfl, hb, hq, _⟩
  ·simp [Value.ownBlock] at e
  ·have e' : k = g := Option.some.inj e
   subst e'
   rcases hp with hp | hp
   ·omega
   ·exact hT (hp _ _ _ hq)⟩
theorem OwnF.apart {α β : Type} {f : Fl α} {f' : Fl β} {b b' : Nat} {v v' : Value} {l : List α} {l' : List β} (h : OwnF f b w v l) (h' : OwnF f' b' w v' l') (hT : f.T ≠ f'.T) : ∀ k, v.ownBlock = some k → v'.ownBlock ≠ some k := fun k hk hk' => by
 rcases h.2 with ⟨rfl, _⟩ | ⟨g, cap, cur, rfl, hb, hq, _⟩
 ·simp [Value.ownBlock] at hk
 ·rcases h'.2 with ⟨rfl, _⟩ | ⟨g', cap', cur', rfl, hb', hq', _⟩
  ·simp [Value.ownBlock] at hk'
  ·have e1 : g = k := Option.some.inj hk
   have e2 : g' = k := Option.some.inj hk'
   rw [e1] at hq
   rw [e2, hq] at hq'
   simp only [Option.some.injEq, Obj.cells.injEq] at hq'
   exact hT hq'.2.1
end
structure So (base : Nat) (w : World) (x y vo ve : Value) (s : St) : Prop where
 ow : Ow base w x y s.m
 o : OwnF fM base w vo s.o
 e : OwnF fE base w ve s.e
theorem So.below {base : Nat} {w w' : World} {x y vo ve : Value} {s : St} (h : So base w x y vo ve s) (hb : Below w.heap.size w w') : So base w' x y vo ve s := ⟨h.ow.below hb, h.o.below hb, h.e.below hb⟩
theorem So.row {base g : Nat} {w w' : World} {x y vo ve : Value} {s : St} {cs : Array Value} {T : TypeId} (h : So base w x y vo ve s) (ho : Onto g w w') (hr : Row w g cs T) (hT : Plain T) (hi : T ≠ 2) : So base w' x y vo ve s :=
 ⟨h.ow.at ho (zF h.ow.hx hr hi) (zF h.ow.hy hr hi), h.o.onto ho (h.o.not_row hr hT.1), h.e.onto ho (h.e.not_row hr hT.2)⟩
theorem So.as {base : Nat} {w : World} {x y vo ve : Value} {s s' : St} (h : So base w x y vo ve s) (h1 : s'.m.rom = s.m.rom) (h2 : s'.m.ram = s.m.ram) (h3 : s'.o = s.o) (h4 : s'.e = s.e) : So base w x y vo ve s' := ⟨h.ow.as h1 h2, h3 ▸ h.o, h4 ▸ h.e⟩
theorem zJ : Plain 36 := ⟨by decide, by decide⟩
end Go.Proofs.YtamldhflkfbdnaaGreatDoor.Mem
namespace Go.Proofs.YtamldhflkfbdnaaGreatDoor.Draw
open Go.ChangeShapes Go.WideShapes Go.RowKit Base

structure jR (w : World) (p : Nat) (a : Option Addr) (len cap : Nat) : Prop where
 c0 : w.cell? ⟨p, 0, none⟩ = some (.slice a len cap)
 c1 : ∃ i : Nat, w.cell? ⟨p, 1, none⟩ = some (.int .i64 i) ∧ i ≤ len
 c2 : ∃ h : Int, w.cell? ⟨p, 2, none⟩ = some (.int .i64 h)
 f : ∀ o, w.frozen? ⟨p, o, none⟩ = false
 code : jW w a len
 apart : 0 < len → ∀ x, a = some x → x.block ≠ p
 few : len ≤ 4096
theorem jR.lt {w : World} {p : Nat} {a : Option Addr} {len cap : Nat} (h : jR w p a len cap) : p < w.heap.size := zAs h.c0

theorem jR.onto {w w' : World} {p q : Nat} {a : Option Addr} {len cap : Nat} (h : jR w p a len cap) (ho : Onto q w w') (hq : p ≠ q) (hx : 0 < len → ∀ x, a = some x → x.block ≠ q) : jR w' p a len cap := by
 have hl := h.lt
 obtain ⟨c0, ⟨i, c1, hi⟩, ⟨g, c2⟩, f, hcode, hap, hfew⟩ := h
 exact ⟨by rw [ho.cell (q := ⟨p, 0, none⟩) hq hl]; exact c0, ⟨i, by rw [ho.cell (q := ⟨p, 1, none⟩) hq hl]; exact c1, hi⟩, ⟨g, by rw [ho.cell (q := ⟨p, 2, none⟩) hq hl]; exact c2⟩,
  fun o => by rw [ho.frozen (q := ⟨p, o, none⟩) hq hl]; exact f o, hcode.onto ho hx, hap, hfew⟩
theorem jR.below {w w' : World} {p : Nat} {a : Option Addr} {len cap : Nat} (h : jR w p a len cap) (ho : Below w.heap.size w w') : jR w' p a len cap := by
 have hl := h.lt
 obtain ⟨c0, ⟨i, c1, hi⟩, ⟨g, c2⟩, f, hcode, hap, hfew⟩ := h
 exact ⟨by rw [ho.cell (p := ⟨p, 0, none⟩) hl]; exact c0, ⟨i, by rw [ho.cell (p := ⟨p, 1, none⟩) hl]; exact c1, hi⟩, ⟨g, by rw [ho.cell (p := ⟨p, 2, none⟩) hl]; exact c2⟩,
  fun o => by rw [ho.frozen (p := ⟨p, o, none⟩) hl]; exact f o, hcode.below ho, hap, hfew⟩
theorem jR.set2 {w : World} {p : Nat} {a : Option Addr} {len cap : Nat} (h : jR w p a len cap) (g' : Int) : jR (w.setCell ⟨p, 2, none⟩ (.int .i64 g')) p a len cap := by
 obtain ⟨c0, ⟨i, c1, hi⟩, ⟨g, c2⟩, f, hcode, hap, hfew⟩ := h
 exact ⟨by rw [World.cell?_setCell_other _ _ _ _ (by simp)]; exact c0, ⟨i, by rw [World.cell?_setCell_other _ _ _ _ (by simp)]; exact c1, hi⟩, ⟨g', World.cell?_setCell_same _ _ _ c2⟩,
  fun o => by rw [World.frozen?_setCell]; exact f o, hcode.onto ((Onto.refl p w).setCell (q := ⟨p, 2, none⟩) rfl _) hap, hap, hfew⟩
theorem jR.set1 {w : World} {p : Nat} {a : Option Addr} {len cap : Nat} (h : jR w p a len cap) (j : Nat) (hj : j ≤ len) : jR (w.setCell ⟨p, 1, none⟩ (.int .i64 (j : Int))) p a len cap := by
 obtain ⟨c0, ⟨i, c1, hi⟩, ⟨g, c2⟩, f, hcode, hap, hfew⟩ := h
 exact ⟨by rw [World.cell?_setCell_other _ _ _ _ (by simp)]; exact c0, ⟨j, World.cell?_setCell_same _ _ _ c1, hj⟩, ⟨g, by rw [World.cell?_setCell_other _ _ _ _ (by simp)]; exact c2⟩,
  fun o => by rw [World.frozen?_setCell]; exact f o, hcode.onto ((Onto.refl p w).setCell (q := ⟨p, 1, none⟩) rfl _) hap, hap, hfew⟩
theorem jR.drewN {w : World} {p : Nat} {a : Option Addr} {len cap : Nat} (h : jR w p a len cap) (n : Nat) : jR (w.drewN n) p a len cap := ⟨h.c0, h.c1, h.c2, h.f, h.code, h.apart, h.few⟩

structure qI (p : Nat) (a : Option Addr) (len cap : Nat) (w0 w : World) : Prop where
 onto : Onto p w0 w
 cur : jR w p a len cap
theorem jR.drawn {w : World} {p : Nat} {a : Option Addr} {len cap : Nat} (h : jR w p a len cap) : qI p a len cap w w := ⟨Onto.refl _ _, h⟩
theorem qI.alloc {w0 w : World} {p : Nat} {a : Option Addr} {len cap : Nat} (h : qI p a len cap w0 w) (o : Obj) : qI p a len cap w0 (w.alloc o) :=
 ⟨h.onto.alloc o, h.cur.below ((Below.refl _ _).alloc (Nat.le_refl _) _)⟩
theorem qI.below {w0 w w' : World} {p : Nat} {a : Option Addr} {len cap : Nat} (h : qI p a len cap w0 w) (hb : Below w.heap.size w w') : qI p a len cap w0 w' :=
 ⟨h.onto.trans ⟨hb.os, hb.tape, hb.output, hb.size, fun k _ hk => hb.block k hk⟩, h.cur.below hb⟩
theorem qI.drewN {w0 w : World} {p : Nat} {a : Option Addr} {len cap : Nat} (h : qI p a len cap w0 w) (n : Nat) : qI p a len cap w0 (w.drewN n) := ⟨h.onto.drewN n, h.cur.drewN n⟩

def InR (z : Int) : Prop := -9223372036854775808 ≤ z ∧ z ≤ 9223372036854775807
theorem pick {p : Nat} {w w1 : World} {C : Array Value} {T : TypeId} (ho : Onto p (w.alloc (.cells C T)) w1) (hp : p < w.heap.size) (hC : ∀ v ∈ C.toList, ∃ z : Int, v = .int .i64 z ∧ InR z) (j : Nat) (hj : j < C.size) :
  ∃ z : Int, w1.cell? ⟨w.heap.size, j, none⟩ = some (.int .i64 z) ∧ InR z := by
 obtain ⟨z, hz, hr⟩ := hC C[j] (by simp)
 refine ⟨z, ?_, hr⟩
 rw [ho.cell (q := ⟨w.heap.size, j, none⟩) (by show w.heap.size ≠ p; omega) (by simp), World.cell?_alloc_new, Array.getElem?_eq_getElem hj, hz]

theorem zMz {w0 : World} {p : Nat} {a : Option Addr} {len cap : Nat} (w : World) (h : qI p a len cap w0 w) :
  Calls Tryz.prog 156 #[.pointer (some ⟨p, 0, none⟩)] w fun e w' => ∃ x : Int, e = .returned (.int .i64 x) ∧ 0 ≤ x ∧ x ≤ 255 ∧ Onto p w w' ∧ qI p a len cap w0 w' := by
 have H : Hid (jR w p a len cap) := h.cur
 have HO : Hid (Onto p w0 w) := h.onto
 obtain ⟨c0, ⟨i, c1, hi⟩, ⟨g, c2⟩, f, hcode, hap, hfew⟩ := h.cur
 clear h
 have f1 := f 1
 have f2 := f 2
 by_cases hlt : i < len
 ·rcases hcode with h0 | ⟨b, off, rfl, hb, hc⟩
  ·omega
  ·obtain ⟨z, hz, hz0, hz1⟩ := hc i hlt
   have hne : b ≠ p := hap (by omega) _ rfl
   go_enter Tryz.func156, Tryz.ntmps156
   go_wp2
   go_quiet (fail)
   go_wp2
   go_quiet (fail)
   go_wp2
   go_quiet (fail)
   go_wp2
   go_ret
   refine ⟨_, rfl, (zCl _ 255 (by omega) (by omega)).1, (zCl _ 255 (by omega) (by omega)).2, (((Onto.refl p w).setCell rfl _).drewN _).setCell rfl _, ((HO.out.setCell rfl _).drewN _).setCell rfl _, ?_⟩
   exact ((H.out.set2 _).drewN _).set1 (i + 1) (by omega)
 ·have hge : ¬ (i : Int) < (len : Int) := by omega
  go_enter Tryz.func156, Tryz.ntmps156
  go_wp2
  go_quiet (fail)
  go_wp2
  go_quiet (fail)
  go_wp2
  go_ret
  refine ⟨_, rfl, (zCl _ 255 (by omega) (by omega)).1, (zCl _ 255 (by omega) (by omega)).2, (((Onto.refl p w).setCell rfl _).drewN _).drewN _, ((HO.out.setCell rfl _).drewN _).drewN _, ?_⟩
  exact ((H.out.set2 _).drewN _).drewN _

theorem zCs {x n : Int} (hn : 0 < n) : x % n = ((x % n).toNat : Int) ∧ ((x % n).toNat : Int) < n := by
 have := Int.emod_nonneg x (by omega : n ≠ 0)
 have := Int.emod_lt_of_pos x hn
 omega
theorem below_any {w0 : World} {p : Nat} {a : Option Addr} {len cap : Nat} (n : Int) (w : World) (h : qI p a len cap w0 w) (hn : 0 < n) :
  Calls Tryz.prog 71 #[.pointer (some ⟨p, 0, none⟩), .int .i64 n] w fun e w' => ∃ r : Nat, e = .returned (.int .i64 (r : Int)) ∧ (r : Int) < n ∧ Onto p w w' ∧ qI p a len cap w0 w' := by
 have hn0 : ¬ n ≤ 0 := by omega
 by_cases hs : n ≤ 256
 ·go_enter Tryz.func71, Tryz.ntmps71
  go_wp2_with (go_at_call 156; refine (zMz _ h).mono ?_; rintro e w1 ⟨x, rfl, hx0, hx1, ho, hc⟩)
  go_ret
  exact ⟨(x % n).toNat, vB (zCs hn).1, (zCs hn).2, ho, hc⟩
 ·have h1 : Hid (qI p a len cap w0 w) := h
  have h := h.cur.drawn
  go_enter Tryz.func71, Tryz.ntmps71
  go_wp2_with (go_at_call 156; refine (zMz (w0 := w) _ (by assumption)).mono ?_; rintro e w1 ⟨x, rfl, hx0, hx1, _, hc⟩; clear h; have h := hc; clear hc)
  go_ret
  exact ⟨_, vB (zCs hn).1, (zCs hn).2, h.onto, h1.out.onto.trans h.onto, h.cur⟩

theorem vS {w0 : World} {p : Nat} {a : Option Addr} {len cap : Nat} (n : Int) (w : World) (h : qI p a len cap w0 w) (hn : 0 < n) :
  Calls Tryz.prog 67 #[.pointer (some ⟨p, 0, none⟩), .int .i64 n] w fun e w' => ∃ r : Bool, e = .returned (.bool r) ∧ Onto p w w' ∧ qI p a len cap w0 w' := by
 go_enter Tryz.func67, Tryz.ntmps67
 go_wp2_with (go_at_call 71; refine (below_any _ _ h hn).mono ?_; rintro e w1 ⟨x, rfl, hx1, ho, hc⟩)
 go_ret
 exact ⟨_, rfl, ho, hc⟩

theorem zTv {w0 : World} {p : Nat} {a : Option Addr} {len cap : Nat} (w : World) (h : qI p a len cap w0 w) :
  Calls Tryz.prog 154 #[.pointer (some ⟨p, 0, none⟩)] w fun e w' => ∃ x : Int, e = .returned (.int .i64 x) ∧ InR x ∧ Onto p w w' ∧ qI p a len cap w0 w' := by
 have hp := h.cur.lt
 go_enter Tryz.func154, Tryz.ntmps154
 go_wp2_with (go_at_call 71; refine (below_any _ _ (h.alloc _) (by omega)).mono ?_; rintro e w1 ⟨r, rfl, hr, ho, hc⟩; obtain ⟨z, hz, hzr⟩ := pick ho hp (by simp [InR]) r (by simp; omega))
 go_ret
 exact ⟨z, rfl, hzr, ((Onto.refl p w).alloc _).trans ho, hc⟩

theorem zTw (m n : Int) (w : World) :
  Calls Tryz.prog 155 #[.int .i64 m, .int .i64 n] w fun e w' => e = .returned (.int .i64 (min m n)) ∧ w' = w := by
 by_cases h : m < n
 ·rw [Int.min_eq_left (by omega)]
  go_enter Tryz.func155, Tryz.ntmps155
  go_wp2
  go_ret
  exact ⟨rfl, rfl⟩
 ·rw [Int.min_eq_right (by omega)]
  go_enter Tryz.func155, Tryz.ntmps155
  go_wp2
  go_ret
  exact ⟨rfl, rfl⟩

theorem zB5 {w0 : World} {p : Nat} {a : Option Addr} {len cap : Nat} (most : Int) (w : World) (h : qI p a len cap w0 w) (h0 : 0 ≤ most) (h1 : most ≤ 4611686018427387904) :
  Calls Tryz.prog 68 #[.pointer (some ⟨p, 0, none⟩), .int .i64 most] w fun e w' => ∃ x : Int, e = .returned (.int .i64 x) ∧ InR x ∧ Onto p w w' ∧ qI p a len cap w0 w' := by
 have hp := h.cur.lt
 have h' := h.cur.drawn
 have H : Hid (Onto p w0 w) := h.onto
 clear h
 go_enter Tryz.func68, Tryz.ntmps68
 go_wp2_with (first
  | (go_at_call 67; refine (vS (w0 := w) _ _ (by assumption) (by omega)).mono ?_; rintro e w1 ⟨r, rfl, _, hc⟩; cases r)
  | (go_at_call 154; refine (zTv (w0 := w) _ (by assumption)).mono ?_; rintro e w1 ⟨x, rfl, hxr, _, hc⟩)
  | (go_at_call 155; refine (zTw _ _ _).mono ?_; rintro e w1 ⟨rfl, rfl⟩)
  | (go_at_call 71; refine (below_any (w0 := w) _ _ (by assumption) (by omega)).mono ?_; rintro e w1 ⟨r, rfl, hr, _, hc⟩)
  | (go_at_call 71; refine (below_any (w0 := w) _ _ (qI.alloc (by assumption) _) (by omega)).mono ?_; rintro e w1 ⟨r, rfl, hr, ho, hc⟩; obtain ⟨z, hz, hzr⟩ := pick ho (qI.cur (by assumption)).lt (by simp [InR]; (try unfold InR at *); omega) r (by simp; omega)))
 all_goals go_ret
 ·exact ⟨_, rfl, by unfold InR; omega, hc.onto, H.out.trans hc.onto, hc.cur⟩
 ·exact ⟨_, rfl, by unfold InR; omega, hc.onto, H.out.trans hc.onto, hc.cur⟩
 ·exact ⟨_, rfl, hzr, hc.onto, H.out.trans hc.onto, hc.cur⟩

theorem zKi (a : Option Addr) (len cap : Nat) (w : World) (hc : jW w a len) (hl : len ≤ 4096) :
  Calls Tryz.prog 56 #[.slice a len cap] w fun e w' => e = .returned (.pointer (some ⟨w.heap.size, 0, none⟩)) ∧ Below w.heap.size w w' ∧ jR w' w.heap.size a len cap := by
 go_enter Tryz.func56, Tryz.ntmps56
 go_wp2
 go_loop [3, 4] (fun h i => ∃ k : Nat, k ≤ len ∧ i = .int .i64 k ∧ ∃ g : Int, h = .int .i64 g ∧ 0 ≤ g ∧ g ≤ 1073741823) (fun _ i => len - (intOf i).toNat)
 case atStart => exact ⟨0, Nat.zero_le _, rfl, _, rfl, by omega, by omega⟩
 case round =>
  obtain ⟨k, hk, rfl, g, rfl, hg0, hg1⟩ := hrel
  by_cases hlt : k < len
  ·rcases hc with h0 | ⟨b, off, rfl, hb, hcell⟩
   ·omega
   ·obtain ⟨z, hz, hz0, hz1⟩ := hcell k hlt
    go_wp2
    go_round
    case rel => exact ⟨k + 1, by omega, by go_num, _, rfl, (zCl _ 1073741823 (by omega) (by omega)).1, (zCl _ 1073741823 (by omega) (by omega)).2⟩
    case measure => simp [intOf]; omega
  ·have HC : Hid (jW w a len) := hc
   clear hc
   go_wp2
   go_ret
   exact ⟨rfl, (Below.refl _ _).alloc (Nat.le_refl _) _, by simp, ⟨0, by simp, by omega⟩, ⟨g, by simp⟩, fun o => by simp, HC.out.below ((Below.refl _ _).alloc (Nat.le_refl _) _), fun h0 x hx => by have := HC.out.lt h0 x hx; omega, hl⟩
theorem zBv {w0 : World} {p : Nat} {a : Option Addr} {len cap : Nat} (lo hi : Int) (w : World) (h : qI p a len cap w0 w) (h0 : lo ≤ hi) (h1 : -1000000 ≤ lo) (h2 : hi ≤ 1000000000000) :
  Calls Tryz.prog 69 #[.pointer (some ⟨p, 0, none⟩), .int .i64 lo, .int .i64 hi] w fun e w' => ∃ x : Int, e = .returned (.int .i64 x) ∧ (lo ≤ x ∧ x ≤ hi) ∧ Onto p w w' ∧ qI p a len cap w0 w' := by
 go_enter Tryz.func69, Tryz.ntmps69
 go_wp2_with (go_at_call 71; refine (below_any _ _ h (by omega)).mono ?_; rintro e w1 ⟨r, rfl, hr, ho, hd⟩)
 go_ret
 exact ⟨_, rfl, by omega, ho, hd⟩
section
variable {w0 w w' : World} {p b : Nat} {a : Option Addr} {len cap : Nat}
theorem zPq (h : qI p a len cap w0 w) {q : Addr} (hp : p < w0.heap.size) (hx : 0 < len → ∀ x, a = some x → x.block < w0.heap.size) (hq : w0.heap.size ≤ q.block) (v : Value) : qI p a len cap w0 (w.setCell q v) :=
 ⟨h.onto.setNew hq v, h.cur.onto ((Onto.refl q.block w).setCell rfl v) (by omega) (fun h0 x e => by have := hx h0 x e; omega)⟩
def OldC (p : Nat) (a : Option Addr) (len : Nat) (w0 : World) : Prop := p < w0.heap.size ∧ (0 < len → ∀ x, a = some x → x.block < w0.heap.size)
theorem zQ (h : qI p a len cap w0 w) {q : Nat} (ho : Onto q w w') (hq : w0.heap.size ≤ q) (hold : OldC p a len w0) : qI p a len cap w0 w' :=
 ⟨⟨ho.os.trans h.onto.os, ho.tape.trans h.onto.tape, ho.output.trans h.onto.output, Nat.le_trans h.onto.size ho.size, fun k hk hl => by
  have := h.onto.size
  rw [ho.block k (by omega) (by omega)]; exact h.onto.block k hk hl⟩,
  h.cur.onto ho (by have := hold.1; omega) (fun h0 x e => by have := hold.2 h0 x e; omega)⟩
end
end Go.Proofs.YtamldhflkfbdnaaGreatDoor.Draw
namespace Go.Proofs.YtamldhflkfbdnaaGreatDoor.Dice
open Go.ChangeShapes Go.WideShapes Go.RowKit Base Draw

structure jH (w : World) (p : Nat) (a : Option Addr) (len cap : Nat) : Prop where
 c0 : w.cell? ⟨p, 0, none⟩ = some (.slice a len cap)
 c1 : ∃ i : Nat, w.cell? ⟨p, 1, none⟩ = some (.int .i64 i) ∧ i ≤ len
 c2 : ∃ h : Int, w.cell? ⟨p, 2, none⟩ = some (.int .u64 h)
 f : ∀ o, w.frozen? ⟨p, o, none⟩ = false
 code : jW w a len
 apart : 0 < len → ∀ x, a = some x → x.block ≠ p
 few : len ≤ 4096
theorem jH.lt {w : World} {p : Nat} {a : Option Addr} {len cap : Nat} (h : jH w p a len cap) : p < w.heap.size := zAs h.c0
theorem jH.onto {w w' : World} {p q : Nat} {a : Option Addr} {len cap : Nat} (h : jH w p a len cap) (ho : Onto q w w') (hq : p ≠ q) (hx : 0 < len → ∀ x, a = some x → x.block ≠ q) : jH w' p a len cap := by
 have hl := h.lt
 obtain ⟨c0, ⟨i, c1, hi⟩, ⟨g, c2⟩, f, hcode, hap, hfew⟩ := h
 exact ⟨by rw [ho.cell (q := ⟨p, 0, none⟩) hq hl]; exact c0, ⟨i, by rw [ho.cell (q := ⟨p, 1, none⟩) hq hl]; exact c1, hi⟩, ⟨g, by rw [ho.cell (q := ⟨p, 2, none⟩) hq hl]; exact c2⟩,
  fun o => by rw [ho.frozen (q := ⟨p, o, none⟩) hq hl]; exact f o, hcode.onto ho hx, hap, hfew⟩
theorem jH.below {w w' : World} {p : Nat} {a : Option Addr} {len cap : Nat} (h : jH w p a len cap) (ho : Below w.heap.size w w') : jH w' p a len cap := by
 have hl := h.lt
 obtain ⟨c0, ⟨i, c1, hi⟩, ⟨g, c2⟩, f, hcode, hap, hfew⟩ := h
 exact ⟨by rw [ho.cell (p := ⟨p, 0, none⟩) hl]; exact c0, ⟨i, by rw [ho.cell (p := ⟨p, 1, none⟩) hl]; exact c1, hi⟩, ⟨g, by rw [ho.cell (p := ⟨p, 2, none⟩) hl]; exact c2⟩,
  fun o => by rw [ho.frozen (p := ⟨p, o, none⟩) hl]; exact f o, hcode.below ho, hap, hfew⟩
theorem jH.set2 {w : World} {p : Nat} {a : Option Addr} {len cap : Nat} (h : jH w p a len cap) (g' : Int) : jH (w.setCell ⟨p, 2, none⟩ (.int .u64 g')) p a len cap := by
 obtain ⟨c0, ⟨i, c1, hi⟩, ⟨g, c2⟩, f, hcode, hap, hfew⟩ := h
 exact ⟨by rw [World.cell?_setCell_other _ _ _ _ (by simp)]; exact c0, ⟨i, by rw [World.cell?_setCell_other _ _ _ _ (by simp)]; exact c1, hi⟩, ⟨g', World.cell?_setCell_same _ _ _ c2⟩,
  fun o => by rw [World.frozen?_setCell]; exact f o, hcode.onto ((Onto.refl p w).setCell (q := ⟨p, 2, none⟩) rfl _) hap, hap, hfew⟩
theorem jH.set1 {w : World} {p : Nat} {a : Option Addr} {len cap : Nat} (h : jH w p a len cap) (j : Nat) (hj : j ≤ len) : jH (w.setCell ⟨p, 1, none⟩ (.int .i64 (j : Int))) p a len cap := by
 obtain ⟨c0, ⟨i, c1, hi⟩, ⟨g, c2⟩, f, hcode, hap, hfew⟩ := h
 exact ⟨by rw [World.cell?_setCell_other _ _ _ _ (by simp)]; exact c0, ⟨j, World.cell?_setCell_same _ _ _ c1, hj⟩, ⟨g, by rw [World.cell?_setCell_other _ _ _ _ (by simp)]; exact c2⟩,
  fun o => by rw [World.frozen?_setCell]; exact f o, hcode.onto ((Onto.refl p w).setCell (q := ⟨p, 1, none⟩) rfl _) hap, hap, hfew⟩
theorem jH.drewN {w : World} {p : Nat} {a : Option Addr} {len cap : Nat} (h : jH w p a len cap) (n : Nat) : jH (w.drewN n) p a len cap := ⟨h.c0, h.c1, h.c2, h.f, h.code, h.apart, h.few⟩
theorem jH.drew {w : World} {p : Nat} {a : Option Addr} {len cap : Nat} (h : jH w p a len cap) : jH w.drew p a len cap := ⟨h.c0, h.c1, h.c2, h.f, h.code, h.apart, h.few⟩

theorem rem1 {b z n : Int} (hb : 0 ≤ b ∧ b ≤ 16777215) (hz0 : 0 ≤ z) (hz1 : z ≤ 255) (hn : 0 < n) : (wrap64 (wrap64 b + z)).tmod n = (((b + z) % n).toNat : Int) := by
 have e1 : wrap64 b = b := by unfold wrap64; omega
 have e2 : wrap64 (b + z) = b + z := by unfold wrap64; omega
 rw [e1, e2, Int.tmod_eq_emod_of_nonneg (by omega)]
 exact (zCs hn).1
theorem rem0 {b n : Int} (hb : 0 ≤ b ∧ b ≤ 16777215) (hn : 0 < n) : (wrap64 b).tmod n = ((b % n).toNat : Int) := by
 have e1 : wrap64 b = b := by unfold wrap64; omega
 rw [e1, Int.tmod_eq_emod_of_nonneg (by omega)]
 exact (zCs hn).1
theorem below_any (p : Nat) (a : Option Addr) (len cap : Nat) (n : Int) (w : World) (h : jH w p a len cap) (hn : 0 < n) :
  Calls Tryz.prog 30 #[.pointer (some ⟨p, 0, none⟩), .int .i64 n] w fun e w' => ∃ r : Nat, e = .returned (.int .i64 (r : Int)) ∧ (r : Int) < n ∧ Onto p w w' ∧ jH w' p a len cap := by
 have H : Hid (jH w p a len cap) := h
 obtain ⟨c0, ⟨i, c1, hi⟩, ⟨g, c2⟩, f, hcode, hap, hfew⟩ := h
 have f1 := f 1
 have f2 := f 2
 by_cases hlt : i < len
 ·rcases hcode with h0 | ⟨b, off, rfl, hb, hc⟩
  ·omega
  ·obtain ⟨z, hz, hz0, hz1⟩ := hc i hlt
   have hne : b ≠ p := hap (by omega) _ rfl
   clear hap hc
   go_enter Tryz.func30, Tryz.ntmps30
   go_wp2
   go_quiet (fail)
   go_wp2
   go_quiet (fail)
   go_wp2
   go_ret
   exact ⟨_, vB (rem1 (zIy _ 16777215 (by omega) (by omega)) hz0 hz1 hn), (zCs hn).2, (((Onto.refl p w).setCell rfl _).drewN _).setCell rfl _, ((H.out.set2 _).drewN _).set1 (i + 1) (by omega)⟩
 ·have hge : ¬ (i : Int) < (len : Int) := by omega
  go_enter Tryz.func30, Tryz.ntmps30
  go_wp2
  go_quiet (fail)
  go_wp2
  go_ret
  exact ⟨_, vB (rem0 (zIy _ 16777215 (by omega) (by omega)) hn), (zCs hn).2, ((Onto.refl p w).setCell rfl _).drewN _, (H.out.set2 _).drewN _⟩
end Go.Proofs.YtamldhflkfbdnaaGreatDoor.Dice
namespace Go.Proofs.YtamldhflkfbdnaaGreatDoor.DrawRom
open Go.ChangeShapes Go.WideShapes Go.RowKit Base Draw Slc Num Rom RomOf

theorem zSu {w w' : World} {p : Nat} {a : Option Addr} {len cap : Nat} (h : jR w p a len cap) (hs : w.heap.size ≤ w'.heap.size) (hp : w'.heap[p]? = w.heap[p]?)
  (hk : 0 < len → ∀ x, a = some x → w'.heap[x.block]? = w.heap[x.block]?) : jR w' p a len cap := by
 obtain ⟨c0, ⟨i, c1, hi⟩, ⟨g, c2⟩, f, hcode, hap, hfew⟩ := h
 exact ⟨by rw [World.cell?_of_block (w := w) (a := ⟨p, 0, none⟩) hp]; exact c0, ⟨i, by rw [World.cell?_of_block (w := w) (a := ⟨p, 1, none⟩) hp]; exact c1, hi⟩, ⟨g, by rw [World.cell?_of_block (w := w) (a := ⟨p, 2, none⟩) hp]; exact c2⟩,
  fun o => by rw [World.frozen?_of_block (w := w) (a := ⟨p, o, none⟩) hp]; exact f o, hcode.keep hs hk, hap, hfew⟩
def Old (w0 : World) (p : Nat) (a : Option Addr) (len : Nat) : Prop := p < w0.heap.size ∧ (0 < len → ∀ x, a = some x → x.block < w0.heap.size)
theorem zVi {w : World} {p : Nat} {a : Option Addr} {len cap : Nat} (h : jR w p a len cap) : Old w p a len := ⟨h.lt, h.code.lt⟩
theorem zMu {w0 w w' : World} {p : Nat} {a : Option Addr} {len cap : Nat} {row : Option Nat} (h : qI p a len cap w0 w) (ho : Old w0 p a len) (hg : w.grownBy w' row) (hr : ∀ k, row = some k → w0.heap.size ≤ k) : qI p a len cap w0 w' := by
 have hsz := h.onto.size
 have key : ∀ k, k < w0.heap.size → w'.heap[k]? = w.heap[k]? := fun k hk => hg.block k (by omega) (fun e => by have := hr k e.symm; omega)
 exact ⟨⟨hg.os.trans h.onto.os, hg.tape.trans h.onto.tape, hg.output.trans h.onto.output, Nat.le_trans hsz hg.size, fun k hk hl => (key k hl).trans (h.onto.block k hk hl)⟩,
  zSu h.cur hg.size (key p ho.1) (fun h0 x hx => key _ (ho.2 h0 x hx))⟩
end Go.Proofs.YtamldhflkfbdnaaGreatDoor.DrawRom
namespace Go.Proofs.YtamldhflkfbdnaaGreatDoor.Tmr
open Go.ChangeShapes Go.WideShapes Go.RowKit Base Num Slc Rw Draw Reg

structure Dst (p : Nat) (a : Option Addr) (len cap : Nat) (w0 : World) (b : Nat) (w : World) : Prop where
 drawn : qI p a len cap w0 w
 row : ∃ t : Tm, Row w b #[.int .i64 t.c, .int .i64 t.v, .int .i64 t.s, .int .i64 t.m] 26
 ne : p < b
 new : w0.heap.size ≤ b
section
variable {w0 w w' : World} {p b : Nat} {a : Option Addr} {len cap : Nat}
theorem Dst.alloc (h : Dst p a len cap w0 b w) (o : Obj) : Dst p a len cap w0 b (w.alloc o) := ⟨h.drawn.alloc o, h.row.imp fun t r => r.alloc o, h.ne, h.new⟩
theorem Dst.drew (h : Dst p a len cap w0 b w) : Dst p a len cap w0 b w.drew := ⟨h.drawn.drewN 1, h.row.imp fun t r => r.drewN 1, h.ne, h.new⟩
theorem Dst.drewN (h : Dst p a len cap w0 b w) (n : Nat) : Dst p a len cap w0 b (w.drewN n) := ⟨h.drawn.drewN n, h.row.imp fun t r => r.drewN n, h.ne, h.new⟩
theorem Dst.onto (h : Dst p a len cap w0 b w) (ho : Onto p w w') (hd : qI p a len cap w0 w') : Dst p a len cap w0 b w' := ⟨hd, h.row.imp fun t r => r.onto ho (by have := h.ne; omega), h.ne, h.new⟩
theorem Dst.ret (h : Dst p a len cap w0 b w) {fn : Func} {R : Ending → World → Prop} {A : Act} {q : Tmp} (hr : fn.results = #[.cell q 26]) (hp : A.tmps.getD q undef = .pointer (some ⟨b, 0, none⟩)) (hde : A.defers = [])
  (hR : ∀ t : Tm, R (.returned t.val) w) : bodyPost Tryz.prog fn R .ret A w := by
 obtain ⟨t, r⟩ := h.row
 exact qQ hr hp r zAm rfl jI hde (hR t)
end


def KTm (v : Value) (w : World) : Prop := ∃ t : Tm, v = t.val
theorem zS5 (X : Nat → Prop) : Bears X KTm := fun _ _ _ h _ => h
section
variable {w0 : World} {p b : Nat} {a : Option Addr} {len cap : Nat}
theorem zDa {Q : Exit → Act → World → Prop} {X : Nat → Prop} (hX : X p) {A : Act} {w : World} {o : Oper} {x : Operand} {n : Int} {tys : Array TypeId} (hG : Dst p a len cap w0 b w)
  (ho : o.op = .call { callee := .value (.func 71), args := [x, .const (.int .i64 n)].toArray, argTypes := tys }) (hx : A.eval x = .pointer (some ⟨p, 0, none⟩)) (hn : 0 < n) (T : Value → World → Prop) (hT : ∀ v w', KIdx n v w' → T v w') :
  o.wp Tryz.prog A w (fun a' w' => ∃ v, a' = A.put o.dst v ∧ T v w' ∧ Dst p a len cap w0 b w' ∧ Rel X w w') Q := by
 refine zS ho Tryz.func71 (by kernel_rfl) (by kernel_rfl) ?_
 show Calls Tryz.prog 71 #[A.eval x, .int .i64 n] w _
 rw [hx]
 refine (below_any n w hG.drawn hn).mono ?_
 rintro e w1 ⟨r, rfl, hr, ho, hd⟩
 exact ⟨_, rfl, _, rfl, hT _ _ ⟨r, rfl, hr⟩, hG.onto ho hd, Rel.onto ho hX⟩
end
theorem zOj : (Tryz.prog.info? 2).map (·.size) = some 1 := by kernel_rfl
set_option maxHeartbeats 4000000 in
set_option maxRecDepth 100000 in
theorem zIb {w0 : World} {p : Nat} {a : Option Addr} {len cap : Nat} (w : World) (h : qI p a len cap w0 w) :
  Calls Tryz.prog 199 #[.pointer (some ⟨p, 0, none⟩)] w fun e w' => ∃ t : Tm, e = .returned t.val ∧ Onto p w w' ∧ qI p a len cap w0 w' := by
 have hp := h.cur.lt
 have hold : OldC p a len w := ⟨hp, h.cur.code.lt⟩
 have HH : Hid (Onto p w0 w) := h.onto
 have hS : Dst p a len cap w w.heap.size (w.alloc (.cells #[.int .i64 0, .int .i64 0, .int .i64 0, .int .i64 0] 26)) := ⟨h.cur.drawn.alloc _, ⟨⟨0, 0, 0, 0⟩, Row.new _ _ _⟩, hp, Nat.le_refl _⟩
 clear h
 go_enter Tryz.func199, Tryz.ntmps199
 go_wp2
 refine vK (by kernel_rfl) (by kernel_rfl) (fun w' => Dst p a len cap w w.heap.size w')
  (kinds [KIs (.pointer (some ⟨p, 0, none⟩)), KIdx 500, KIs (.pointer (some ⟨p, 0, none⟩)), KIdx 256, KLit (fun k => k = p ∨ k = w.heap.size) 4, KIs (.pointer (some ⟨p, 0, none⟩)), KIdx 4, KAt (fun k => k = p ∨ k = w.heap.size) 4, KInt, KIs (.pointer (some ⟨p, 0, none⟩)), KIdx 256, KLit (fun k => k = p ∨ k = w.heap.size) 3, KIs (.pointer (some ⟨p, 0, none⟩)), KIdx 3, KAt (fun k => k = p ∨ k = w.heap.size) 3, KInt, KIs (.pointer (some ⟨p, 0, none⟩)), KIdx 8, KTm, KAny])
  (Rel fun k => k = p ∨ k = w.heap.size) (by kernel_rfl) (jS ?mono) hS.drew ?step ?done
 case mono =>
  intro K hK
  simp only [List.mem_cons, List.not_mem_nil, or_false] at hK
  rcases hK with rfl | rfl | rfl | rfl | rfl | rfl | rfl | rfl | rfl | rfl | rfl | rfl | rfl | rfl | rfl | rfl | rfl | rfl | rfl | rfl
  all_goals first | exact zO _ _ | exact zCa _ _ | exact zP2 _ _ | exact zS6 _ _ | exact zM _ | exact zS5 _ | exact bears_any _
 case step =>
  intro L i o A W hi hI hL hd
  have hi20 : i < 20 := by
   by_cases hl : i < 20
   ·exact hl
   ·simp [hl] at hi
  rcases i with _ | i
  ·cases hi; exact am rfl rfl rfl ⟨_, rfl, hI.ol 0 rfl, hI.g, Rel.refl _ _⟩
  rcases i with _ | i
  ·cases hi; have e : A.eval (.tmp 3) = .pointer (some ⟨p, 0, none⟩) := hI.get hd 0 3 rfl (by kernel_rfl); exact zC rfl rfl (zDa (.inl rfl) hI.g rfl e (by omega) _ fun _ _ h => h)
  rcases i with _ | i
  ·cases hi; exact am rfl rfl rfl ⟨_, rfl, hI.ol 0 rfl, hI.g, Rel.refl _ _⟩
  rcases i with _ | i
  ·cases hi; have e : A.eval (.tmp 5) = .pointer (some ⟨p, 0, none⟩) := hI.get hd 2 5 rfl (by kernel_rfl); exact zC rfl rfl (zDa (.inl rfl) hI.g rfl e (by omega) _ fun _ _ h => h)
  rcases i with _ | i
  ·cases hi; obtain ⟨r, e, hr⟩ : KIdx 256 (A.eval (.tmp 6)) W := hI.get hd 3 6 rfl (by kernel_rfl)
   have hl := hI.g.drawn.cur.lt
   have hlr : w.heap.size < W.heap.size := by obtain ⟨t, r⟩ := hI.g.row; exact r.lt
   exact zC rfl rfl (zF7 (vals := [(0, .int .i64 0), (1, .int .i64 250), (2, .int .i64 255), (3, .int .i64 (r : Int))]) (cs := #[.int .i64 0, .int .i64 250, .int .i64 255, .int .i64 (r : Int)]) rfl zBq zD5 (by rw [← e]; rfl) (by omega) (by omega) (by kernel_rfl)
    ⟨_, rfl, ⟨_, rfl, zFt.new (by omega) #[.int .i64 0, .int .i64 250, .int .i64 255, .int .i64 (r : Int)] _ (by simp)⟩, hI.g.alloc _, Rel.alloc _ _ _⟩)
  rcases i with _ | i
  ·cases hi; exact am rfl rfl rfl ⟨_, rfl, hI.ol 0 rfl, hI.g, Rel.refl _ _⟩
  rcases i with _ | i
  ·cases hi; have e : A.eval (.tmp 8) = .pointer (some ⟨p, 0, none⟩) := hI.get hd 5 8 rfl (by kernel_rfl); exact zC rfl rfl (zDa (.inl rfl) hI.g rfl e (by omega) _ fun _ _ h => h)
  rcases i with _ | i
  ·cases hi; obtain ⟨b, e1, hb⟩ : KLit (fun k => k = p ∨ k = w.heap.size) 4 (A.eval (.tmp 7)) W := hI.get hd 4 7 rfl (by kernel_rfl)
   obtain ⟨r, e2, hr⟩ : KIdx 4 (A.eval (.tmp 9)) W := hI.get hd 6 9 rfl (by kernel_rfl)
   exact zC rfl rfl (zCf rfl zBq zOj e1 e2 (by omega) ⟨_, rfl, ⟨b, r, rfl, by omega, hb⟩, hI.g, Rel.refl _ _⟩)
  rcases i with _ | i
  ·cases hi; obtain ⟨b, r, e, hr, hb⟩ : KAt (fun k => k = p ∨ k = w.heap.size) 4 (A.eval (.tmp 10)) W := hI.get hd 7 10 rfl (by kernel_rfl)
   obtain ⟨z, hz⟩ := hb.2.2 r hr
   exact zC rfl rfl (zN rfl Tryz.underlying2 e hz ⟨_, rfl, ⟨z, rfl⟩, hI.g, Rel.refl _ _⟩)
  rcases i with _ | i
  ·cases hi; exact am rfl rfl rfl ⟨_, rfl, hI.ol 0 rfl, hI.g, Rel.refl _ _⟩
  rcases i with _ | i
  ·cases hi; have e : A.eval (.tmp 12) = .pointer (some ⟨p, 0, none⟩) := hI.get hd 9 12 rfl (by kernel_rfl); exact zC rfl rfl (zDa (.inl rfl) hI.g rfl e (by omega) _ fun _ _ h => h)
  rcases i with _ | i
  ·cases hi; obtain ⟨r, e, hr⟩ : KIdx 256 (A.eval (.tmp 13)) W := hI.get hd 10 13 rfl (by kernel_rfl)
   have hl := hI.g.drawn.cur.lt
   have hlr : w.heap.size < W.heap.size := by obtain ⟨t, r⟩ := hI.g.row; exact r.lt
   exact zC rfl rfl (zF7 (vals := [(0, .int .i64 0), (1, .int .i64 255), (2, .int .i64 (r : Int))]) (cs := #[.int .i64 0, .int .i64 255, .int .i64 (r : Int)]) rfl zBq zD5 (by rw [← e]; rfl) (by omega) (by omega) (by kernel_rfl)
    ⟨_, rfl, ⟨_, rfl, zFt.new (by omega) #[.int .i64 0, .int .i64 255, .int .i64 (r : Int)] _ (by simp)⟩, hI.g.alloc _, Rel.alloc _ _ _⟩)
  rcases i with _ | i
  ·cases hi; exact am rfl rfl rfl ⟨_, rfl, hI.ol 0 rfl, hI.g, Rel.refl _ _⟩
  rcases i with _ | i
  ·cases hi; have e : A.eval (.tmp 15) = .pointer (some ⟨p, 0, none⟩) := hI.get hd 12 15 rfl (by kernel_rfl); exact zC rfl rfl (zDa (.inl rfl) hI.g rfl e (by omega) _ fun _ _ h => h)
  rcases i with _ | i
  ·cases hi; obtain ⟨b, e1, hb⟩ : KLit (fun k => k = p ∨ k = w.heap.size) 3 (A.eval (.tmp 14)) W := hI.get hd 11 14 rfl (by kernel_rfl)
   obtain ⟨r, e2, hr⟩ : KIdx 3 (A.eval (.tmp 16)) W := hI.get hd 13 16 rfl (by kernel_rfl)
   exact zC rfl rfl (zCf rfl zBq zOj e1 e2 (by omega) ⟨_, rfl, ⟨b, r, rfl, by omega, hb⟩, hI.g, Rel.refl _ _⟩)
  rcases i with _ | i
  ·cases hi; obtain ⟨b, r, e, hr, hb⟩ : KAt (fun k => k = p ∨ k = w.heap.size) 3 (A.eval (.tmp 17)) W := hI.get hd 14 17 rfl (by kernel_rfl)
   obtain ⟨z, hz⟩ := hb.2.2 r hr
   exact zC rfl rfl (zN rfl Tryz.underlying2 e hz ⟨_, rfl, ⟨z, rfl⟩, hI.g, Rel.refl _ _⟩)
  rcases i with _ | i
  ·cases hi; exact am rfl rfl rfl ⟨_, rfl, hI.ol 0 rfl, hI.g, Rel.refl _ _⟩
  rcases i with _ | i
  ·cases hi; have e : A.eval (.tmp 19) = .pointer (some ⟨p, 0, none⟩) := hI.get hd 16 19 rfl (by kernel_rfl); exact zC rfl rfl (zDa (.inl rfl) hI.g rfl e (by omega) _ fun _ _ h => h)
  rcases i with _ | i
  ·cases hi; obtain ⟨r, e1, _⟩ : KIdx 500 (A.eval (.tmp 4)) W := hI.get hd 1 4 rfl (by kernel_rfl)
   obtain ⟨y, e2⟩ : KInt (A.eval (.tmp 11)) W := hI.get hd 8 11 rfl (by kernel_rfl)
   obtain ⟨z, e3⟩ : KInt (A.eval (.tmp 18)) W := hI.get hd 15 18 rfl (by kernel_rfl)
   obtain ⟨m, e4, _⟩ : KIdx 8 (A.eval (.tmp 20)) W := hI.get hd 17 20 rfl (by kernel_rfl)
   exact zC rfl rfl (zAr (vals := [(0, .int .i64 (r : Int)), (1, .int .i64 y), (2, .int .i64 z), (3, .int .i64 (m : Int))]) (cs := #[.int .i64 (r : Int), .int .i64 y, .int .i64 z, .int .i64 (m : Int)]) rfl (by rw [← e1, ← e2, ← e3, ← e4]; rfl) (by kernel_rfl)
    ⟨_, rfl, ⟨⟨r, y, z, m⟩, rfl⟩, hI.g, Rel.refl _ _⟩)
  rcases i with _ | i
  ·cases hi; obtain ⟨t, e1⟩ : KTm (A.eval (.tmp 21)) W := hI.get hd 18 21 rfl (by kernel_rfl)
   have e2 := hI.ol 2 rfl
   obtain ⟨u, hr⟩ := hI.g.row
   have ho : Onto w.heap.size W (W.setRow w.heap.size #[.int .i64 t.c, .int .i64 t.v, .int .i64 t.s, .int .i64 t.m]) := ⟨rfl, rfl, rfl, by simp, fun k hk _ => setRow_other W _ k _ hk⟩
   exact zC rfl rfl (wp_store_row _ _ _ rfl _ _ e2 e1 _ _ hr.row jI rfl (by simp [Value.oneCell'])
    ⟨_, rfl, trivial, ⟨zQ hI.g.drawn ho (Nat.le_refl _) hold, ⟨t, Row.of (setRow_heap W _ _ _ _ _ hr.row)⟩, hI.g.ne, hI.g.new⟩, Rel.onto ho (.inr rfl)⟩)
  omega
 case done =>
  intro A W hI
  have e2 : A.tmps.getD 2 undef = .pointer (some ⟨w.heap.size, 0, none⟩) := hI.old 2 (by kernel_rfl)
  have hA := jC A 22 hI.size
  have hg := hI.g
  have hde : A.defers = [] := hI.defers
  rw [hde, show List.range 22 = [0, 1, 2, 3, 4, 5, 6, 7, 8, 9, 10, 11, 12, 13, 14, 15, 16, 17, 18, 19, 20, 21] from rfl] at hA
  simp only [List.map_cons, List.map_nil, e2] at hA
  rw [hA]
  clear hA e2 hI hde
  go_wp2
  refine Dst.ret hg rfl rfl rfl ?_
  intro t
  exact ⟨t, rfl, hg.drawn.onto, HH.out.trans hg.drawn.onto, hg.drawn.cur⟩
theorem Row.some {w : World} {b : Nat} {t : Tm} {T : TypeId} (h : Row w b #[.int .i64 t.c, .int .i64 t.v, .int .i64 t.s, .int .i64 t.m] T) (i : Nat) (x : Int) : ∃ u : Tm, Row (w.setCell ⟨b, i, none⟩ (.int .i64 x)) b #[.int .i64 u.c, .int .i64 u.v, .int .i64 u.s, .int .i64 u.m] T := by
 have hs := h.set i (.int .i64 x)
 rcases i with _ | _ | _ | _ | i
 ·exact ⟨⟨x, t.v, t.s, t.m⟩, by simpa using hs⟩
 ·exact ⟨⟨t.c, x, t.s, t.m⟩, by simpa using hs⟩
 ·exact ⟨⟨t.c, t.v, x, t.m⟩, by simpa using hs⟩
 ·exact ⟨⟨t.c, t.v, t.s, x⟩, by simpa using hs⟩
 ·exact ⟨t, by simpa using hs⟩
set_option maxHeartbeats 4000000 in
theorem zJe {w0 : World} {p : Nat} {a : Option Addr} {len cap : Nat} (w : World) (h : qI p a len cap w0 w) :
  Calls Tryz.prog 131 #[.pointer (some ⟨p, 0, none⟩)] w fun e w' => ∃ t : Tm, e = .returned t.val ∧ Onto p w w' ∧ qI p a len cap w0 w' := by
 have hp := h.cur.lt
 have hold : OldC p a len w := ⟨hp, h.cur.code.lt⟩
 have HH : Hid (Onto p w0 w) := h.onto
 have hS : Dst p a len cap w w.heap.size (w.alloc (.cells #[.int .i64 0, .int .i64 0, .int .i64 0, .int .i64 0] 26)) := ⟨h.cur.drawn.alloc _, ⟨⟨0, 0, 0, 0⟩, Row.new _ _ _⟩, hp, Nat.le_refl _⟩
 clear h
 go_enter Tryz.func131, Tryz.ntmps131
 go_wp2_with fail
 go_at_call 199
 refine (zIb (w0 := w) _ hS.drawn).mono ?_
 rintro e w1 ⟨t, rfl, ho1, hd1⟩
 replace hS := hS.onto ho1 hd1
 have ht : t.val = .agg #[.int .i64 t.c, .int .i64 t.v, .int .i64 t.s, .int .i64 t.m] := rfl
 rw [ht]
 clear ho1 hd1
 have hlt1 : w.heap.size < w1.heap.size := by obtain ⟨u, r⟩ := hS.row; exact r.lt
 have r3 := Row.new w1 #[.int .i64 t.c, .int .i64 t.v, .int .i64 t.s, .int .i64 t.m] 26
 replace hS := hS.alloc (.cells #[.int .i64 t.c, .int .i64 t.v, .int .i64 t.s, .int .i64 t.m] 26)
 have hp1 : p ≠ w1.heap.size := by omega
 go_wp2_with fail
 go_at_call 67
 refine (vS _ _ hS.drawn (by omega)).mono ?_
 rintro e w2 ⟨q, rfl, ho2, hd2⟩
 replace hS := hS.onto ho2 hd2
 replace r3 := r3.onto ho2 (Ne.symm hp1)
 clear ho2 hd2
 cases q
 ·obtain ⟨u, r0⟩ := hS.row
  have c3 := r3.cell
  go_wp2_with (refine zCc rfl rfl rfl rfl r0 rfl ?_; intro w3 r4 ho4 hs4)
  refine qQ rfl rfl r4 zAm rfl jI rfl ?_
  have hd4 := zQ hS.drawn ho4 (Nat.le_refl _) hold
  exact ⟨t, rfl, hd4.onto, HH.out.trans hd4.onto, hd4.cur⟩
 ·go_wp2_with fail
  go_at_call 71
  refine (below_any _ _ hS.drawn (by omega)).mono ?_
  rintro e w3 ⟨r, rfl, hr, ho3, hd3⟩
  replace hS := hS.onto ho3 hd3
  replace r3 := r3.onto ho3 (Ne.symm hp1)
  clear ho3 hd3
  have fin : ∀ (W W2 : World) (i : Nat) (x : Int) (u : Tm), Dst p a len cap w w.heap.size W → Onto w.heap.size (W.setCell ⟨w1.heap.size, i, none⟩ (.int .i64 x)) W2 → Onto p w W2 ∧ qI p a len cap w0 W2 := fun W W2 i x u hW ho => by
   have hd := zQ (zPq hW.drawn hold.1 hold.2 (q := ⟨w1.heap.size, i, none⟩) (by simp; omega) (.int .i64 x)) ho (Nat.le_refl _) hold
   exact ⟨hd.onto, HH.out.trans hd.onto, hd.cur⟩
  obtain rfl | rfl | rfl | rfl : r = 0 ∨ r = 1 ∨ r = 2 ∨ r = 3 := by omega
  ·go_wp2_with fail
   go_at_call 68
   refine (zB5 _ _ hS.drawn (by omega) (by omega)).mono ?_
   rintro e w4 ⟨x, rfl, hx, ho4, hd4⟩
   replace hS := hS.onto ho4 hd4
   replace r3 := r3.onto ho4 (Ne.symm hp1)
   obtain ⟨u, r0⟩ := hS.row
   have c3 := r3.cell
   have f3 := r3.free
   go_wp2_with (refine zCc rfl rfl rfl rfl (r0.setOther ⟨w1.heap.size, 0, none⟩ (.int .i64 x) (by simp; omega)) rfl ?_; intro w5 r5 ho5 hs5)
   refine qQ rfl rfl r5 zAm rfl jI rfl ?_
   exact ⟨⟨x, t.v, t.s, t.m⟩, rfl, fin _ _ _ _ u hS ho5⟩
  ·go_wp2_with fail
   go_at_call 68
   refine (zB5 _ _ hS.drawn (by omega) (by omega)).mono ?_
   rintro e w4 ⟨x, rfl, hx, ho4, hd4⟩
   replace hS := hS.onto ho4 hd4
   replace r3 := r3.onto ho4 (Ne.symm hp1)
   obtain ⟨u, r0⟩ := hS.row
   have c3 := r3.cell
   have f3 := r3.free
   go_wp2_with (refine zCc rfl rfl rfl rfl (r0.setOther ⟨w1.heap.size, 1, none⟩ (.int .i64 x) (by simp; omega)) rfl ?_; intro w5 r5 ho5 hs5)
   refine qQ rfl rfl r5 zAm rfl jI rfl ?_
   exact ⟨⟨t.c, x, t.s, t.m⟩, rfl, fin _ _ _ _ u hS ho5⟩
  ·go_wp2_with fail
   go_at_call 68
   refine (zB5 _ _ hS.drawn (by omega) (by omega)).mono ?_
   rintro e w4 ⟨x, rfl, hx, ho4, hd4⟩
   replace hS := hS.onto ho4 hd4
   replace r3 := r3.onto ho4 (Ne.symm hp1)
   obtain ⟨u, r0⟩ := hS.row
   have c3 := r3.cell
   have f3 := r3.free
   go_wp2_with (refine zCc rfl rfl rfl rfl (r0.setOther ⟨w1.heap.size, 2, none⟩ (.int .i64 x) (by simp; omega)) rfl ?_; intro w5 r5 ho5 hs5)
   refine qQ rfl rfl r5 zAm rfl jI rfl ?_
   exact ⟨⟨t.c, t.v, x, t.m⟩, rfl, fin _ _ _ _ u hS ho5⟩
  ·go_wp2_with fail
   go_at_call 69
   refine (zBv _ _ _ hS.drawn (by omega) (by omega) (by omega)).mono ?_
   rintro e w4 ⟨x, rfl, hx, ho4, hd4⟩
   replace hS := hS.onto ho4 hd4
   replace r3 := r3.onto ho4 (Ne.symm hp1)
   obtain ⟨u, r0⟩ := hS.row
   have c3 := r3.cell
   have f3 := r3.free
   go_wp2_with (refine zCc rfl rfl rfl rfl (r0.setOther ⟨w1.heap.size, 3, none⟩ (.int .i64 x) (by simp; omega)) rfl ?_; intro w5 r5 ho5 hs5)
   refine qQ rfl rfl r5 zAm rfl jI rfl ?_
   exact ⟨⟨t.c, t.v, t.s, x⟩, rfl, fin _ _ _ _ u hS ho5⟩
end Go.Proofs.YtamldhflkfbdnaaGreatDoor.Tmr
