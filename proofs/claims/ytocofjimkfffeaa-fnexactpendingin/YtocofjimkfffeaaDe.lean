/-
  An operation under way in the program: its block, read and written.
-/
import Derived.Test.YtocofjimkfffeaaCp
import Derived.Test.YtocofjimkfffeaaReg7
import Derived.Test.YtocofjimkfffeaaMcReadI
namespace Go.Proofs.Ytocofjimkfffeaa.Mem
open Go.ChangeShapes Go.WideShapes Go.RowKit Base Num Slc Rw Tmr Srl Rom RomOf Opl Reg
set_option linter.unusedVariables false
set_option linter.unusedSimpArgs false

def dcells (x y : Value) (m : Mc) (n o : Int) : Array Value := #[x, y, .int .i64 m.a, .int .i64 m.b, .int .i64 m.pc, .int .i64 m.sp, .bool m.z, .bool m.c, .bool m.e, .bool m.h, .bool m.s, .int .i64 m.fl, .int .i64 m.ms, .int .i64 m.ky,
  .int .i64 m.t.c, .int .i64 m.t.v, .int .i64 m.t.s, .int .i64 m.t.m, .int .i64 m.p.d, .bool m.p.b, .bool m.p.l, .int .i64 m.p.n, .int .i64 m.p.x, .bool m.p.t, .int .i64 m.k, .int .i64 n, .int .i64 o]
abbrev DRow (w : World) (g : Nat) (x y : Value) (m : Mc) (n o : Int) : Prop := Row w g (dcells x y m n o) 62
theorem info_de : (Try.prog.info? 62).map (·.size) = some 27 := by kernel_rfl
theorem dsize (x y : Value) (m : Mc) (n o : Int) : (dcells x y m n o).size = 27 := rfl
/-- The cells of a deed in its block, those that are read. -/
structure Dw (w : World) (g : Nat) (x y : Value) (m : Mc) (n o : Int) : Prop where
  a : w.cell? ⟨g, 2, none⟩ = some (.int .i64 m.a)
  b : w.cell? ⟨g, 3, none⟩ = some (.int .i64 m.b)
  pc : w.cell? ⟨g, 4, none⟩ = some (.int .i64 m.pc)
  sp : w.cell? ⟨g, 5, none⟩ = some (.int .i64 m.sp)
  z : w.cell? ⟨g, 6, none⟩ = some (.bool m.z)
  c : w.cell? ⟨g, 7, none⟩ = some (.bool m.c)
  n : w.cell? ⟨g, 25, none⟩ = some (.int .i64 n)
  o : w.cell? ⟨g, 26, none⟩ = some (.int .i64 o)
theorem dw {w : World} {g : Nat} {x y : Value} {m : Mc} {n o : Int} (h : DRow w g x y m n o) : Dw w g x y m n o :=
  ⟨h.cell 2, h.cell 3, h.cell 4, h.cell 5, h.cell 6, h.cell 7, h.cell 25, h.cell 26⟩
/-- A deed of a call's own, whose machine's lists are of its own. -/
structure DSt (base : Nat) (w : World) (g : Nat) (x y : Value) (m : Mc) (n o : Int) : Prop where
  row : DRow w g x y m n o
  hx : Own base w x m.rom
  hy : Own base w y m.ram
  ap : ∀ k, x.ownBlock = some k → y.ownBlock ≠ some k
  gx : x.ownBlock ≠ some g
  gy : y.ownBlock ≠ some g
  hb : base ≤ g
theorem DSt.below {base : Nat} {w w' : World} {g : Nat} {x y : Value} {m : Mc} {n o : Int} (h : DSt base w g x y m n o) (hb : Below w.heap.size w w') : DSt base w' g x y m n o :=
  { h with row := h.row.below hb, hx := h.hx.below hb, hy := h.hy.below hb }
theorem DSt.drew {base : Nat} {w : World} {g : Nat} {x y : Value} {m : Mc} {n o : Int} (h : DSt base w g x y m n o) : DSt base w.drew g x y m n o :=
  { h with row := h.row.drewN 1, hx := h.hx.drewN 1, hy := h.hy.drewN 1 }
/-- A field of it is another. -/
theorem DSt.set {base : Nat} {w w' : World} {g : Nat} {x y : Value} {m m' : Mc} {n n' o o' : Int} (h : DSt base w g x y m n o) (hr : DRow w' g x y m' n' o') (ho : Onto g w w') (h1 : m'.rom = m.rom) (h2 : m'.ram = m.ram) : DSt base w' g x y m' n' o' :=
  ⟨hr, h1 ▸ h.hx.onto ho h.gx, h2 ▸ h.hy.onto ho h.gy, h.ap, h.gx, h.gy, h.hb⟩
theorem DSt.sl {base : Nat} {w : World} {g : Nat} {x y : Value} {m : Mc} {n o : Int} (h : DSt base w g x y m n o) : MSl w (m.val x y) m := ⟨x, y, rfl, h.hx.sl, h.hy.sl⟩
theorem dm_cells (x y : Value) (m : Mc) (n o : Int) : (dcells x y m n o).extract 0 (0 + (m.cells x y).size) = m.cells x y := by kernel_rfl
theorem dm_spl (x y : Value) (m : Mc) (n o : Int) (x' y' : Value) (m' : Mc) : spl (m'.cells x' y').toList 0 (dcells x y m n o) = dcells x' y' m' n o := by kernel_rfl
theorem ret_unit {fn : Func} {R : Ending → World → Prop} {a : Act} {w : World} (h : fn.results = #[]) (hde : a.defers = []) (hR : R (.returned (.tuple #[])) w) : bodyPost Try.prog fn R .normal a w :=
  bodyPost_end (results_none h a.tmps Try.prog w) hde hR
section
variable {ops : Array Oper} {rest : List Oper} {op : Oper} {a : Act} {w : World} {Q : Exit → Act → World → Prop} {p q : Operand} {g k : Nat} {T : TypeId} {v x y : Value} {m : Mc} {n o : Int}
theorem ld_dm (hgd : op.guard = none) (ho : op.op = .load 34 p) (hx : a.eval p = .pointer (some ⟨g, 0, none⟩)) (hr : DRow w g x y m n o)
    (h : wpList Try.prog ops Q rest (a.put op.dst (m.val x y)) w) : wpList Try.prog ops Q (op :: rest) a w :=
  ld_in (cs' := m.cells x y) hgd ho hx hr Try.underlying34 rfl (dm_cells x y m n o) info_mc h
theorem st_dm {m' : Mc} {x' y' : Value} (hgd : op.guard = none) (ho : op.op = .store 34 p q) (hx : a.eval p = .pointer (some ⟨g, 0, none⟩)) (hy : a.eval q = m'.val x' y') (hr : DRow w g x y m n o) (h1 : x'.oneCell' = true) (h2 : y'.oneCell' = true)
    (h : ∀ w', DRow w' g x' y' m' n o → Onto g w w' → w'.heap.size = w.heap.size → wpList Try.prog ops Q rest (a.put op.dst undef) w') : wpList Try.prog ops Q (op :: rest) a w :=
  st_in (vs := (m'.cells x' y').toList) (cs' := dcells x' y' m' n o) hgd ho hx hy hr rfl info_mc rfl (by have := all_one h1 h2 m'; simpa using this) (dm_spl x y m n o x' y' m') h
theorem st_dn {z n' o' : Int} {m' : Mc} (hgd : op.guard = none) (ho : op.op = .store 2 p q) (hx : a.eval p = .pointer (some ⟨g, k, none⟩)) (hy : a.eval q = .int .i64 z) (hr : DRow w g x y m n o) (hk : decide (k < 27) = true)
    (hcs : (dcells x y m n o).setIfInBounds k (.int .i64 z) = dcells x y m' n' o')
    (h : ∀ w', DRow w' g x y m' n' o' → Onto g w w' → w'.heap.size = w.heap.size → wpList Try.prog ops Q rest (a.put op.dst undef) w') : wpList Try.prog ops Q (op :: rest) a w :=
  st_in (vs := [.int .i64 z]) hgd ho hx hy hr rfl info_i (by rw [dsize]; exact hk) rfl hcs h
theorem st_db {z : Bool} {m' : Mc} (hgd : op.guard = none) (ho : op.op = .store 4 p q) (hx : a.eval p = .pointer (some ⟨g, k, none⟩)) (hy : a.eval q = .bool z) (hr : DRow w g x y m n o) (hk : decide (k < 27) = true)
    (hcs : (dcells x y m n o).setIfInBounds k (.bool z) = dcells x y m' n o)
    (h : ∀ w', DRow w' g x y m' n o → Onto g w w' → w'.heap.size = w.heap.size → wpList Try.prog ops Q rest (a.put op.dst undef) w') : wpList Try.prog ops Q (op :: rest) a w :=
  st_in (vs := [.bool z]) hgd ho hx hy hr rfl info_b (by rw [dsize]; exact hk) rfl hcs h
end
section
variable {op : Oper} {a : Act} {w : World} {K : Act → World → Prop} {Q : Exit → Act → World → Prop} {p q : Operand} {g k : Nat} {x y : Value} {m : Mc} {n o : Int}
/-- A number goes into the deed, in a drawn region. -/
theorem sd_op {z n' o' : Int} {m' : Mc} (ho : op.op = .store 2 p q) (hx : a.eval p = .pointer (some ⟨g, k, none⟩)) (hy : a.eval q = .int .i64 z) (hr : DRow w g x y m n o) (hk : decide (k < 27) = true)
    (hcs : (dcells x y m n o).setIfInBounds k (.int .i64 z) = dcells x y m' n' o')
    (h : ∀ w', DRow w' g x y m' n' o' → Onto g w w' → K (a.put op.dst undef) w') : op.wp Try.prog a w K Q := by
  unfold Oper.wp execOp
  have ht : w.there g k 1 := hr.there k 1 (by rw [dsize]; have := of_decide_eq_true hk; omega)
  simp only [ho, hx, hy, Instr.storeAt, Instr.sureAddr, Sem.run_bind, Sem.run_pure, Result.andThen_ok, run_store_in w g k 2 (.int .i64 z) [.int .i64 z] rfl ht info_i rfl]
  have h1 : Row (w.setCell ⟨g, k, none⟩ (.int .i64 z)) g (dcells x y m' n' o') 62 := by
    rw [← hcs]; exact hr.set k (.int .i64 z)
  exact h _ h1 ((Onto.refl g w).setCell rfl _)
theorem lm_op (ho : op.op = .load 34 p) (hx : a.eval p = .pointer (some ⟨g, 0, none⟩)) (hr : DRow w g x y m n o) (h : K (a.put op.dst (m.val x y)) w) : op.wp Try.prog a w K Q :=
  lw_in (cs' := m.cells x y) ho hx hr Try.underlying34 rfl (dm_cells x y m n o) info_mc h
end
/-- A deed has been done on the block g. -/
def Done (base : Nat) (w w' : World) (g : Nat) (m : Mc) (n o : Int) : Prop := ∃ x y, DSt base w' g x y m n o ∧ Onto g w w'
theorem Done.mk {base : Nat} {w w' : World} {g : Nat} {x y : Value} {m : Mc} {n o : Int} (h : DSt base w' g x y m n o) (ho : Onto g w w') : Done base w w' g m n o := ⟨x, y, h, ho⟩
theorem below_on {g : Nat} {w w' : World} (h : Below w.heap.size w w') : Onto g w w' := ⟨h.os, h.tape, h.output, h.size, fun k _ hk => h.block k hk⟩
section
variable {base : Nat} {w : World} {g : Nat} {x y : Value} {m : Mc} {n o : Int}
/-- Another machine comes into the deed. -/
theorem DSt.other {w1 w2 : World} {x' y' : Value} {m' : Mc} {n' o' : Int} (h : DSt base w g x y m n o) (hm : MOwn w.heap.size w1 (m'.val x' y') m') (hr : DRow w2 g x' y' m' n' o') (ho : Onto g w1 w2) : DSt base w2 g x' y' m' n' o' := by
  obtain ⟨vr, va, e, h1, h2, h3⟩ := hm
  have hg := h.row.lt
  have hb := h.hb
  have e1 : vr = x' ∧ va = y' := by
    simp only [Mc.val, Mc.cells, Value.agg.injEq] at e
    injection e with e
    injection e with e1 e
    injection e with e2 e
    exact ⟨e1.symm, e2.symm⟩
  obtain ⟨rfl, rfl⟩ := e1
  have g1 : vr.ownBlock ≠ some g := fun e => by have := (h1.lt _ e).1; omega
  have g2 : va.ownBlock ≠ some g := fun e => by have := (h2.lt _ e).1; omega
  exact ⟨hr, (h1.onto ho g1).mono (by omega), (h2.onto ho g2).mono (by omega), h3, g1, g2, hb⟩
theorem write_impl (h : DSt base w g x y m n o) (q z : Int) :
    Calls Try.prog 59 #[.pointer (some ⟨g, 0, none⟩), .int .i64 q, .int .i64 z] w fun e w' => e = .returned (.tuple #[]) ∧ Done base w w' g (m.writtenAt q z) n (if q = 249 then z else o) := by
  by_cases hq : q = 249
  · rw [if_pos hq]
    have hq' : (q == 249) = true := by simpa using hq
    clear hq
    go_enter Try.func59, Try.ntmps59
    go_wp2_with (first
      | (refine ld_dm rfl rfl rfl h.row ?_)
      | (go_at_call 64; refine (writtenAt_impl _ m _ _ _ h.sl).mono ?_; rintro e w1 ⟨v1, rfl, hm1, hb1⟩; obtain ⟨x1, y1, rfl, hx1, hy1, ha1⟩ := hm1; have h1 := h.below hb1)
      | (refine st_dm rfl rfl rfl rfl h1.row (one_own hx1) (one_own hy1) ?_; intro w2 r2 o2 s2)
      | (refine st_dn (m' := m.writtenAt q z) (n' := n) (o' := z) rfl rfl rfl rfl r2 rfl rfl ?_; intro w3 r3 o3 s3))
    refine ret_unit rfl rfl ?_
    exact ⟨rfl, .mk ((h.other ⟨x1, y1, rfl, hx1, hy1, ha1⟩ r2 o2).set r3 o3 rfl rfl) (((below_on hb1).trans o2).trans o3)⟩
  · rw [if_neg hq]
    have hq' : (q == 249) = false := by simpa using hq
    clear hq
    go_enter Try.func59, Try.ntmps59
    go_wp2_with (first
      | (refine ld_dm rfl rfl rfl h.row ?_)
      | (go_at_call 64; refine (writtenAt_impl _ m _ _ _ h.sl).mono ?_; rintro e w1 ⟨v1, rfl, hm1, hb1⟩; obtain ⟨x1, y1, rfl, hx1, hy1, ha1⟩ := hm1; have h1 := h.below hb1)
      | (refine st_dm rfl rfl rfl rfl h1.row (one_own hx1) (one_own hy1) ?_; intro w2 r2 o2 s2))
    refine ret_unit rfl rfl ?_
    exact ⟨rfl, .mk (h.other ⟨x1, y1, rfl, hx1, hy1, ha1⟩ r2 o2) ((below_on hb1).trans o2)⟩
theorem push_impl (h : DSt base w g x y m n (-1)) (hok : m.ok = true) (z : Int) (hz : bok z = true) :
    Calls Try.prog 47 #[.pointer (some ⟨g, 0, none⟩), .int .i64 z] w fun e w' => e = .returned (.tuple #[]) ∧ Done base w w' g (m.psh z) n (m.pshOut z) := by
  have hc := (dw h.row).sp
  have e1 := sub_one (okm.1 hok).sp
  have HE : Hid (({ m with sp := (m.sp + 255) % 256 } : Mc).writtenAt ((m.sp + 255) % 256) z = m.psh z) := writtenAt_ok (ok_sp hok _) (bok_mod _) hz
  generalize hs : (m.sp + 255) % 256 = s at HE e1
  have HO : Hid (m.pshOut z = if s = 249 then z else -1) := show m.pshOut z = if s = 249 then z else -1 by rw [← hs]; rfl
  clear hs
  go_enter Try.func47, Try.ntmps47
  go_wp2_with (first
    | (go_at_call 58; refine (subByte_impl _ _ _).mono ?_; rintro e w0 ⟨rfl, rfl⟩; rw [e1])
    | (refine st_dn (m' := { m with sp := s }) (n' := n) (o' := -1) rfl rfl rfl rfl h.row rfl rfl ?_; intro w1 r1 o1 s1; have h1 := h.set r1 o1 rfl rfl; have hc1 := (dw r1).sp)
    | (go_at_call 59; refine (write_impl h1 _ _).mono ?_; rintro e w2 ⟨rfl, x2, y2, h2, o2⟩))
  refine ret_unit rfl rfl ?_
  have he := HE.out
  rw [he, ← HO.out] at h2
  exact ⟨rfl, .mk h2 (o1.trans o2)⟩
end
end Go.Proofs.Ytocofjimkfffeaa.Mem
