/-
  An operation under way in the program: its block, read and written. The program's operations, one by one: each does to the deed what the document's line tells.
-/
import Derived.Test.YtocofjimkfffeaaGreatDoorCp
import Derived.Test.YtocofjimkfffeaaGreatDoorRegs
import Derived.Test.YtocofjimkfffeaaGreatDoorMcReadI
namespace Go.Proofs.YtocofjimkfffeaaGreatDoor.Mem
open Go.ChangeShapes Go.WideShapes Go.RowKit Base Num Slc Rw Tmr Srl Rom RomOf Opl Reg
set_option linter.unusedVariables false
set_option linter.unusedSimpArgs false

def dcells (x y : Value) (m : Mc) (n o : Int) : Array Value := #[x, y, .int .i64 m.a, .int .i64 m.b, .int .i64 m.pc, .int .i64 m.sp, .bool m.z, .bool m.c, .bool m.e, .bool m.h, .bool m.s, .int .i64 m.fl, .int .i64 m.ms, .int .i64 m.ky,
  .int .i64 m.t.c, .int .i64 m.t.v, .int .i64 m.t.s, .int .i64 m.t.m, .int .i64 m.p.d, .bool m.p.b, .bool m.p.l, .int .i64 m.p.n, .int .i64 m.p.x, .bool m.p.t, .int .i64 m.k, .int .i64 n, .int .i64 o]
abbrev DRow (w : World) (g : Nat) (x y : Value) (m : Mc) (n o : Int) : Prop := Row w g (dcells x y m n o) 58
theorem info_de : (Tryz.prog.info? 58).map (·.size) = some 27 := by kernel_rfl
theorem dsize (x y : Value) (m : Mc) (n o : Int) : (dcells x y m n o).size = 27 := rfl
/-- The cells of a deed in its block, those that are read. -/
structure Dw (w : World) (g : Nat) (x y : Value) (m : Mc) (n o : Int) : Prop where
  a : w.cell? ⟨g, 2, none⟩ = some (.int .i64 m.a)
  b : w.cell? ⟨g, 3, none⟩ = some (.int .i64 m.b)
  pc : w.cell? ⟨g, 4, none⟩ = some (.int .i64 m.pc)
  sp : w.cell? ⟨g, 5, none⟩ = some (.int .i64 m.sp)
  z : w.cell? ⟨g, 6, none⟩ = some (.bool m.z)
  c : w.cell? ⟨g, 7, none⟩ = some (.bool m.c)
  n : w.cell? ⟨g, 25, none⟩ = some (.int .i64 n)
  o : w.cell? ⟨g, 26, none⟩ = some (.int .i64 o)
theorem dw {w : World} {g : Nat} {x y : Value} {m : Mc} {n o : Int} (h : DRow w g x y m n o) : Dw w g x y m n o :=
  ⟨h.cell 2, h.cell 3, h.cell 4, h.cell 5, h.cell 6, h.cell 7, h.cell 25, h.cell 26⟩
/-- A deed of a call's own, whose machine's lists are of its own. -/
structure DSt (base : Nat) (w : World) (g : Nat) (x y : Value) (m : Mc) (n o : Int) : Prop where
  row : DRow w g x y m n o
  hx : Own base w x m.rom
  hy : Own base w y m.ram
  ap : ∀ k, x.ownBlock = some k → y.ownBlock ≠ some k
  gx : x.ownBlock ≠ some g
  gy : y.ownBlock ≠ some g
  hb : base ≤ g
theorem DSt.below {base : Nat} {w w' : World} {g : Nat} {x y : Value} {m : Mc} {n o : Int} (h : DSt base w g x y m n o) (hb : Below w.heap.size w w') : DSt base w' g x y m n o :=
  { h with row := h.row.below hb, hx := h.hx.below hb, hy := h.hy.below hb }
theorem DSt.drew {base : Nat} {w : World} {g : Nat} {x y : Value} {m : Mc} {n o : Int} (h : DSt base w g x y m n o) : DSt base w.drew g x y m n o :=
  { h with row := h.row.drewN 1, hx := h.hx.drewN 1, hy := h.hy.drewN 1 }
/-- A field of it is another. -/
theorem DSt.set {base : Nat} {w w' : World} {g : Nat} {x y : Value} {m m' : Mc} {n n' o o' : Int} (h : DSt base w g x y m n o) (hr : DRow w' g x y m' n' o') (ho : Onto g w w') (h1 : m'.rom = m.rom) (h2 : m'.ram = m.ram) : DSt base w' g x y m' n' o' :=
  ⟨hr, h1 ▸ h.hx.onto ho h.gx, h2 ▸ h.hy.onto ho h.gy, h.ap, h.gx, h.gy, h.hb⟩
theorem DSt.sl {base : Nat} {w : World} {g : Nat} {x y : Value} {m : Mc} {n o : Int} (h : DSt base w g x y m n o) : MSl w (m.val x y) m := ⟨x, y, rfl, h.hx.sl, h.hy.sl⟩
theorem dm_cells (x y : Value) (m : Mc) (n o : Int) : (dcells x y m n o).extract 0 (0 + (m.cells x y).size) = m.cells x y := by kernel_rfl
theorem dm_spl (x y : Value) (m : Mc) (n o : Int) (x' y' : Value) (m' : Mc) : spl (m'.cells x' y').toList 0 (dcells x y m n o) = dcells x' y' m' n o := by kernel_rfl
theorem ret_unit {fn : Func} {R : Ending → World → Prop} {a : Act} {w : World} (h : fn.results = #[]) (hde : a.defers = []) (hR : R (.returned (.tuple #[])) w) : bodyPost Tryz.prog fn R .normal a w :=
  bodyPost_end (results_none h a.tmps Tryz.prog w) hde hR
section
variable {ops : Array Oper} {rest : List Oper} {op : Oper} {a : Act} {w : World} {Q : Exit → Act → World → Prop} {p q : Operand} {g k : Nat} {T : TypeId} {v x y : Value} {m : Mc} {n o : Int}
theorem ld_dm (hgd : op.guard = none) (ho : op.op = .load 30 p) (hx : a.eval p = .pointer (some ⟨g, 0, none⟩)) (hr : DRow w g x y m n o)
    (h : wpList Tryz.prog ops Q rest (a.put op.dst (m.val x y)) w) : wpList Tryz.prog ops Q (op :: rest) a w :=
  ld_in (cs' := m.cells x y) hgd ho hx hr Tryz.underlying30 rfl (dm_cells x y m n o) info_mc h
theorem st_dm {m' : Mc} {x' y' : Value} (hgd : op.guard = none) (ho : op.op = .store 30 p q) (hx : a.eval p = .pointer (some ⟨g, 0, none⟩)) (hy : a.eval q = m'.val x' y') (hr : DRow w g x y m n o) (h1 : x'.oneCell' = true) (h2 : y'.oneCell' = true)
    (h : ∀ w', DRow w' g x' y' m' n o → Onto g w w' → w'.heap.size = w.heap.size → wpList Tryz.prog ops Q rest (a.put op.dst undef) w') : wpList Tryz.prog ops Q (op :: rest) a w :=
  st_in (vs := (m'.cells x' y').toList) (cs' := dcells x' y' m' n o) hgd ho hx hy hr rfl info_mc rfl (by have := all_one h1 h2 m'; simpa using this) (dm_spl x y m n o x' y' m') h
theorem st_dn {z n' o' : Int} {m' : Mc} (hgd : op.guard = none) (ho : op.op = .store 2 p q) (hx : a.eval p = .pointer (some ⟨g, k, none⟩)) (hy : a.eval q = .int .i64 z) (hr : DRow w g x y m n o) (hk : decide (k < 27) = true)
    (hcs : (dcells x y m n o).setIfInBounds k (.int .i64 z) = dcells x y m' n' o')
    (h : ∀ w', DRow w' g x y m' n' o' → Onto g w w' → w'.heap.size = w.heap.size → wpList Tryz.prog ops Q rest (a.put op.dst undef) w') : wpList Tryz.prog ops Q (op :: rest) a w :=
  st_in (vs := [.int .i64 z]) hgd ho hx hy hr rfl info_i (by rw [dsize]; exact hk) rfl hcs h
theorem st_db {z : Bool} {m' : Mc} (hgd : op.guard = none) (ho : op.op = .store 4 p q) (hx : a.eval p = .pointer (some ⟨g, k, none⟩)) (hy : a.eval q = .bool z) (hr : DRow w g x y m n o) (hk : decide (k < 27) = true)
    (hcs : (dcells x y m n o).setIfInBounds k (.bool z) = dcells x y m' n o)
    (h : ∀ w', DRow w' g x y m' n o → Onto g w w' → w'.heap.size = w.heap.size → wpList Tryz.prog ops Q rest (a.put op.dst undef) w') : wpList Tryz.prog ops Q (op :: rest) a w :=
  st_in (vs := [.bool z]) hgd ho hx hy hr rfl info_b (by rw [dsize]; exact hk) rfl hcs h
end
section
variable {op : Oper} {a : Act} {w : World} {K : Act → World → Prop} {Q : Exit → Act → World → Prop} {p q : Operand} {g k : Nat} {x y : Value} {m : Mc} {n o : Int}
/-- A number goes into the deed, in a drawn region. -/
theorem sd_op {z n' o' : Int} {m' : Mc} (ho : op.op = .store 2 p q) (hx : a.eval p = .pointer (some ⟨g, k, none⟩)) (hy : a.eval q = .int .i64 z) (hr : DRow w g x y m n o) (hk : decide (k < 27) = true)
    (hcs : (dcells x y m n o).setIfInBounds k (.int .i64 z) = dcells x y m' n' o')
    (h : ∀ w', DRow w' g x y m' n' o' → Onto g w w' → K (a.put op.dst undef) w') : op.wp Tryz.prog a w K Q := by
  unfold Oper.wp execOp
  have ht : w.there g k 1 := hr.there k 1 (by rw [dsize]; have := of_decide_eq_true hk; omega)
  simp only [ho, hx, hy, Instr.storeAt, Instr.sureAddr, Sem.run_bind, Sem.run_pure, Result.andThen_ok, run_store_in w g k 2 (.int .i64 z) [.int .i64 z] rfl ht info_i rfl]
  have h1 : Row (w.setCell ⟨g, k, none⟩ (.int .i64 z)) g (dcells x y m' n' o') 58 := by
    rw [← hcs]; exact hr.set k (.int .i64 z)
  exact h _ h1 ((Onto.refl g w).setCell rfl _)
theorem lm_op (ho : op.op = .load 30 p) (hx : a.eval p = .pointer (some ⟨g, 0, none⟩)) (hr : DRow w g x y m n o) (h : K (a.put op.dst (m.val x y)) w) : op.wp Tryz.prog a w K Q :=
  lw_in (cs' := m.cells x y) ho hx hr Tryz.underlying30 rfl (dm_cells x y m n o) info_mc h
end
/-- A deed has been done on the block g. -/
def Done (base : Nat) (w w' : World) (g : Nat) (m : Mc) (n o : Int) : Prop := ∃ x y, DSt base w' g x y m n o ∧ Onto g w w'
theorem Done.mk {base : Nat} {w w' : World} {g : Nat} {x y : Value} {m : Mc} {n o : Int} (h : DSt base w' g x y m n o) (ho : Onto g w w') : Done base w w' g m n o := ⟨x, y, h, ho⟩
theorem below_on {g : Nat} {w w' : World} (h : Below w.heap.size w w') : Onto g w w' := ⟨h.os, h.tape, h.output, h.size, fun k _ hk => h.block k hk⟩
theorem placeBehind_impl (q n : Int) (w : World) :
    Calls Tryz.prog 33 #[.int .i64 q, .int .i64 n] w fun e w' => e = .returned (.int .i64 (addB q n)) ∧ w' = w := by
  go_enter Tryz.func33, Tryz.ntmps33
  go_wp2_with (go_at_call 67; refine (addByte_impl _ _ _).mono ?_; rintro e w1 ⟨rfl, rfl⟩)
  go_ret
  exact ⟨rfl, rfl⟩
section
variable {base : Nat} {w : World} {g : Nat} {x y : Value} {m : Mc} {n o : Int}
theorem mark_impl (h : DSt base w g x y m n o) (z : Int) (c : Bool) :
    Calls Tryz.prog 84 #[.pointer (some ⟨g, 0, none⟩), .int .i64 z, .bool c] w fun e w' => e = .returned (.tuple #[]) ∧ Done base w w' g (m.cmp z c) n o := by
  go_enter Tryz.func84, Tryz.ntmps84
  go_wp2_with (first
    | (refine st_db (m' := { m with z := z == 0 }) rfl rfl rfl rfl h.row rfl rfl ?_; intro w1 r1 o1 s1; have h1 := h.set r1 o1 rfl rfl)
    | (refine st_db (m' := m.cmp z c) rfl rfl rfl rfl r1 rfl rfl ?_; intro w2 r2 o2 s2))
  refine ret_unit rfl rfl ?_
  exact ⟨rfl, .mk (h1.set r2 o2 rfl rfl) (o1.trans o2)⟩
theorem makeA_impl (h : DSt base w g x y m n o) (z : Int) (c : Bool) :
    Calls Tryz.prog 79 #[.pointer (some ⟨g, 0, none⟩), .int .i64 z, .bool c] w fun e w' => e = .returned (.tuple #[]) ∧ Done base w w' g (m.alu z c) n o := by
  go_enter Tryz.func79, Tryz.ntmps79
  go_wp2_with (first
    | (refine st_dn (m' := { m with a := z }) (n' := n) (o' := o) rfl rfl rfl rfl h.row rfl rfl ?_; intro w1 r1 o1 s1; have h1 := h.set r1 o1 rfl rfl)
    | (go_at_call 84; refine (mark_impl h1 _ _).mono ?_; rintro e w2 ⟨rfl, x2, y2, h2, o2⟩))
  refine ret_unit rfl rfl ?_
  exact ⟨rfl, .mk h2 (o1.trans o2)⟩
theorem countB_impl (h : DSt base w g x y m n o) (z : Int) (c : Bool) :
    Calls Tryz.prog 92 #[.pointer (some ⟨g, 0, none⟩), .int .i64 z, .bool c] w fun e w' => e = .returned (.tuple #[]) ∧ Done base w w' g (m.cntB z) n o := by
  go_enter Tryz.func92, Tryz.ntmps92
  go_wp2_with (first
    | (refine st_dn (m' := { m with b := z }) (n' := n) (o' := o) rfl rfl rfl rfl h.row rfl rfl ?_; intro w1 r1 o1 s1; have h1 := h.set r1 o1 rfl rfl)
    | (go_at_call 84; refine (mark_impl h1 _ _).mono ?_; rintro e w2 ⟨rfl, x2, y2, h2, o2⟩))
  refine ret_unit rfl rfl ?_
  exact ⟨rfl, .mk h2 (o1.trans o2)⟩
theorem jumpWhere_impl (h : DSt base w g x y m n o) (c : Bool) :
    Calls Tryz.prog 95 #[.pointer (some ⟨g, 0, none⟩), .bool c] w fun e w' => e = .returned (.tuple #[]) ∧ Done base w w' g (m.jmp n c) n o := by
  have hc := (dw h.row).n
  cases c
  · go_enter Tryz.func95, Tryz.ntmps95
    go_wp2
    refine ret_unit rfl rfl ?_
    exact ⟨rfl, .mk h (Onto.refl _ _)⟩
  · go_enter Tryz.func95, Tryz.ntmps95
    go_wp2_with (refine st_dn (m' := { m with pc := n }) (n' := n) (o' := o) rfl rfl rfl rfl h.row rfl rfl ?_; intro w1 r1 o1 s1)
    refine ret_unit rfl rfl ?_
    exact ⟨rfl, .mk (h.set r1 o1 rfl rfl) o1⟩
/-- Another machine comes into the deed. -/
theorem DSt.other {w1 w2 : World} {x' y' : Value} {m' : Mc} {n' o' : Int} (h : DSt base w g x y m n o) (hm : MOwn w.heap.size w1 (m'.val x' y') m') (hr : DRow w2 g x' y' m' n' o') (ho : Onto g w1 w2) : DSt base w2 g x' y' m' n' o' := by
  obtain ⟨vr, va, e, h1, h2, h3⟩ := hm
  have hg := h.row.lt
  have hb := h.hb
  have e1 : vr = x' ∧ va = y' := by
    simp only [Mc.val, Mc.cells, Value.agg.injEq] at e
    injection e with e
    injection e with e1 e
    injection e with e2 e
    exact ⟨e1.symm, e2.symm⟩
  obtain ⟨rfl, rfl⟩ := e1
  have g1 : vr.ownBlock ≠ some g := fun e => by have := (h1.lt _ e).1; omega
  have g2 : va.ownBlock ≠ some g := fun e => by have := (h2.lt _ e).1; omega
  exact ⟨hr, (h1.onto ho g1).mono (by omega), (h2.onto ho g2).mono (by omega), h3, g1, g2, hb⟩
theorem write_impl (h : DSt base w g x y m n o) (q z : Int) :
    Calls Tryz.prog 75 #[.pointer (some ⟨g, 0, none⟩), .int .i64 q, .int .i64 z] w fun e w' => e = .returned (.tuple #[]) ∧ Done base w w' g (m.writtenAt q z) n (if q = 249 then z else o) := by
  by_cases hq : q = 249
  · rw [if_pos hq]
    have hq' : (q == 249) = true := by simpa using hq
    clear hq
    go_enter Tryz.func75, Tryz.ntmps75
    go_wp2_with (first
      | (refine ld_dm rfl rfl rfl h.row ?_)
      | (go_at_call 133; refine (writtenAt_impl _ m _ _ _ h.sl).mono ?_; rintro e w1 ⟨v1, rfl, hm1, hb1⟩; obtain ⟨x1, y1, rfl, hx1, hy1, ha1⟩ := hm1; have h1 := h.below hb1)
      | (refine st_dm rfl rfl rfl rfl h1.row (one_own hx1) (one_own hy1) ?_; intro w2 r2 o2 s2)
      | (refine st_dn (m' := m.writtenAt q z) (n' := n) (o' := z) rfl rfl rfl rfl r2 rfl rfl ?_; intro w3 r3 o3 s3))
    refine ret_unit rfl rfl ?_
    exact ⟨rfl, .mk ((h.other ⟨x1, y1, rfl, hx1, hy1, ha1⟩ r2 o2).set r3 o3 rfl rfl) (((below_on hb1).trans o2).trans o3)⟩
  · rw [if_neg hq]
    have hq' : (q == 249) = false := by simpa using hq
    clear hq
    go_enter Tryz.func75, Tryz.ntmps75
    go_wp2_with (first
      | (refine ld_dm rfl rfl rfl h.row ?_)
      | (go_at_call 133; refine (writtenAt_impl _ m _ _ _ h.sl).mono ?_; rintro e w1 ⟨v1, rfl, hm1, hb1⟩; obtain ⟨x1, y1, rfl, hx1, hy1, ha1⟩ := hm1; have h1 := h.below hb1)
      | (refine st_dm rfl rfl rfl rfl h1.row (one_own hx1) (one_own hy1) ?_; intro w2 r2 o2 s2))
    refine ret_unit rfl rfl ?_
    exact ⟨rfl, .mk (h.other ⟨x1, y1, rfl, hx1, hy1, ha1⟩ r2 o2) ((below_on hb1).trans o2)⟩
theorem push_impl (h : DSt base w g x y m n (-1)) (hok : m.ok = true) (z : Int) (hz : bok z = true) :
    Calls Tryz.prog 100 #[.pointer (some ⟨g, 0, none⟩), .int .i64 z] w fun e w' => e = .returned (.tuple #[]) ∧ Done base w w' g (m.psh z) n (m.pshOut z) := by
  have hc := (dw h.row).sp
  have e1 := sub_one (okm.1 hok).sp
  have HE : Hid (({ m with sp := (m.sp + 255) % 256 } : Mc).writtenAt ((m.sp + 255) % 256) z = m.psh z) := writtenAt_ok (ok_sp hok _) (bok_mod _) hz
  generalize hs : (m.sp + 255) % 256 = s at HE e1
  have HO : Hid (m.pshOut z = if s = 249 then z else -1) := show m.pshOut z = if s = 249 then z else -1 by rw [← hs]; rfl
  clear hs
  go_enter Tryz.func100, Tryz.ntmps100
  go_wp2_with (first
    | (go_at_call 82; refine (subByte_impl _ _ _).mono ?_; rintro e w0 ⟨rfl, rfl⟩; rw [e1])
    | (refine st_dn (m' := { m with sp := s }) (n' := n) (o' := -1) rfl rfl rfl rfl h.row rfl rfl ?_; intro w1 r1 o1 s1; have h1 := h.set r1 o1 rfl rfl; have hc1 := (dw r1).sp)
    | (go_at_call 75; refine (write_impl h1 _ _).mono ?_; rintro e w2 ⟨rfl, x2, y2, h2, o2⟩))
  refine ret_unit rfl rfl ?_
  have he := HE.out
  rw [he, ← HO.out] at h2
  exact ⟨rfl, .mk h2 (o1.trans o2)⟩
end
end Go.Proofs.YtocofjimkfffeaaGreatDoor.Mem
namespace Go.Proofs.YtocofjimkfffeaaGreatDoor.Mem
open Go.ChangeShapes Go.WideShapes Go.RowKit Base Num Slc Rw Tmr Srl Rom RomOf Opl Reg
set_option linter.unusedVariables false
set_option linter.unusedSimpArgs false
section
variable {base : Nat} {w : World} {g : Nat} {x y : Value} {m : Mc} {n : Int}
set_option maxRecDepth 100000 in
theorem popped_impl (h : DSt base w g x y m n (-1)) (hok : m.ok = true) :
    Calls Tryz.prog 102 #[.pointer (some ⟨g, 0, none⟩)] w fun e w' => e = .returned (.int .i64 m.top) ∧ Done base w w' g m.popd n (-1) := by
  have e1 : m.readAt m.sp = m.top := readAt_ok hok (okm.1 hok).sp
  have e2 := add_one (okm.1 hok).sp
  go_enter Tryz.func102, Tryz.ntmps102
  go_wp2_with fail
  refine region_last (by kernel_rfl) (by kernel_rfl) 10 (by decide) (by kernel_rfl) (by kernel_rfl) (fun W => DSt base W g x y m n (-1) ∧ Onto g w W) (fun W => DSt base W g x y m n (-1) ∧ Onto g w W) [.pointer (some ⟨g, 0, none⟩), .pointer (some ⟨g, 0, none⟩), .pointer (some ⟨g, 0, none⟩), m.val x y, .pointer (some ⟨g, 0, none⟩), .pointer (some ⟨g, 0, none⟩), .pointer (some ⟨g, 0, none⟩), .pointer (some ⟨g, 5, none⟩), .int .i64 m.sp, .int .i64 (m.readAt m.sp), .int .i64 (m.readAt m.sp)] ⟨h.drew, (Onto.refl g w).drew⟩ ?step ?last ?done
  case step =>
    intro L ix o' A W hne hi hI hg hd
    have hin : ix < 11 := by
      by_cases hl : ix < 11
      · exact hl
      · simp [hl] at hi
    rcases ix with _ | ix
    · obtain rfl := (Option.some.inj hi).symm
      have e0 : A.eval (.tmp 0) = .pointer (some ⟨g, 0, none⟩) := hI.old 0 (by kernel_rfl)
      exact at_op rfl rfl (move_op rfl ⟨_, rfl, e0, hg⟩)
    rcases ix with _ | ix
    · obtain rfl := (Option.some.inj hi).symm
      have e0 : A.eval (.tmp 4) = .pointer (some ⟨g, 0, none⟩) := hI.val hd 0 4 rfl rfl (by kernel_rfl)
      exact at_op rfl rfl (nil_op rfl e0 ⟨_, rfl, rfl, hg⟩)
    rcases ix with _ | ix
    · obtain rfl := (Option.some.inj hi).symm
      have e0 : A.eval (.tmp 5) = .pointer (some ⟨g, 0, none⟩) := hI.val hd 1 5 rfl rfl (by kernel_rfl)
      refine at_op rfl rfl (val_op (v := .pointer (some ⟨g, 0, none⟩)) ?_ ⟨_, rfl, rfl, hg⟩)
      unfold execOp
      simp only [List.getElem_toArray, List.getElem_cons_zero, List.getElem_cons_succ, e0]
      simp [go_sem]
    rcases ix with _ | ix
    · obtain rfl := (Option.some.inj hi).symm
      have e0 : A.eval (.tmp 6) = .pointer (some ⟨g, 0, none⟩) := hI.val hd 2 6 rfl rfl (by kernel_rfl)
      exact at_op rfl rfl (lm_op rfl e0 hg.1.row ⟨_, rfl, rfl, hg⟩)
    rcases ix with _ | ix
    · obtain rfl := (Option.some.inj hi).symm
      have e0 : A.eval (.tmp 0) = .pointer (some ⟨g, 0, none⟩) := hI.old 0 (by kernel_rfl)
      exact at_op rfl rfl (move_op rfl ⟨_, rfl, e0, hg⟩)
    rcases ix with _ | ix
    · obtain rfl := (Option.some.inj hi).symm
      have e0 : A.eval (.tmp 8) = .pointer (some ⟨g, 0, none⟩) := hI.val hd 4 8 rfl rfl (by kernel_rfl)
      exact at_op rfl rfl (nil_op rfl e0 ⟨_, rfl, rfl, hg⟩)
    rcases ix with _ | ix
    · obtain rfl := (Option.some.inj hi).symm
      have e0 : A.eval (.tmp 9) = .pointer (some ⟨g, 0, none⟩) := hI.val hd 5 9 rfl rfl (by kernel_rfl)
      refine at_op rfl rfl (val_op (v := .pointer (some ⟨g, 0, none⟩)) ?_ ⟨_, rfl, rfl, hg⟩)
      unfold execOp
      simp only [List.getElem_toArray, List.getElem_cons_zero, List.getElem_cons_succ, e0]
      simp [go_sem]
    rcases ix with _ | ix
    · obtain rfl := (Option.some.inj hi).symm
      have e0 : A.eval (.tmp 10) = .pointer (some ⟨g, 0, none⟩) := hI.val hd 6 10 rfl rfl (by kernel_rfl)
      refine at_op rfl rfl (val_op (v := .pointer (some ⟨g, 5, none⟩)) ?_ ⟨_, rfl, rfl, hg⟩)
      unfold execOp
      simp only [List.getElem_toArray, List.getElem_cons_zero, List.getElem_cons_succ, e0]
      simp [go_sem]
    rcases ix with _ | ix
    · obtain rfl := (Option.some.inj hi).symm
      have e0 : A.eval (.tmp 11) = .pointer (some ⟨g, 5, none⟩) := hI.val hd 7 11 rfl rfl (by kernel_rfl)
      exact at_op rfl rfl (load_op rfl Tryz.underlying2 e0 (dw hg.1.row).sp ⟨_, rfl, rfl, hg⟩)
    rcases ix with _ | ix
    · obtain rfl := (Option.some.inj hi).symm
      have e0 : A.eval (.tmp 7) = m.val x y := hI.val hd 3 7 rfl rfl (by kernel_rfl)
      have e1 : A.eval (.tmp 12) = .int .i64 m.sp := hI.val hd 8 12 rfl rfl (by kernel_rfl)
      refine at_op rfl rfl (call_op rfl Tryz.func31 (by kernel_rfl) (by kernel_rfl) ?_)
      simp only [List.map_cons, List.map_nil, e0, e1]
      refine (readAt_impl _ m _ _ hg.1.sl).mono ?_
      rintro e w1 ⟨rfl, hb⟩
      exact ⟨_, rfl, _, rfl, rfl, hg.1.below hb, hg.2.trans (below_on hb)⟩
    rcases ix with _ | ix
    · exact absurd rfl hne
    omega
  case last =>
    intro L o' A W hi hI hg hd
    obtain rfl := (Option.some.inj hi).symm
    have e0 : A.eval (.tmp 13) = .int .i64 (m.readAt m.sp) := hI.val hd 9 13 rfl rfl (by kernel_rfl)
    exact at_op rfl rfl (assign_op rfl ⟨_, rfl, e0, hg⟩)
  case done =>
    intro A W hI hE
    have e0' : A.tmps.getD 0 undef = .pointer (some ⟨g, 0, none⟩) := hI.old 0 (by kernel_rfl)
    have e1' : A.tmps.getD 1 undef = undef := hI.old 1 (by kernel_rfl)
    have e2' : A.tmps.getD 2 undef = .int .i64 0 := hI.old 2 (by kernel_rfl)
    have e3' : A.tmps.getD 3 undef = .int .i64 (m.readAt m.sp) := hI.last 10 3 rfl
    have e4' : A.tmps.getD 4 undef = .pointer (some ⟨g, 0, none⟩) := hI.last 0 4 rfl
    have e5' : A.tmps.getD 5 undef = .pointer (some ⟨g, 0, none⟩) := hI.last 1 5 rfl
    have e6' : A.tmps.getD 6 undef = .pointer (some ⟨g, 0, none⟩) := hI.last 2 6 rfl
    have e7' : A.tmps.getD 7 undef = m.val x y := hI.last 3 7 rfl
    have e8' : A.tmps.getD 8 undef = .pointer (some ⟨g, 0, none⟩) := hI.last 4 8 rfl
    have e9' : A.tmps.getD 9 undef = .pointer (some ⟨g, 0, none⟩) := hI.last 5 9 rfl
    have e10' : A.tmps.getD 10 undef = .pointer (some ⟨g, 0, none⟩) := hI.last 6 10 rfl
    have e11' : A.tmps.getD 11 undef = .pointer (some ⟨g, 5, none⟩) := hI.last 7 11 rfl
    have e12' : A.tmps.getD 12 undef = .int .i64 m.sp := hI.last 8 12 rfl
    have e13' : A.tmps.getD 13 undef = .int .i64 (m.readAt m.sp) := hI.last 9 13 rfl
    have e14' : A.tmps.getD 14 undef = undef := hI.old 14 (by kernel_rfl)
    have e15' : A.tmps.getD 15 undef = undef := hI.old 15 (by kernel_rfl)
    have e16' : A.tmps.getD 16 undef = undef := hI.old 16 (by kernel_rfl)
    have e17' : A.tmps.getD 17 undef = undef := hI.old 17 (by kernel_rfl)
    have e18' : A.tmps.getD 18 undef = undef := hI.old 18 (by kernel_rfl)
    have e19' : A.tmps.getD 19 undef = undef := hI.old 19 (by kernel_rfl)
    have e20' : A.tmps.getD 20 undef = undef := hI.old 20 (by kernel_rfl)
    have e21' : A.tmps.getD 21 undef = undef := hI.old 21 (by kernel_rfl)
    have e22' : A.tmps.getD 22 undef = undef := hI.old 22 (by kernel_rfl)
    have e23' : A.tmps.getD 23 undef = undef := hI.old 23 (by kernel_rfl)
    have e24' : A.tmps.getD 24 undef = undef := hI.old 24 (by kernel_rfl)
    have hA := frame_lit A 25 hI.size
    have hde : A.defers = [] := hI.defers
    rw [hde, show List.range 25 = [0, 1, 2, 3, 4, 5, 6, 7, 8, 9, 10, 11, 12, 13, 14, 15, 16, 17, 18, 19, 20, 21, 22, 23, 24] from rfl] at hA
    simp only [List.map_cons, List.map_nil, e0', e1', e2', e3', e4', e5', e6', e7', e8', e9', e10', e11', e12', e13', e14', e15', e16', e17', e18', e19', e20', e21', e22', e23', e24'] at hA
    rw [hA]
    clear hA e0' e1' e2' e3' e4' e5' e6' e7' e8' e9' e10' e11' e12' e13' e14' e15' e16' e17' e18' e19' e20' e21' e22' e23' e24' hI hde
    obtain ⟨hD, hO⟩ := hE
    have hc := (dw hD.row).sp
    rw [e1]
    go_wp2_with (first
      | (go_at_call 33; refine (placeBehind_impl _ _ _).mono ?_; rintro e w0 ⟨rfl, rfl⟩; rw [e2])
      | (refine st_dn (m' := m.popd) (n' := n) (o' := -1) rfl rfl rfl rfl hD.row rfl rfl ?_; intro w1 r1 o1 s1))
    go_ret
    exact ⟨rfl, .mk (hD.set r1 o1 rfl rfl) (hO.trans o1)⟩
theorem nop_impl (h : DSt base w g x y m n (-1)) (hok : m.ok = true) (hn : bok n = true) :
    Calls Tryz.prog 68 #[.pointer (some ⟨g, 0, none⟩)] w fun e w' => e = .returned (.tuple #[]) ∧ Done base w w' g (m.does n 0).1 n (m.does n 0).2 := by
  go_enter Tryz.func68, Tryz.ntmps68
  go_wp2
  refine ret_unit rfl rfl ?_
  exact ⟨rfl, .mk h (Onto.refl _ _)⟩
theorem lda_impl (h : DSt base w g x y m n (-1)) (hok : m.ok = true) (hn : bok n = true) :
    Calls Tryz.prog 69 #[.pointer (some ⟨g, 0, none⟩)] w fun e w' => e = .returned (.tuple #[]) ∧ Done base w w' g (m.does n 1).1 n (m.does n 1).2 := by
  have hc := (dw h.row).n
  go_enter Tryz.func69, Tryz.ntmps69
  go_wp2_with (refine st_dn (m' := (m.does n 1).1) (n' := n) (o' := -1) rfl rfl rfl rfl h.row rfl rfl ?_; intro w1 r1 o1 s1)
  refine ret_unit rfl rfl ?_
  exact ⟨rfl, .mk (h.set r1 o1 rfl rfl) o1⟩
theorem ldb_impl (h : DSt base w g x y m n (-1)) (hok : m.ok = true) (hn : bok n = true) :
    Calls Tryz.prog 70 #[.pointer (some ⟨g, 0, none⟩)] w fun e w' => e = .returned (.tuple #[]) ∧ Done base w w' g (m.does n 2).1 n (m.does n 2).2 := by
  have hc := (dw h.row).n
  go_enter Tryz.func70, Tryz.ntmps70
  go_wp2_with (refine st_dn (m' := (m.does n 2).1) (n' := n) (o' := -1) rfl rfl rfl rfl h.row rfl rfl ?_; intro w1 r1 o1 s1)
  refine ret_unit rfl rfl ?_
  exact ⟨rfl, .mk (h.set r1 o1 rfl rfl) o1⟩
theorem mab_impl (h : DSt base w g x y m n (-1)) (hok : m.ok = true) (hn : bok n = true) :
    Calls Tryz.prog 71 #[.pointer (some ⟨g, 0, none⟩)] w fun e w' => e = .returned (.tuple #[]) ∧ Done base w w' g (m.does n 3).1 n (m.does n 3).2 := by
  have hc := (dw h.row).b
  go_enter Tryz.func71, Tryz.ntmps71
  go_wp2_with (refine st_dn (m' := (m.does n 3).1) (n' := n) (o' := -1) rfl rfl rfl rfl h.row rfl rfl ?_; intro w1 r1 o1 s1)
  refine ret_unit rfl rfl ?_
  exact ⟨rfl, .mk (h.set r1 o1 rfl rfl) o1⟩
theorem mba_impl (h : DSt base w g x y m n (-1)) (hok : m.ok = true) (hn : bok n = true) :
    Calls Tryz.prog 72 #[.pointer (some ⟨g, 0, none⟩)] w fun e w' => e = .returned (.tuple #[]) ∧ Done base w w' g (m.does n 4).1 n (m.does n 4).2 := by
  have hc := (dw h.row).a
  go_enter Tryz.func72, Tryz.ntmps72
  go_wp2_with (refine st_dn (m' := (m.does n 4).1) (n' := n) (o' := -1) rfl rfl rfl rfl h.row rfl rfl ?_; intro w1 r1 o1 s1)
  refine ret_unit rfl rfl ?_
  exact ⟨rfl, .mk (h.set r1 o1 rfl rfl) o1⟩
set_option maxRecDepth 100000 in
theorem get_impl (h : DSt base w g x y m n (-1)) (hok : m.ok = true) (hn : bok n = true) :
    Calls Tryz.prog 73 #[.pointer (some ⟨g, 0, none⟩)] w fun e w' => e = .returned (.tuple #[]) ∧ Done base w w' g (m.does n 5).1 n (m.does n 5).2 := by
  go_enter Tryz.func73, Tryz.ntmps73
  go_wp2_with fail
  refine region_last (by kernel_rfl) (by kernel_rfl) 13 (by decide) (by kernel_rfl) (by kernel_rfl) (fun W => DSt base W g x y m n (-1) ∧ Onto g w W) (fun W => Done base w W g (m.does n 5).1 n (m.does n 5).2) [.pointer (some ⟨g, 0, none⟩), .pointer (some ⟨g, 0, none⟩), .pointer (some ⟨g, 0, none⟩), .pointer (some ⟨g, 0, none⟩), m.val x y, .pointer (some ⟨g, 0, none⟩), .pointer (some ⟨g, 0, none⟩), .pointer (some ⟨g, 25, none⟩), .int .i64 n, .int .i64 (m.readAt n), .pointer (some ⟨g, 0, none⟩), .pointer (some ⟨g, 0, none⟩), .pointer (some ⟨g, 2, none⟩), undef] ⟨h.drew, (Onto.refl g w).drew⟩ ?step ?last ?done
  case step =>
    intro L ix o' A W hne hi hI hg hd
    have hin : ix < 14 := by
      by_cases hl : ix < 14
      · exact hl
      · simp [hl] at hi
    rcases ix with _ | ix
    · obtain rfl := (Option.some.inj hi).symm
      have e0 : A.eval (.tmp 0) = .pointer (some ⟨g, 0, none⟩) := hI.old 0 (by kernel_rfl)
      exact at_op rfl rfl (move_op rfl ⟨_, rfl, e0, hg⟩)
    rcases ix with _ | ix
    · obtain rfl := (Option.some.inj hi).symm
      have e0 : A.eval (.tmp 0) = .pointer (some ⟨g, 0, none⟩) := hI.old 0 (by kernel_rfl)
      exact at_op rfl rfl (move_op rfl ⟨_, rfl, e0, hg⟩)
    rcases ix with _ | ix
    · obtain rfl := (Option.some.inj hi).symm
      have e0 : A.eval (.tmp 3) = .pointer (some ⟨g, 0, none⟩) := hI.val hd 1 3 rfl rfl (by kernel_rfl)
      exact at_op rfl rfl (nil_op rfl e0 ⟨_, rfl, rfl, hg⟩)
    rcases ix with _ | ix
    · obtain rfl := (Option.some.inj hi).symm
      have e0 : A.eval (.tmp 4) = .pointer (some ⟨g, 0, none⟩) := hI.val hd 2 4 rfl rfl (by kernel_rfl)
      refine at_op rfl rfl (val_op (v := .pointer (some ⟨g, 0, none⟩)) ?_ ⟨_, rfl, rfl, hg⟩)
      unfold execOp
      simp only [List.getElem_toArray, List.getElem_cons_zero, List.getElem_cons_succ, e0]
      simp [go_sem]
    rcases ix with _ | ix
    · obtain rfl := (Option.some.inj hi).symm
      have e0 : A.eval (.tmp 5) = .pointer (some ⟨g, 0, none⟩) := hI.val hd 3 5 rfl rfl (by kernel_rfl)
      exact at_op rfl rfl (lm_op rfl e0 hg.1.row ⟨_, rfl, rfl, hg⟩)
    rcases ix with _ | ix
    · obtain rfl := (Option.some.inj hi).symm
      have e0 : A.eval (.tmp 0) = .pointer (some ⟨g, 0, none⟩) := hI.old 0 (by kernel_rfl)
      exact at_op rfl rfl (move_op rfl ⟨_, rfl, e0, hg⟩)
    rcases ix with _ | ix
    · obtain rfl := (Option.some.inj hi).symm
      have e0 : A.eval (.tmp 7) = .pointer (some ⟨g, 0, none⟩) := hI.val hd 5 7 rfl rfl (by kernel_rfl)
      exact at_op rfl rfl (nil_op rfl e0 ⟨_, rfl, rfl, hg⟩)
    rcases ix with _ | ix
    · obtain rfl := (Option.some.inj hi).symm
      have e0 : A.eval (.tmp 8) = .pointer (some ⟨g, 0, none⟩) := hI.val hd 6 8 rfl rfl (by kernel_rfl)
      refine at_op rfl rfl (val_op (v := .pointer (some ⟨g, 25, none⟩)) ?_ ⟨_, rfl, rfl, hg⟩)
      unfold execOp
      simp only [List.getElem_toArray, List.getElem_cons_zero, List.getElem_cons_succ, e0]
      simp [go_sem]
    rcases ix with _ | ix
    · obtain rfl := (Option.some.inj hi).symm
      have e0 : A.eval (.tmp 9) = .pointer (some ⟨g, 25, none⟩) := hI.val hd 7 9 rfl rfl (by kernel_rfl)
      exact at_op rfl rfl (load_op rfl Tryz.underlying2 e0 (dw hg.1.row).n ⟨_, rfl, rfl, hg⟩)
    rcases ix with _ | ix
    · obtain rfl := (Option.some.inj hi).symm
      have e0 : A.eval (.tmp 6) = m.val x y := hI.val hd 4 6 rfl rfl (by kernel_rfl)
      have e1 : A.eval (.tmp 10) = .int .i64 n := hI.val hd 8 10 rfl rfl (by kernel_rfl)
      refine at_op rfl rfl (call_op rfl Tryz.func31 (by kernel_rfl) (by kernel_rfl) ?_)
      simp only [List.map_cons, List.map_nil, e0, e1]
      refine (readAt_impl _ m _ _ hg.1.sl).mono ?_
      rintro e w1 ⟨rfl, hb⟩
      exact ⟨_, rfl, _, rfl, rfl, hg.1.below hb, hg.2.trans (below_on hb)⟩
    rcases ix with _ | ix
    · obtain rfl := (Option.some.inj hi).symm
      have e0 : A.eval (.tmp 2) = .pointer (some ⟨g, 0, none⟩) := hI.val hd 0 2 rfl rfl (by kernel_rfl)
      exact at_op rfl rfl (nil_op rfl e0 ⟨_, rfl, rfl, hg⟩)
    rcases ix with _ | ix
    · obtain rfl := (Option.some.inj hi).symm
      have e0 : A.eval (.tmp 12) = .pointer (some ⟨g, 0, none⟩) := hI.val hd 10 12 rfl rfl (by kernel_rfl)
      refine at_op rfl rfl (val_op (v := .pointer (some ⟨g, 0, none⟩)) ?_ ⟨_, rfl, rfl, hg⟩)
      unfold execOp
      simp only [List.getElem_toArray, List.getElem_cons_zero, List.getElem_cons_succ, e0]
      simp [go_sem]
    rcases ix with _ | ix
    · obtain rfl := (Option.some.inj hi).symm
      have e0 : A.eval (.tmp 13) = .pointer (some ⟨g, 0, none⟩) := hI.val hd 11 13 rfl rfl (by kernel_rfl)
      refine at_op rfl rfl (val_op (v := .pointer (some ⟨g, 2, none⟩)) ?_ ⟨_, rfl, rfl, hg⟩)
      unfold execOp
      simp only [List.getElem_toArray, List.getElem_cons_zero, List.getElem_cons_succ, e0]
      simp [go_sem]
    rcases ix with _ | ix
    · exact absurd rfl hne
    omega
  case last =>
    intro L o' A W hi hI hg hd
    obtain rfl := (Option.some.inj hi).symm
    have e0 : A.eval (.tmp 14) = .pointer (some ⟨g, 2, none⟩) := hI.val hd 12 14 rfl rfl (by kernel_rfl)
    have e1 : A.eval (.tmp 11) = .int .i64 (m.readAt n) := hI.val hd 9 11 rfl rfl (by kernel_rfl)
    rw [readAt_ok hok hn] at e1
    exact at_op rfl rfl (sd_op (m' := (m.does n 5).1) (n' := n) (o' := -1) rfl e0 e1 hg.1.row rfl rfl (fun w' hr ho => ⟨_, rfl, rfl, .mk (hg.1.set hr ho rfl rfl) (hg.2.trans ho)⟩))
  case done =>
    intro A W hI hE
    exact ret_unit rfl hI.defers ⟨rfl, hE⟩
set_option maxRecDepth 100000 in
theorem put_impl (h : DSt base w g x y m n (-1)) (hok : m.ok = true) (hn : bok n = true) :
    Calls Tryz.prog 74 #[.pointer (some ⟨g, 0, none⟩)] w fun e w' => e = .returned (.tuple #[]) ∧ Done base w w' g (m.does n 6).1 n (m.does n 6).2 := by
  go_enter Tryz.func74, Tryz.ntmps74
  go_wp2_with fail
  refine region_last (by kernel_rfl) (by kernel_rfl) 10 (by decide) (by kernel_rfl) (by kernel_rfl) (fun W => DSt base W g x y m n (-1) ∧ Onto g w W) (fun W => Done base w W g (m.does n 6).1 n (m.does n 6).2) [.pointer (some ⟨g, 0, none⟩), .pointer (some ⟨g, 0, none⟩), .pointer (some ⟨g, 0, none⟩), .pointer (some ⟨g, 25, none⟩), .int .i64 n, .pointer (some ⟨g, 0, none⟩), .pointer (some ⟨g, 0, none⟩), .pointer (some ⟨g, 0, none⟩), .pointer (some ⟨g, 2, none⟩), .int .i64 m.a, .tuple #[]] ⟨h.drew, (Onto.refl g w).drew⟩ ?step ?last ?done
  case step =>
    intro L ix o' A W hne hi hI hg hd
    have hin : ix < 11 := by
      by_cases hl : ix < 11
      · exact hl
      · simp [hl] at hi
    rcases ix with _ | ix
    · obtain rfl := (Option.some.inj hi).symm
      have e0 : A.eval (.tmp 0) = .pointer (some ⟨g, 0, none⟩) := hI.old 0 (by kernel_rfl)
      exact at_op rfl rfl (move_op rfl ⟨_, rfl, e0, hg⟩)
    rcases ix with _ | ix
    · obtain rfl := (Option.some.inj hi).symm
      have e0 : A.eval (.tmp 0) = .pointer (some ⟨g, 0, none⟩) := hI.old 0 (by kernel_rfl)
      exact at_op rfl rfl (move_op rfl ⟨_, rfl, e0, hg⟩)
    rcases ix with _ | ix
    · obtain rfl := (Option.some.inj hi).symm
      have e0 : A.eval (.tmp 3) = .pointer (some ⟨g, 0, none⟩) := hI.val hd 1 3 rfl rfl (by kernel_rfl)
      exact at_op rfl rfl (nil_op rfl e0 ⟨_, rfl, rfl, hg⟩)
    rcases ix with _ | ix
    · obtain rfl := (Option.some.inj hi).symm
      have e0 : A.eval (.tmp 4) = .pointer (some ⟨g, 0, none⟩) := hI.val hd 2 4 rfl rfl (by kernel_rfl)
      refine at_op rfl rfl (val_op (v := .pointer (some ⟨g, 25, none⟩)) ?_ ⟨_, rfl, rfl, hg⟩)
      unfold execOp
      simp only [List.getElem_toArray, List.getElem_cons_zero, List.getElem_cons_succ, e0]
      simp [go_sem]
    rcases ix with _ | ix
    · obtain rfl := (Option.some.inj hi).symm
      have e0 : A.eval (.tmp 5) = .pointer (some ⟨g, 25, none⟩) := hI.val hd 3 5 rfl rfl (by kernel_rfl)
      exact at_op rfl rfl (load_op rfl Tryz.underlying2 e0 (dw hg.1.row).n ⟨_, rfl, rfl, hg⟩)
    rcases ix with _ | ix
    · obtain rfl := (Option.some.inj hi).symm
      have e0 : A.eval (.tmp 0) = .pointer (some ⟨g, 0, none⟩) := hI.old 0 (by kernel_rfl)
      exact at_op rfl rfl (move_op rfl ⟨_, rfl, e0, hg⟩)
    rcases ix with _ | ix
    · obtain rfl := (Option.some.inj hi).symm
      have e0 : A.eval (.tmp 7) = .pointer (some ⟨g, 0, none⟩) := hI.val hd 5 7 rfl rfl (by kernel_rfl)
      exact at_op rfl rfl (nil_op rfl e0 ⟨_, rfl, rfl, hg⟩)
    rcases ix with _ | ix
    · obtain rfl := (Option.some.inj hi).symm
      have e0 : A.eval (.tmp 8) = .pointer (some ⟨g, 0, none⟩) := hI.val hd 6 8 rfl rfl (by kernel_rfl)
      refine at_op rfl rfl (val_op (v := .pointer (some ⟨g, 0, none⟩)) ?_ ⟨_, rfl, rfl, hg⟩)
      unfold execOp
      simp only [List.getElem_toArray, List.getElem_cons_zero, List.getElem_cons_succ, e0]
      simp [go_sem]
    rcases ix with _ | ix
    · obtain rfl := (Option.some.inj hi).symm
      have e0 : A.eval (.tmp 9) = .pointer (some ⟨g, 0, none⟩) := hI.val hd 7 9 rfl rfl (by kernel_rfl)
      refine at_op rfl rfl (val_op (v := .pointer (some ⟨g, 2, none⟩)) ?_ ⟨_, rfl, rfl, hg⟩)
      unfold execOp
      simp only [List.getElem_toArray, List.getElem_cons_zero, List.getElem_cons_succ, e0]
      simp [go_sem]
    rcases ix with _ | ix
    · obtain rfl := (Option.some.inj hi).symm
      have e0 : A.eval (.tmp 10) = .pointer (some ⟨g, 2, none⟩) := hI.val hd 8 10 rfl rfl (by kernel_rfl)
      exact at_op rfl rfl (load_op rfl Tryz.underlying2 e0 (dw hg.1.row).a ⟨_, rfl, rfl, hg⟩)
    rcases ix with _ | ix
    · exact absurd rfl hne
    omega
  case last =>
    intro L o' A W hi hI hg hd
    obtain rfl := (Option.some.inj hi).symm
    have e0 : A.eval (.tmp 2) = .pointer (some ⟨g, 0, none⟩) := hI.val hd 0 2 rfl rfl (by kernel_rfl)
    have e1 : A.eval (.tmp 6) = .int .i64 n := hI.val hd 4 6 rfl rfl (by kernel_rfl)
    have e2 : A.eval (.tmp 11) = .int .i64 m.a := hI.val hd 9 11 rfl rfl (by kernel_rfl)
    refine at_op rfl rfl (call_op rfl Tryz.func75 (by kernel_rfl) (by kernel_rfl) ?_)
    simp only [List.map_cons, List.map_nil, e0, e1, e2]
    refine (write_impl hg.1 _ _).mono ?_
    rintro e w1 ⟨rfl, x1, y1, h1, o1⟩
    rw [writtenAt_ok hok hn (okm.1 hok).a] at h1
    exact ⟨_, rfl, _, rfl, rfl, .mk h1 (hg.2.trans o1)⟩
  case done =>
    intro A W hI hE
    exact ret_unit rfl hI.defers ⟨rfl, hE⟩
set_option maxRecDepth 100000 in
theorem gib_impl (h : DSt base w g x y m n (-1)) (hok : m.ok = true) (hn : bok n = true) :
    Calls Tryz.prog 76 #[.pointer (some ⟨g, 0, none⟩)] w fun e w' => e = .returned (.tuple #[]) ∧ Done base w w' g (m.does n 7).1 n (m.does n 7).2 := by
  go_enter Tryz.func76, Tryz.ntmps76
  go_wp2_with fail
  refine region_last (by kernel_rfl) (by kernel_rfl) 14 (by decide) (by kernel_rfl) (by kernel_rfl) (fun W => DSt base W g x y m n (-1) ∧ Onto g w W) (fun W => Done base w W g (m.does n 7).1 n (m.does n 7).2) [.pointer (some ⟨g, 0, none⟩), .pointer (some ⟨g, 0, none⟩), .pointer (some ⟨g, 0, none⟩), .pointer (some ⟨g, 0, none⟩), m.val x y, .pointer (some ⟨g, 0, none⟩), .pointer (some ⟨g, 0, none⟩), .pointer (some ⟨g, 0, none⟩), .pointer (some ⟨g, 3, none⟩), .int .i64 m.b, .int .i64 (m.readAt m.b), .pointer (some ⟨g, 0, none⟩), .pointer (some ⟨g, 0, none⟩), .pointer (some ⟨g, 2, none⟩), undef] ⟨h.drew, (Onto.refl g w).drew⟩ ?step ?last ?done
  case step =>
    intro L ix o' A W hne hi hI hg hd
    have hin : ix < 15 := by
      by_cases hl : ix < 15
      · exact hl
      · simp [hl] at hi
    rcases ix with _ | ix
    · obtain rfl := (Option.some.inj hi).symm
      have e0 : A.eval (.tmp 0) = .pointer (some ⟨g, 0, none⟩) := hI.old 0 (by kernel_rfl)
      exact at_op rfl rfl (move_op rfl ⟨_, rfl, e0, hg⟩)
    rcases ix with _ | ix
    · obtain rfl := (Option.some.inj hi).symm
      have e0 : A.eval (.tmp 0) = .pointer (some ⟨g, 0, none⟩) := hI.old 0 (by kernel_rfl)
      exact at_op rfl rfl (move_op rfl ⟨_, rfl, e0, hg⟩)
    rcases ix with _ | ix
    · obtain rfl := (Option.some.inj hi).symm
      have e0 : A.eval (.tmp 3) = .pointer (some ⟨g, 0, none⟩) := hI.val hd 1 3 rfl rfl (by kernel_rfl)
      exact at_op rfl rfl (nil_op rfl e0 ⟨_, rfl, rfl, hg⟩)
    rcases ix with _ | ix
    · obtain rfl := (Option.some.inj hi).symm
      have e0 : A.eval (.tmp 4) = .pointer (some ⟨g, 0, none⟩) := hI.val hd 2 4 rfl rfl (by kernel_rfl)
      refine at_op rfl rfl (val_op (v := .pointer (some ⟨g, 0, none⟩)) ?_ ⟨_, rfl, rfl, hg⟩)
      unfold execOp
      simp only [List.getElem_toArray, List.getElem_cons_zero, List.getElem_cons_succ, e0]
      simp [go_sem]
    rcases ix with _ | ix
    · obtain rfl := (Option.some.inj hi).symm
      have e0 : A.eval (.tmp 5) = .pointer (some ⟨g, 0, none⟩) := hI.val hd 3 5 rfl rfl (by kernel_rfl)
      exact at_op rfl rfl (lm_op rfl e0 hg.1.row ⟨_, rfl, rfl, hg⟩)
    rcases ix with _ | ix
    · obtain rfl := (Option.some.inj hi).symm
      have e0 : A.eval (.tmp 0) = .pointer (some ⟨g, 0, none⟩) := hI.old 0 (by kernel_rfl)
      exact at_op rfl rfl (move_op rfl ⟨_, rfl, e0, hg⟩)
    rcases ix with _ | ix
    · obtain rfl := (Option.some.inj hi).symm
      have e0 : A.eval (.tmp 7) = .pointer (some ⟨g, 0, none⟩) := hI.val hd 5 7 rfl rfl (by kernel_rfl)
      exact at_op rfl rfl (nil_op rfl e0 ⟨_, rfl, rfl, hg⟩)
    rcases ix with _ | ix
    · obtain rfl := (Option.some.inj hi).symm
      have e0 : A.eval (.tmp 8) = .pointer (some ⟨g, 0, none⟩) := hI.val hd 6 8 rfl rfl (by kernel_rfl)
      refine at_op rfl rfl (val_op (v := .pointer (some ⟨g, 0, none⟩)) ?_ ⟨_, rfl, rfl, hg⟩)
      unfold execOp
      simp only [List.getElem_toArray, List.getElem_cons_zero, List.getElem_cons_succ, e0]
      simp [go_sem]
    rcases ix with _ | ix
    · obtain rfl := (Option.some.inj hi).symm
      have e0 : A.eval (.tmp 9) = .pointer (some ⟨g, 0, none⟩) := hI.val hd 7 9 rfl rfl (by kernel_rfl)
      refine at_op rfl rfl (val_op (v := .pointer (some ⟨g, 3, none⟩)) ?_ ⟨_, rfl, rfl, hg⟩)
      unfold execOp
      simp only [List.getElem_toArray, List.getElem_cons_zero, List.getElem_cons_succ, e0]
      simp [go_sem]
    rcases ix with _ | ix
    · obtain rfl := (Option.some.inj hi).symm
      have e0 : A.eval (.tmp 10) = .pointer (some ⟨g, 3, none⟩) := hI.val hd 8 10 rfl rfl (by kernel_rfl)
      exact at_op rfl rfl (load_op rfl Tryz.underlying2 e0 (dw hg.1.row).b ⟨_, rfl, rfl, hg⟩)
    rcases ix with _ | ix
    · obtain rfl := (Option.some.inj hi).symm
      have e0 : A.eval (.tmp 6) = m.val x y := hI.val hd 4 6 rfl rfl (by kernel_rfl)
      have e1 : A.eval (.tmp 11) = .int .i64 m.b := hI.val hd 9 11 rfl rfl (by kernel_rfl)
      refine at_op rfl rfl (call_op rfl Tryz.func31 (by kernel_rfl) (by kernel_rfl) ?_)
      simp only [List.map_cons, List.map_nil, e0, e1]
      refine (readAt_impl _ m _ _ hg.1.sl).mono ?_
      rintro e w1 ⟨rfl, hb⟩
      exact ⟨_, rfl, _, rfl, rfl, hg.1.below hb, hg.2.trans (below_on hb)⟩
    rcases ix with _ | ix
    · obtain rfl := (Option.some.inj hi).symm
      have e0 : A.eval (.tmp 2) = .pointer (some ⟨g, 0, none⟩) := hI.val hd 0 2 rfl rfl (by kernel_rfl)
      exact at_op rfl rfl (nil_op rfl e0 ⟨_, rfl, rfl, hg⟩)
    rcases ix with _ | ix
    · obtain rfl := (Option.some.inj hi).symm
      have e0 : A.eval (.tmp 13) = .pointer (some ⟨g, 0, none⟩) := hI.val hd 11 13 rfl rfl (by kernel_rfl)
      refine at_op rfl rfl (val_op (v := .pointer (some ⟨g, 0, none⟩)) ?_ ⟨_, rfl, rfl, hg⟩)
      unfold execOp
      simp only [List.getElem_toArray, List.getElem_cons_zero, List.getElem_cons_succ, e0]
      simp [go_sem]
    rcases ix with _ | ix
    · obtain rfl := (Option.some.inj hi).symm
      have e0 : A.eval (.tmp 14) = .pointer (some ⟨g, 0, none⟩) := hI.val hd 12 14 rfl rfl (by kernel_rfl)
      refine at_op rfl rfl (val_op (v := .pointer (some ⟨g, 2, none⟩)) ?_ ⟨_, rfl, rfl, hg⟩)
      unfold execOp
      simp only [List.getElem_toArray, List.getElem_cons_zero, List.getElem_cons_succ, e0]
      simp [go_sem]
    rcases ix with _ | ix
    · exact absurd rfl hne
    omega
  case last =>
    intro L o' A W hi hI hg hd
    obtain rfl := (Option.some.inj hi).symm
    have e0 : A.eval (.tmp 15) = .pointer (some ⟨g, 2, none⟩) := hI.val hd 13 15 rfl rfl (by kernel_rfl)
    have e1 : A.eval (.tmp 12) = .int .i64 (m.readAt m.b) := hI.val hd 10 12 rfl rfl (by kernel_rfl)
    rw [readAt_ok hok (okm.1 hok).b] at e1
    exact at_op rfl rfl (sd_op (m' := (m.does n 7).1) (n' := n) (o' := -1) rfl e0 e1 hg.1.row rfl rfl (fun w' hr ho => ⟨_, rfl, rfl, .mk (hg.1.set hr ho rfl rfl) (hg.2.trans ho)⟩))
  case done =>
    intro A W hI hE
    exact ret_unit rfl hI.defers ⟨rfl, hE⟩
set_option maxRecDepth 100000 in
theorem pib_impl (h : DSt base w g x y m n (-1)) (hok : m.ok = true) (hn : bok n = true) :
    Calls Tryz.prog 77 #[.pointer (some ⟨g, 0, none⟩)] w fun e w' => e = .returned (.tuple #[]) ∧ Done base w w' g (m.does n 8).1 n (m.does n 8).2 := by
  go_enter Tryz.func77, Tryz.ntmps77
  go_wp2_with fail
  refine region_last (by kernel_rfl) (by kernel_rfl) 11 (by decide) (by kernel_rfl) (by kernel_rfl) (fun W => DSt base W g x y m n (-1) ∧ Onto g w W) (fun W => Done base w W g (m.does n 8).1 n (m.does n 8).2) [.pointer (some ⟨g, 0, none⟩), .pointer (some ⟨g, 0, none⟩), .pointer (some ⟨g, 0, none⟩), .pointer (some ⟨g, 0, none⟩), .pointer (some ⟨g, 3, none⟩), .int .i64 m.b, .pointer (some ⟨g, 0, none⟩), .pointer (some ⟨g, 0, none⟩), .pointer (some ⟨g, 0, none⟩), .pointer (some ⟨g, 2, none⟩), .int .i64 m.a, .tuple #[]] ⟨h.drew, (Onto.refl g w).drew⟩ ?step ?last ?done
  case step =>
    intro L ix o' A W hne hi hI hg hd
    have hin : ix < 12 := by
      by_cases hl : ix < 12
      · exact hl
      · simp [hl] at hi
    rcases ix with _ | ix
    · obtain rfl := (Option.some.inj hi).symm
      have e0 : A.eval (.tmp 0) = .pointer (some ⟨g, 0, none⟩) := hI.old 0 (by kernel_rfl)
      exact at_op rfl rfl (move_op rfl ⟨_, rfl, e0, hg⟩)
    rcases ix with _ | ix
    · obtain rfl := (Option.some.inj hi).symm
      have e0 : A.eval (.tmp 0) = .pointer (some ⟨g, 0, none⟩) := hI.old 0 (by kernel_rfl)
      exact at_op rfl rfl (move_op rfl ⟨_, rfl, e0, hg⟩)
    rcases ix with _ | ix
    · obtain rfl := (Option.some.inj hi).symm
      have e0 : A.eval (.tmp 3) = .pointer (some ⟨g, 0, none⟩) := hI.val hd 1 3 rfl rfl (by kernel_rfl)
      exact at_op rfl rfl (nil_op rfl e0 ⟨_, rfl, rfl, hg⟩)
    rcases ix with _ | ix
    · obtain rfl := (Option.some.inj hi).symm
      have e0 : A.eval (.tmp 4) = .pointer (some ⟨g, 0, none⟩) := hI.val hd 2 4 rfl rfl (by kernel_rfl)
      refine at_op rfl rfl (val_op (v := .pointer (some ⟨g, 0, none⟩)) ?_ ⟨_, rfl, rfl, hg⟩)
      unfold execOp
      simp only [List.getElem_toArray, List.getElem_cons_zero, List.getElem_cons_succ, e0]
      simp [go_sem]
    rcases ix with _ | ix
    · obtain rfl := (Option.some.inj hi).symm
      have e0 : A.eval (.tmp 5) = .pointer (some ⟨g, 0, none⟩) := hI.val hd 3 5 rfl rfl (by kernel_rfl)
      refine at_op rfl rfl (val_op (v := .pointer (some ⟨g, 3, none⟩)) ?_ ⟨_, rfl, rfl, hg⟩)
      unfold execOp
      simp only [List.getElem_toArray, List.getElem_cons_zero, List.getElem_cons_succ, e0]
      simp [go_sem]
    rcases ix with _ | ix
    · obtain rfl := (Option.some.inj hi).symm
      have e0 : A.eval (.tmp 6) = .pointer (some ⟨g, 3, none⟩) := hI.val hd 4 6 rfl rfl (by kernel_rfl)
      exact at_op rfl rfl (load_op rfl Tryz.underlying2 e0 (dw hg.1.row).b ⟨_, rfl, rfl, hg⟩)
    rcases ix with _ | ix
    · obtain rfl := (Option.some.inj hi).symm
      have e0 : A.eval (.tmp 0) = .pointer (some ⟨g, 0, none⟩) := hI.old 0 (by kernel_rfl)
      exact at_op rfl rfl (move_op rfl ⟨_, rfl, e0, hg⟩)
    rcases ix with _ | ix
    · obtain rfl := (Option.some.inj hi).symm
      have e0 : A.eval (.tmp 8) = .pointer (some ⟨g, 0, none⟩) := hI.val hd 6 8 rfl rfl (by kernel_rfl)
      exact at_op rfl rfl (nil_op rfl e0 ⟨_, rfl, rfl, hg⟩)
    rcases ix with _ | ix
    · obtain rfl := (Option.some.inj hi).symm
      have e0 : A.eval (.tmp 9) = .pointer (some ⟨g, 0, none⟩) := hI.val hd 7 9 rfl rfl (by kernel_rfl)
      refine at_op rfl rfl (val_op (v := .pointer (some ⟨g, 0, none⟩)) ?_ ⟨_, rfl, rfl, hg⟩)
      unfold execOp
      simp only [List.getElem_toArray, List.getElem_cons_zero, List.getElem_cons_succ, e0]
      simp [go_sem]
    rcases ix with _ | ix
    · obtain rfl := (Option.some.inj hi).symm
      have e0 : A.eval (.tmp 10) = .pointer (some ⟨g, 0, none⟩) := hI.val hd 8 10 rfl rfl (by kernel_rfl)
      refine at_op rfl rfl (val_op (v := .pointer (some ⟨g, 2, none⟩)) ?_ ⟨_, rfl, rfl, hg⟩)
      unfold execOp
      simp only [List.getElem_toArray, List.getElem_cons_zero, List.getElem_cons_succ, e0]
      simp [go_sem]
    rcases ix with _ | ix
    · obtain rfl := (Option.some.inj hi).symm
      have e0 : A.eval (.tmp 11) = .pointer (some ⟨g, 2, none⟩) := hI.val hd 9 11 rfl rfl (by kernel_rfl)
      exact at_op rfl rfl (load_op rfl Tryz.underlying2 e0 (dw hg.1.row).a ⟨_, rfl, rfl, hg⟩)
    rcases ix with _ | ix
    · exact absurd rfl hne
    omega
  case last =>
    intro L o' A W hi hI hg hd
    obtain rfl := (Option.some.inj hi).symm
    have e0 : A.eval (.tmp 2) = .pointer (some ⟨g, 0, none⟩) := hI.val hd 0 2 rfl rfl (by kernel_rfl)
    have e1 : A.eval (.tmp 7) = .int .i64 m.b := hI.val hd 5 7 rfl rfl (by kernel_rfl)
    have e2 : A.eval (.tmp 12) = .int .i64 m.a := hI.val hd 10 12 rfl rfl (by kernel_rfl)
    refine at_op rfl rfl (call_op rfl Tryz.func75 (by kernel_rfl) (by kernel_rfl) ?_)
    simp only [List.map_cons, List.map_nil, e0, e1, e2]
    refine (write_impl hg.1 _ _).mono ?_
    rintro e w1 ⟨rfl, x1, y1, h1, o1⟩
    rw [writtenAt_ok hok (okm.1 hok).b (okm.1 hok).a] at h1
    exact ⟨_, rfl, _, rfl, rfl, .mk h1 (hg.2.trans o1)⟩
  case done =>
    intro A W hI hE
    exact ret_unit rfl hI.defers ⟨rfl, hE⟩
set_option maxRecDepth 100000 in
theorem add_impl (h : DSt base w g x y m n (-1)) (hok : m.ok = true) (hn : bok n = true) :
    Calls Tryz.prog 78 #[.pointer (some ⟨g, 0, none⟩)] w fun e w' => e = .returned (.tuple #[]) ∧ Done base w w' g (m.does n 9).1 n (m.does n 9).2 := by
  go_enter Tryz.func78, Tryz.ntmps78
  go_wp2_with fail
  refine region_last (by kernel_rfl) (by kernel_rfl) 13 (by decide) (by kernel_rfl) (by kernel_rfl) (fun W => DSt base W g x y m n (-1) ∧ Onto g w W) (fun W => Done base w W g (m.does n 9).1 n (m.does n 9).2) [.pointer (some ⟨g, 0, none⟩), .pointer (some ⟨g, 0, none⟩), .pointer (some ⟨g, 0, none⟩), .pointer (some ⟨g, 0, none⟩), .pointer (some ⟨g, 2, none⟩), .int .i64 m.a, .pointer (some ⟨g, 0, none⟩), .pointer (some ⟨g, 0, none⟩), .pointer (some ⟨g, 25, none⟩), .int .i64 n, .tuple #[.int .i64 (addB m.a n), .bool (addC m.a n)], .int .i64 (addB m.a n), .bool (addC m.a n), .tuple #[]] ⟨h.drew, (Onto.refl g w).drew⟩ ?step ?last ?done
  case step =>
    intro L ix o' A W hne hi hI hg hd
    have hin : ix < 14 := by
      by_cases hl : ix < 14
      · exact hl
      · simp [hl] at hi
    rcases ix with _ | ix
    · obtain rfl := (Option.some.inj hi).symm
      have e0 : A.eval (.tmp 0) = .pointer (some ⟨g, 0, none⟩) := hI.old 0 (by kernel_rfl)
      exact at_op rfl rfl (move_op rfl ⟨_, rfl, e0, hg⟩)
    rcases ix with _ | ix
    · obtain rfl := (Option.some.inj hi).symm
      have e0 : A.eval (.tmp 0) = .pointer (some ⟨g, 0, none⟩) := hI.old 0 (by kernel_rfl)
      exact at_op rfl rfl (move_op rfl ⟨_, rfl, e0, hg⟩)
    rcases ix with _ | ix
    · obtain rfl := (Option.some.inj hi).symm
      have e0 : A.eval (.tmp 3) = .pointer (some ⟨g, 0, none⟩) := hI.val hd 1 3 rfl rfl (by kernel_rfl)
      exact at_op rfl rfl (nil_op rfl e0 ⟨_, rfl, rfl, hg⟩)
    rcases ix with _ | ix
    · obtain rfl := (Option.some.inj hi).symm
      have e0 : A.eval (.tmp 4) = .pointer (some ⟨g, 0, none⟩) := hI.val hd 2 4 rfl rfl (by kernel_rfl)
      refine at_op rfl rfl (val_op (v := .pointer (some ⟨g, 0, none⟩)) ?_ ⟨_, rfl, rfl, hg⟩)
      unfold execOp
      simp only [List.getElem_toArray, List.getElem_cons_zero, List.getElem_cons_succ, e0]
      simp [go_sem]
    rcases ix with _ | ix
    · obtain rfl := (Option.some.inj hi).symm
      have e0 : A.eval (.tmp 5) = .pointer (some ⟨g, 0, none⟩) := hI.val hd 3 5 rfl rfl (by kernel_rfl)
      refine at_op rfl rfl (val_op (v := .pointer (some ⟨g, 2, none⟩)) ?_ ⟨_, rfl, rfl, hg⟩)
      unfold execOp
      simp only [List.getElem_toArray, List.getElem_cons_zero, List.getElem_cons_succ, e0]
      simp [go_sem]
    rcases ix with _ | ix
    · obtain rfl := (Option.some.inj hi).symm
      have e0 : A.eval (.tmp 6) = .pointer (some ⟨g, 2, none⟩) := hI.val hd 4 6 rfl rfl (by kernel_rfl)
      exact at_op rfl rfl (load_op rfl Tryz.underlying2 e0 (dw hg.1.row).a ⟨_, rfl, rfl, hg⟩)
    rcases ix with _ | ix
    · obtain rfl := (Option.some.inj hi).symm
      have e0 : A.eval (.tmp 0) = .pointer (some ⟨g, 0, none⟩) := hI.old 0 (by kernel_rfl)
      exact at_op rfl rfl (move_op rfl ⟨_, rfl, e0, hg⟩)
    rcases ix with _ | ix
    · obtain rfl := (Option.some.inj hi).symm
      have e0 : A.eval (.tmp 8) = .pointer (some ⟨g, 0, none⟩) := hI.val hd 6 8 rfl rfl (by kernel_rfl)
      exact at_op rfl rfl (nil_op rfl e0 ⟨_, rfl, rfl, hg⟩)
    rcases ix with _ | ix
    · obtain rfl := (Option.some.inj hi).symm
      have e0 : A.eval (.tmp 9) = .pointer (some ⟨g, 0, none⟩) := hI.val hd 7 9 rfl rfl (by kernel_rfl)
      refine at_op rfl rfl (val_op (v := .pointer (some ⟨g, 25, none⟩)) ?_ ⟨_, rfl, rfl, hg⟩)
      unfold execOp
      simp only [List.getElem_toArray, List.getElem_cons_zero, List.getElem_cons_succ, e0]
      simp [go_sem]
    rcases ix with _ | ix
    · obtain rfl := (Option.some.inj hi).symm
      have e0 : A.eval (.tmp 10) = .pointer (some ⟨g, 25, none⟩) := hI.val hd 8 10 rfl rfl (by kernel_rfl)
      exact at_op rfl rfl (load_op rfl Tryz.underlying2 e0 (dw hg.1.row).n ⟨_, rfl, rfl, hg⟩)
    rcases ix with _ | ix
    · obtain rfl := (Option.some.inj hi).symm
      have e0 : A.eval (.tmp 7) = .int .i64 m.a := hI.val hd 5 7 rfl rfl (by kernel_rfl)
      have e1 : A.eval (.tmp 11) = .int .i64 n := hI.val hd 9 11 rfl rfl (by kernel_rfl)
      refine at_op rfl rfl (call_op rfl Tryz.func67 (by kernel_rfl) (by kernel_rfl) ?_)
      simp only [List.map_cons, List.map_nil, e0, e1]
      refine (addByte_impl _ _ _).mono ?_
      rintro e w1 ⟨rfl, rfl⟩
      exact ⟨_, rfl, _, rfl, rfl, hg⟩
    rcases ix with _ | ix
    · obtain rfl := (Option.some.inj hi).symm
      have e0 : A.eval (.tmp 12) = .tuple #[.int .i64 (addB m.a n), .bool (addC m.a n)] := hI.val hd 10 12 rfl rfl (by kernel_rfl)
      refine at_op rfl rfl (val_op (v := .int .i64 (addB m.a n)) ?_ ⟨_, rfl, rfl, hg⟩)
      unfold execOp
      simp only [List.getElem_toArray, List.getElem_cons_zero, List.getElem_cons_succ, e0]
      simp [go_sem]
    rcases ix with _ | ix
    · obtain rfl := (Option.some.inj hi).symm
      have e0 : A.eval (.tmp 12) = .tuple #[.int .i64 (addB m.a n), .bool (addC m.a n)] := hI.val hd 10 12 rfl rfl (by kernel_rfl)
      refine at_op rfl rfl (val_op (v := .bool (addC m.a n)) ?_ ⟨_, rfl, rfl, hg⟩)
      unfold execOp
      simp only [List.getElem_toArray, List.getElem_cons_zero, List.getElem_cons_succ, e0]
      simp [go_sem]
    rcases ix with _ | ix
    · exact absurd rfl hne
    omega
  case last =>
    intro L o' A W hi hI hg hd
    obtain rfl := (Option.some.inj hi).symm
    have e0 : A.eval (.tmp 2) = .pointer (some ⟨g, 0, none⟩) := hI.val hd 0 2 rfl rfl (by kernel_rfl)
    have e1 : A.eval (.tmp 13) = .int .i64 (addB m.a n) := hI.val hd 11 13 rfl rfl (by kernel_rfl)
    have e2 : A.eval (.tmp 14) = .bool (addC m.a n) := hI.val hd 12 14 rfl rfl (by kernel_rfl)
    refine at_op rfl rfl (call_op rfl Tryz.func79 (by kernel_rfl) (by kernel_rfl) ?_)
    simp only [List.map_cons, List.map_nil, e0, e1, e2]
    refine (makeA_impl hg.1 _ _).mono ?_
    rintro e w1 ⟨rfl, x1, y1, h1, o1⟩
    exact ⟨_, rfl, _, rfl, rfl, .mk h1 (hg.2.trans o1)⟩
  case done =>
    intro A W hI hE
    exact ret_unit rfl hI.defers ⟨rfl, hE⟩
set_option maxRecDepth 100000 in
theorem adb_impl (h : DSt base w g x y m n (-1)) (hok : m.ok = true) (hn : bok n = true) :
    Calls Tryz.prog 80 #[.pointer (some ⟨g, 0, none⟩)] w fun e w' => e = .returned (.tuple #[]) ∧ Done base w w' g (m.does n 10).1 n (m.does n 10).2 := by
  go_enter Tryz.func80, Tryz.ntmps80
  go_wp2_with fail
  refine region_last (by kernel_rfl) (by kernel_rfl) 14 (by decide) (by kernel_rfl) (by kernel_rfl) (fun W => DSt base W g x y m n (-1) ∧ Onto g w W) (fun W => Done base w W g (m.does n 10).1 n (m.does n 10).2) [.pointer (some ⟨g, 0, none⟩), .pointer (some ⟨g, 0, none⟩), .pointer (some ⟨g, 0, none⟩), .pointer (some ⟨g, 0, none⟩), .pointer (some ⟨g, 2, none⟩), .int .i64 m.a, .pointer (some ⟨g, 0, none⟩), .pointer (some ⟨g, 0, none⟩), .pointer (some ⟨g, 0, none⟩), .pointer (some ⟨g, 3, none⟩), .int .i64 m.b, .tuple #[.int .i64 (addB m.a m.b), .bool (addC m.a m.b)], .int .i64 (addB m.a m.b), .bool (addC m.a m.b), .tuple #[]] ⟨h.drew, (Onto.refl g w).drew⟩ ?step ?last ?done
  case step =>
    intro L ix o' A W hne hi hI hg hd
    have hin : ix < 15 := by
      by_cases hl : ix < 15
      · exact hl
      · simp [hl] at hi
    rcases ix with _ | ix
    · obtain rfl := (Option.some.inj hi).symm
      have e0 : A.eval (.tmp 0) = .pointer (some ⟨g, 0, none⟩) := hI.old 0 (by kernel_rfl)
      exact at_op rfl rfl (move_op rfl ⟨_, rfl, e0, hg⟩)
    rcases ix with _ | ix
    · obtain rfl := (Option.some.inj hi).symm
      have e0 : A.eval (.tmp 0) = .pointer (some ⟨g, 0, none⟩) := hI.old 0 (by kernel_rfl)
      exact at_op rfl rfl (move_op rfl ⟨_, rfl, e0, hg⟩)
    rcases ix with _ | ix
    · obtain rfl := (Option.some.inj hi).symm
      have e0 : A.eval (.tmp 3) = .pointer (some ⟨g, 0, none⟩) := hI.val hd 1 3 rfl rfl (by kernel_rfl)
      exact at_op rfl rfl (nil_op rfl e0 ⟨_, rfl, rfl, hg⟩)
    rcases ix with _ | ix
    · obtain rfl := (Option.some.inj hi).symm
      have e0 : A.eval (.tmp 4) = .pointer (some ⟨g, 0, none⟩) := hI.val hd 2 4 rfl rfl (by kernel_rfl)
      refine at_op rfl rfl (val_op (v := .pointer (some ⟨g, 0, none⟩)) ?_ ⟨_, rfl, rfl, hg⟩)
      unfold execOp
      simp only [List.getElem_toArray, List.getElem_cons_zero, List.getElem_cons_succ, e0]
      simp [go_sem]
    rcases ix with _ | ix
    · obtain rfl := (Option.some.inj hi).symm
      have e0 : A.eval (.tmp 5) = .pointer (some ⟨g, 0, none⟩) := hI.val hd 3 5 rfl rfl (by kernel_rfl)
      refine at_op rfl rfl (val_op (v := .pointer (some ⟨g, 2, none⟩)) ?_ ⟨_, rfl, rfl, hg⟩)
      unfold execOp
      simp only [List.getElem_toArray, List.getElem_cons_zero, List.getElem_cons_succ, e0]
      simp [go_sem]
    rcases ix with _ | ix
    · obtain rfl := (Option.some.inj hi).symm
      have e0 : A.eval (.tmp 6) = .pointer (some ⟨g, 2, none⟩) := hI.val hd 4 6 rfl rfl (by kernel_rfl)
      exact at_op rfl rfl (load_op rfl Tryz.underlying2 e0 (dw hg.1.row).a ⟨_, rfl, rfl, hg⟩)
    rcases ix with _ | ix
    · obtain rfl := (Option.some.inj hi).symm
      have e0 : A.eval (.tmp 0) = .pointer (some ⟨g, 0, none⟩) := hI.old 0 (by kernel_rfl)
      exact at_op rfl rfl (move_op rfl ⟨_, rfl, e0, hg⟩)
    rcases ix with _ | ix
    · obtain rfl := (Option.some.inj hi).symm
      have e0 : A.eval (.tmp 8) = .pointer (some ⟨g, 0, none⟩) := hI.val hd 6 8 rfl rfl (by kernel_rfl)
      exact at_op rfl rfl (nil_op rfl e0 ⟨_, rfl, rfl, hg⟩)
    rcases ix with _ | ix
    · obtain rfl := (Option.some.inj hi).symm
      have e0 : A.eval (.tmp 9) = .pointer (some ⟨g, 0, none⟩) := hI.val hd 7 9 rfl rfl (by kernel_rfl)
      refine at_op rfl rfl (val_op (v := .pointer (some ⟨g, 0, none⟩)) ?_ ⟨_, rfl, rfl, hg⟩)
      unfold execOp
      simp only [List.getElem_toArray, List.getElem_cons_zero, List.getElem_cons_succ, e0]
      simp [go_sem]
    rcases ix with _ | ix
    · obtain rfl := (Option.some.inj hi).symm
      have e0 : A.eval (.tmp 10) = .pointer (some ⟨g, 0, none⟩) := hI.val hd 8 10 rfl rfl (by kernel_rfl)
      refine at_op rfl rfl (val_op (v := .pointer (some ⟨g, 3, none⟩)) ?_ ⟨_, rfl, rfl, hg⟩)
      unfold execOp
      simp only [List.getElem_toArray, List.getElem_cons_zero, List.getElem_cons_succ, e0]
      simp [go_sem]
    rcases ix with _ | ix
    · obtain rfl := (Option.some.inj hi).symm
      have e0 : A.eval (.tmp 11) = .pointer (some ⟨g, 3, none⟩) := hI.val hd 9 11 rfl rfl (by kernel_rfl)
      exact at_op rfl rfl (load_op rfl Tryz.underlying2 e0 (dw hg.1.row).b ⟨_, rfl, rfl, hg⟩)
    rcases ix with _ | ix
    · obtain rfl := (Option.some.inj hi).symm
      have e0 : A.eval (.tmp 7) = .int .i64 m.a := hI.val hd 5 7 rfl rfl (by kernel_rfl)
      have e1 : A.eval (.tmp 12) = .int .i64 m.b := hI.val hd 10 12 rfl rfl (by kernel_rfl)
      refine at_op rfl rfl (call_op rfl Tryz.func67 (by kernel_rfl) (by kernel_rfl) ?_)
      simp only [List.map_cons, List.map_nil, e0, e1]
      refine (addByte_impl _ _ _).mono ?_
      rintro e w1 ⟨rfl, rfl⟩
      exact ⟨_, rfl, _, rfl, rfl, hg⟩
    rcases ix with _ | ix
    · obtain rfl := (Option.some.inj hi).symm
      have e0 : A.eval (.tmp 13) = .tuple #[.int .i64 (addB m.a m.b), .bool (addC m.a m.b)] := hI.val hd 11 13 rfl rfl (by kernel_rfl)
      refine at_op rfl rfl (val_op (v := .int .i64 (addB m.a m.b)) ?_ ⟨_, rfl, rfl, hg⟩)
      unfold execOp
      simp only [List.getElem_toArray, List.getElem_cons_zero, List.getElem_cons_succ, e0]
      simp [go_sem]
    rcases ix with _ | ix
    · obtain rfl := (Option.some.inj hi).symm
      have e0 : A.eval (.tmp 13) = .tuple #[.int .i64 (addB m.a m.b), .bool (addC m.a m.b)] := hI.val hd 11 13 rfl rfl (by kernel_rfl)
      refine at_op rfl rfl (val_op (v := .bool (addC m.a m.b)) ?_ ⟨_, rfl, rfl, hg⟩)
      unfold execOp
      simp only [List.getElem_toArray, List.getElem_cons_zero, List.getElem_cons_succ, e0]
      simp [go_sem]
    rcases ix with _ | ix
    · exact absurd rfl hne
    omega
  case last =>
    intro L o' A W hi hI hg hd
    obtain rfl := (Option.some.inj hi).symm
    have e0 : A.eval (.tmp 2) = .pointer (some ⟨g, 0, none⟩) := hI.val hd 0 2 rfl rfl (by kernel_rfl)
    have e1 : A.eval (.tmp 14) = .int .i64 (addB m.a m.b) := hI.val hd 12 14 rfl rfl (by kernel_rfl)
    have e2 : A.eval (.tmp 15) = .bool (addC m.a m.b) := hI.val hd 13 15 rfl rfl (by kernel_rfl)
    refine at_op rfl rfl (call_op rfl Tryz.func79 (by kernel_rfl) (by kernel_rfl) ?_)
    simp only [List.map_cons, List.map_nil, e0, e1, e2]
    refine (makeA_impl hg.1 _ _).mono ?_
    rintro e w1 ⟨rfl, x1, y1, h1, o1⟩
    exact ⟨_, rfl, _, rfl, rfl, .mk h1 (hg.2.trans o1)⟩
  case done =>
    intro A W hI hE
    exact ret_unit rfl hI.defers ⟨rfl, hE⟩
set_option maxRecDepth 100000 in
theorem sub_impl (h : DSt base w g x y m n (-1)) (hok : m.ok = true) (hn : bok n = true) :
    Calls Tryz.prog 81 #[.pointer (some ⟨g, 0, none⟩)] w fun e w' => e = .returned (.tuple #[]) ∧ Done base w w' g (m.does n 11).1 n (m.does n 11).2 := by
  go_enter Tryz.func81, Tryz.ntmps81
  go_wp2_with fail
  refine region_last (by kernel_rfl) (by kernel_rfl) 13 (by decide) (by kernel_rfl) (by kernel_rfl) (fun W => DSt base W g x y m n (-1) ∧ Onto g w W) (fun W => Done base w W g (m.does n 11).1 n (m.does n 11).2) [.pointer (some ⟨g, 0, none⟩), .pointer (some ⟨g, 0, none⟩), .pointer (some ⟨g, 0, none⟩), .pointer (some ⟨g, 0, none⟩), .pointer (some ⟨g, 2, none⟩), .int .i64 m.a, .pointer (some ⟨g, 0, none⟩), .pointer (some ⟨g, 0, none⟩), .pointer (some ⟨g, 25, none⟩), .int .i64 n, .tuple #[.int .i64 (subB m.a n), .bool (subC m.a n)], .int .i64 (subB m.a n), .bool (subC m.a n), .tuple #[]] ⟨h.drew, (Onto.refl g w).drew⟩ ?step ?last ?done
  case step =>
    intro L ix o' A W hne hi hI hg hd
    have hin : ix < 14 := by
      by_cases hl : ix < 14
      · exact hl
      · simp [hl] at hi
    rcases ix with _ | ix
    · obtain rfl := (Option.some.inj hi).symm
      have e0 : A.eval (.tmp 0) = .pointer (some ⟨g, 0, none⟩) := hI.old 0 (by kernel_rfl)
      exact at_op rfl rfl (move_op rfl ⟨_, rfl, e0, hg⟩)
    rcases ix with _ | ix
    · obtain rfl := (Option.some.inj hi).symm
      have e0 : A.eval (.tmp 0) = .pointer (some ⟨g, 0, none⟩) := hI.old 0 (by kernel_rfl)
      exact at_op rfl rfl (move_op rfl ⟨_, rfl, e0, hg⟩)
    rcases ix with _ | ix
    · obtain rfl := (Option.some.inj hi).symm
      have e0 : A.eval (.tmp 3) = .pointer (some ⟨g, 0, none⟩) := hI.val hd 1 3 rfl rfl (by kernel_rfl)
      exact at_op rfl rfl (nil_op rfl e0 ⟨_, rfl, rfl, hg⟩)
    rcases ix with _ | ix
    · obtain rfl := (Option.some.inj hi).symm
      have e0 : A.eval (.tmp 4) = .pointer (some ⟨g, 0, none⟩) := hI.val hd 2 4 rfl rfl (by kernel_rfl)
      refine at_op rfl rfl (val_op (v := .pointer (some ⟨g, 0, none⟩)) ?_ ⟨_, rfl, rfl, hg⟩)
      unfold execOp
      simp only [List.getElem_toArray, List.getElem_cons_zero, List.getElem_cons_succ, e0]
      simp [go_sem]
    rcases ix with _ | ix
    · obtain rfl := (Option.some.inj hi).symm
      have e0 : A.eval (.tmp 5) = .pointer (some ⟨g, 0, none⟩) := hI.val hd 3 5 rfl rfl (by kernel_rfl)
      refine at_op rfl rfl (val_op (v := .pointer (some ⟨g, 2, none⟩)) ?_ ⟨_, rfl, rfl, hg⟩)
      unfold execOp
      simp only [List.getElem_toArray, List.getElem_cons_zero, List.getElem_cons_succ, e0]
      simp [go_sem]
    rcases ix with _ | ix
    · obtain rfl := (Option.some.inj hi).symm
      have e0 : A.eval (.tmp 6) = .pointer (some ⟨g, 2, none⟩) := hI.val hd 4 6 rfl rfl (by kernel_rfl)
      exact at_op rfl rfl (load_op rfl Tryz.underlying2 e0 (dw hg.1.row).a ⟨_, rfl, rfl, hg⟩)
    rcases ix with _ | ix
    · obtain rfl := (Option.some.inj hi).symm
      have e0 : A.eval (.tmp 0) = .pointer (some ⟨g, 0, none⟩) := hI.old 0 (by kernel_rfl)
      exact at_op rfl rfl (move_op rfl ⟨_, rfl, e0, hg⟩)
    rcases ix with _ | ix
    · obtain rfl := (Option.some.inj hi).symm
      have e0 : A.eval (.tmp 8) = .pointer (some ⟨g, 0, none⟩) := hI.val hd 6 8 rfl rfl (by kernel_rfl)
      exact at_op rfl rfl (nil_op rfl e0 ⟨_, rfl, rfl, hg⟩)
    rcases ix with _ | ix
    · obtain rfl := (Option.some.inj hi).symm
      have e0 : A.eval (.tmp 9) = .pointer (some ⟨g, 0, none⟩) := hI.val hd 7 9 rfl rfl (by kernel_rfl)
      refine at_op rfl rfl (val_op (v := .pointer (some ⟨g, 25, none⟩)) ?_ ⟨_, rfl, rfl, hg⟩)
      unfold execOp
      simp only [List.getElem_toArray, List.getElem_cons_zero, List.getElem_cons_succ, e0]
      simp [go_sem]
    rcases ix with _ | ix
    · obtain rfl := (Option.some.inj hi).symm
      have e0 : A.eval (.tmp 10) = .pointer (some ⟨g, 25, none⟩) := hI.val hd 8 10 rfl rfl (by kernel_rfl)
      exact at_op rfl rfl (load_op rfl Tryz.underlying2 e0 (dw hg.1.row).n ⟨_, rfl, rfl, hg⟩)
    rcases ix with _ | ix
    · obtain rfl := (Option.some.inj hi).symm
      have e0 : A.eval (.tmp 7) = .int .i64 m.a := hI.val hd 5 7 rfl rfl (by kernel_rfl)
      have e1 : A.eval (.tmp 11) = .int .i64 n := hI.val hd 9 11 rfl rfl (by kernel_rfl)
      refine at_op rfl rfl (call_op rfl Tryz.func82 (by kernel_rfl) (by kernel_rfl) ?_)
      simp only [List.map_cons, List.map_nil, e0, e1]
      refine (subByte_impl _ _ _).mono ?_
      rintro e w1 ⟨rfl, rfl⟩
      exact ⟨_, rfl, _, rfl, rfl, hg⟩
    rcases ix with _ | ix
    · obtain rfl := (Option.some.inj hi).symm
      have e0 : A.eval (.tmp 12) = .tuple #[.int .i64 (subB m.a n), .bool (subC m.a n)] := hI.val hd 10 12 rfl rfl (by kernel_rfl)
      refine at_op rfl rfl (val_op (v := .int .i64 (subB m.a n)) ?_ ⟨_, rfl, rfl, hg⟩)
      unfold execOp
      simp only [List.getElem_toArray, List.getElem_cons_zero, List.getElem_cons_succ, e0]
      simp [go_sem]
    rcases ix with _ | ix
    · obtain rfl := (Option.some.inj hi).symm
      have e0 : A.eval (.tmp 12) = .tuple #[.int .i64 (subB m.a n), .bool (subC m.a n)] := hI.val hd 10 12 rfl rfl (by kernel_rfl)
      refine at_op rfl rfl (val_op (v := .bool (subC m.a n)) ?_ ⟨_, rfl, rfl, hg⟩)
      unfold execOp
      simp only [List.getElem_toArray, List.getElem_cons_zero, List.getElem_cons_succ, e0]
      simp [go_sem]
    rcases ix with _ | ix
    · exact absurd rfl hne
    omega
  case last =>
    intro L o' A W hi hI hg hd
    obtain rfl := (Option.some.inj hi).symm
    have e0 : A.eval (.tmp 2) = .pointer (some ⟨g, 0, none⟩) := hI.val hd 0 2 rfl rfl (by kernel_rfl)
    have e1 : A.eval (.tmp 13) = .int .i64 (subB m.a n) := hI.val hd 11 13 rfl rfl (by kernel_rfl)
    have e2 : A.eval (.tmp 14) = .bool (subC m.a n) := hI.val hd 12 14 rfl rfl (by kernel_rfl)
    refine at_op rfl rfl (call_op rfl Tryz.func79 (by kernel_rfl) (by kernel_rfl) ?_)
    simp only [List.map_cons, List.map_nil, e0, e1, e2]
    refine (makeA_impl hg.1 _ _).mono ?_
    rintro e w1 ⟨rfl, x1, y1, h1, o1⟩
    exact ⟨_, rfl, _, rfl, rfl, .mk h1 (hg.2.trans o1)⟩
  case done =>
    intro A W hI hE
    exact ret_unit rfl hI.defers ⟨rfl, hE⟩
set_option maxRecDepth 100000 in
theorem cmp_impl (h : DSt base w g x y m n (-1)) (hok : m.ok = true) (hn : bok n = true) :
    Calls Tryz.prog 83 #[.pointer (some ⟨g, 0, none⟩)] w fun e w' => e = .returned (.tuple #[]) ∧ Done base w w' g (m.does n 12).1 n (m.does n 12).2 := by
  go_enter Tryz.func83, Tryz.ntmps83
  go_wp2_with fail
  refine region_last (by kernel_rfl) (by kernel_rfl) 13 (by decide) (by kernel_rfl) (by kernel_rfl) (fun W => DSt base W g x y m n (-1) ∧ Onto g w W) (fun W => Done base w W g (m.does n 12).1 n (m.does n 12).2) [.pointer (some ⟨g, 0, none⟩), .pointer (some ⟨g, 0, none⟩), .pointer (some ⟨g, 0, none⟩), .pointer (some ⟨g, 0, none⟩), .pointer (some ⟨g, 2, none⟩), .int .i64 m.a, .pointer (some ⟨g, 0, none⟩), .pointer (some ⟨g, 0, none⟩), .pointer (some ⟨g, 25, none⟩), .int .i64 n, .tuple #[.int .i64 (subB m.a n), .bool (subC m.a n)], .int .i64 (subB m.a n), .bool (subC m.a n), .tuple #[]] ⟨h.drew, (Onto.refl g w).drew⟩ ?step ?last ?done
  case step =>
    intro L ix o' A W hne hi hI hg hd
    have hin : ix < 14 := by
      by_cases hl : ix < 14
      · exact hl
      · simp [hl] at hi
    rcases ix with _ | ix
    · obtain rfl := (Option.some.inj hi).symm
      have e0 : A.eval (.tmp 0) = .pointer (some ⟨g, 0, none⟩) := hI.old 0 (by kernel_rfl)
      exact at_op rfl rfl (move_op rfl ⟨_, rfl, e0, hg⟩)
    rcases ix with _ | ix
    · obtain rfl := (Option.some.inj hi).symm
      have e0 : A.eval (.tmp 0) = .pointer (some ⟨g, 0, none⟩) := hI.old 0 (by kernel_rfl)
      exact at_op rfl rfl (move_op rfl ⟨_, rfl, e0, hg⟩)
    rcases ix with _ | ix
    · obtain rfl := (Option.some.inj hi).symm
      have e0 : A.eval (.tmp 3) = .pointer (some ⟨g, 0, none⟩) := hI.val hd 1 3 rfl rfl (by kernel_rfl)
      exact at_op rfl rfl (nil_op rfl e0 ⟨_, rfl, rfl, hg⟩)
    rcases ix with _ | ix
    · obtain rfl := (Option.some.inj hi).symm
      have e0 : A.eval (.tmp 4) = .pointer (some ⟨g, 0, none⟩) := hI.val hd 2 4 rfl rfl (by kernel_rfl)
      refine at_op rfl rfl (val_op (v := .pointer (some ⟨g, 0, none⟩)) ?_ ⟨_, rfl, rfl, hg⟩)
      unfold execOp
      simp only [List.getElem_toArray, List.getElem_cons_zero, List.getElem_cons_succ, e0]
      simp [go_sem]
    rcases ix with _ | ix
    · obtain rfl := (Option.some.inj hi).symm
      have e0 : A.eval (.tmp 5) = .pointer (some ⟨g, 0, none⟩) := hI.val hd 3 5 rfl rfl (by kernel_rfl)
      refine at_op rfl rfl (val_op (v := .pointer (some ⟨g, 2, none⟩)) ?_ ⟨_, rfl, rfl, hg⟩)
      unfold execOp
      simp only [List.getElem_toArray, List.getElem_cons_zero, List.getElem_cons_succ, e0]
      simp [go_sem]
    rcases ix with _ | ix
    · obtain rfl := (Option.some.inj hi).symm
      have e0 : A.eval (.tmp 6) = .pointer (some ⟨g, 2, none⟩) := hI.val hd 4 6 rfl rfl (by kernel_rfl)
      exact at_op rfl rfl (load_op rfl Tryz.underlying2 e0 (dw hg.1.row).a ⟨_, rfl, rfl, hg⟩)
    rcases ix with _ | ix
    · obtain rfl := (Option.some.inj hi).symm
      have e0 : A.eval (.tmp 0) = .pointer (some ⟨g, 0, none⟩) := hI.old 0 (by kernel_rfl)
      exact at_op rfl rfl (move_op rfl ⟨_, rfl, e0, hg⟩)
    rcases ix with _ | ix
    · obtain rfl := (Option.some.inj hi).symm
      have e0 : A.eval (.tmp 8) = .pointer (some ⟨g, 0, none⟩) := hI.val hd 6 8 rfl rfl (by kernel_rfl)
      exact at_op rfl rfl (nil_op rfl e0 ⟨_, rfl, rfl, hg⟩)
    rcases ix with _ | ix
    · obtain rfl := (Option.some.inj hi).symm
      have e0 : A.eval (.tmp 9) = .pointer (some ⟨g, 0, none⟩) := hI.val hd 7 9 rfl rfl (by kernel_rfl)
      refine at_op rfl rfl (val_op (v := .pointer (some ⟨g, 25, none⟩)) ?_ ⟨_, rfl, rfl, hg⟩)
      unfold execOp
      simp only [List.getElem_toArray, List.getElem_cons_zero, List.getElem_cons_succ, e0]
      simp [go_sem]
    rcases ix with _ | ix
    · obtain rfl := (Option.some.inj hi).symm
      have e0 : A.eval (.tmp 10) = .pointer (some ⟨g, 25, none⟩) := hI.val hd 8 10 rfl rfl (by kernel_rfl)
      exact at_op rfl rfl (load_op rfl Tryz.underlying2 e0 (dw hg.1.row).n ⟨_, rfl, rfl, hg⟩)
    rcases ix with _ | ix
    · obtain rfl := (Option.some.inj hi).symm
      have e0 : A.eval (.tmp 7) = .int .i64 m.a := hI.val hd 5 7 rfl rfl (by kernel_rfl)
      have e1 : A.eval (.tmp 11) = .int .i64 n := hI.val hd 9 11 rfl rfl (by kernel_rfl)
      refine at_op rfl rfl (call_op rfl Tryz.func82 (by kernel_rfl) (by kernel_rfl) ?_)
      simp only [List.map_cons, List.map_nil, e0, e1]
      refine (subByte_impl _ _ _).mono ?_
      rintro e w1 ⟨rfl, rfl⟩
      exact ⟨_, rfl, _, rfl, rfl, hg⟩
    rcases ix with _ | ix
    · obtain rfl := (Option.some.inj hi).symm
      have e0 : A.eval (.tmp 12) = .tuple #[.int .i64 (subB m.a n), .bool (subC m.a n)] := hI.val hd 10 12 rfl rfl (by kernel_rfl)
      refine at_op rfl rfl (val_op (v := .int .i64 (subB m.a n)) ?_ ⟨_, rfl, rfl, hg⟩)
      unfold execOp
      simp only [List.getElem_toArray, List.getElem_cons_zero, List.getElem_cons_succ, e0]
      simp [go_sem]
    rcases ix with _ | ix
    · obtain rfl := (Option.some.inj hi).symm
      have e0 : A.eval (.tmp 12) = .tuple #[.int .i64 (subB m.a n), .bool (subC m.a n)] := hI.val hd 10 12 rfl rfl (by kernel_rfl)
      refine at_op rfl rfl (val_op (v := .bool (subC m.a n)) ?_ ⟨_, rfl, rfl, hg⟩)
      unfold execOp
      simp only [List.getElem_toArray, List.getElem_cons_zero, List.getElem_cons_succ, e0]
      simp [go_sem]
    rcases ix with _ | ix
    · exact absurd rfl hne
    omega
  case last =>
    intro L o' A W hi hI hg hd
    obtain rfl := (Option.some.inj hi).symm
    have e0 : A.eval (.tmp 2) = .pointer (some ⟨g, 0, none⟩) := hI.val hd 0 2 rfl rfl (by kernel_rfl)
    have e1 : A.eval (.tmp 13) = .int .i64 (subB m.a n) := hI.val hd 11 13 rfl rfl (by kernel_rfl)
    have e2 : A.eval (.tmp 14) = .bool (subC m.a n) := hI.val hd 12 14 rfl rfl (by kernel_rfl)
    refine at_op rfl rfl (call_op rfl Tryz.func84 (by kernel_rfl) (by kernel_rfl) ?_)
    simp only [List.map_cons, List.map_nil, e0, e1, e2]
    refine (mark_impl hg.1 _ _).mono ?_
    rintro e w1 ⟨rfl, x1, y1, h1, o1⟩
    exact ⟨_, rfl, _, rfl, rfl, .mk h1 (hg.2.trans o1)⟩
  case done =>
    intro A W hI hE
    exact ret_unit rfl hI.defers ⟨rfl, hE⟩
set_option maxRecDepth 100000 in
theorem and_impl (h : DSt base w g x y m n (-1)) (hok : m.ok = true) (hn : bok n = true) :
    Calls Tryz.prog 85 #[.pointer (some ⟨g, 0, none⟩)] w fun e w' => e = .returned (.tuple #[]) ∧ Done base w w' g (m.does n 13).1 n (m.does n 13).2 := by
  go_enter Tryz.func85, Tryz.ntmps85
  go_wp2_with fail
  refine region_last (by kernel_rfl) (by kernel_rfl) 11 (by decide) (by kernel_rfl) (by kernel_rfl) (fun W => DSt base W g x y m n (-1) ∧ Onto g w W) (fun W => Done base w W g (m.does n 13).1 n (m.does n 13).2) [.pointer (some ⟨g, 0, none⟩), .pointer (some ⟨g, 0, none⟩), .pointer (some ⟨g, 0, none⟩), .pointer (some ⟨g, 0, none⟩), .pointer (some ⟨g, 2, none⟩), .int .i64 m.a, .pointer (some ⟨g, 0, none⟩), .pointer (some ⟨g, 0, none⟩), .pointer (some ⟨g, 25, none⟩), .int .i64 n, .int .i64 (bits .and .i64 m.a n), .tuple #[]] ⟨h.drew, (Onto.refl g w).drew⟩ ?step ?last ?done
  case step =>
    intro L ix o' A W hne hi hI hg hd
    have hin : ix < 12 := by
      by_cases hl : ix < 12
      · exact hl
      · simp [hl] at hi
    rcases ix with _ | ix
    · obtain rfl := (Option.some.inj hi).symm
      have e0 : A.eval (.tmp 0) = .pointer (some ⟨g, 0, none⟩) := hI.old 0 (by kernel_rfl)
      exact at_op rfl rfl (move_op rfl ⟨_, rfl, e0, hg⟩)
    rcases ix with _ | ix
    · obtain rfl := (Option.some.inj hi).symm
      have e0 : A.eval (.tmp 0) = .pointer (some ⟨g, 0, none⟩) := hI.old 0 (by kernel_rfl)
      exact at_op rfl rfl (move_op rfl ⟨_, rfl, e0, hg⟩)
    rcases ix with _ | ix
    · obtain rfl := (Option.some.inj hi).symm
      have e0 : A.eval (.tmp 3) = .pointer (some ⟨g, 0, none⟩) := hI.val hd 1 3 rfl rfl (by kernel_rfl)
      exact at_op rfl rfl (nil_op rfl e0 ⟨_, rfl, rfl, hg⟩)
    rcases ix with _ | ix
    · obtain rfl := (Option.some.inj hi).symm
      have e0 : A.eval (.tmp 4) = .pointer (some ⟨g, 0, none⟩) := hI.val hd 2 4 rfl rfl (by kernel_rfl)
      refine at_op rfl rfl (val_op (v := .pointer (some ⟨g, 0, none⟩)) ?_ ⟨_, rfl, rfl, hg⟩)
      unfold execOp
      simp only [List.getElem_toArray, List.getElem_cons_zero, List.getElem_cons_succ, e0]
      simp [go_sem]
    rcases ix with _ | ix
    · obtain rfl := (Option.some.inj hi).symm
      have e0 : A.eval (.tmp 5) = .pointer (some ⟨g, 0, none⟩) := hI.val hd 3 5 rfl rfl (by kernel_rfl)
      refine at_op rfl rfl (val_op (v := .pointer (some ⟨g, 2, none⟩)) ?_ ⟨_, rfl, rfl, hg⟩)
      unfold execOp
      simp only [List.getElem_toArray, List.getElem_cons_zero, List.getElem_cons_succ, e0]
      simp [go_sem]
    rcases ix with _ | ix
    · obtain rfl := (Option.some.inj hi).symm
      have e0 : A.eval (.tmp 6) = .pointer (some ⟨g, 2, none⟩) := hI.val hd 4 6 rfl rfl (by kernel_rfl)
      exact at_op rfl rfl (load_op rfl Tryz.underlying2 e0 (dw hg.1.row).a ⟨_, rfl, rfl, hg⟩)
    rcases ix with _ | ix
    · obtain rfl := (Option.some.inj hi).symm
      have e0 : A.eval (.tmp 0) = .pointer (some ⟨g, 0, none⟩) := hI.old 0 (by kernel_rfl)
      exact at_op rfl rfl (move_op rfl ⟨_, rfl, e0, hg⟩)
    rcases ix with _ | ix
    · obtain rfl := (Option.some.inj hi).symm
      have e0 : A.eval (.tmp 8) = .pointer (some ⟨g, 0, none⟩) := hI.val hd 6 8 rfl rfl (by kernel_rfl)
      exact at_op rfl rfl (nil_op rfl e0 ⟨_, rfl, rfl, hg⟩)
    rcases ix with _ | ix
    · obtain rfl := (Option.some.inj hi).symm
      have e0 : A.eval (.tmp 9) = .pointer (some ⟨g, 0, none⟩) := hI.val hd 7 9 rfl rfl (by kernel_rfl)
      refine at_op rfl rfl (val_op (v := .pointer (some ⟨g, 25, none⟩)) ?_ ⟨_, rfl, rfl, hg⟩)
      unfold execOp
      simp only [List.getElem_toArray, List.getElem_cons_zero, List.getElem_cons_succ, e0]
      simp [go_sem]
    rcases ix with _ | ix
    · obtain rfl := (Option.some.inj hi).symm
      have e0 : A.eval (.tmp 10) = .pointer (some ⟨g, 25, none⟩) := hI.val hd 8 10 rfl rfl (by kernel_rfl)
      exact at_op rfl rfl (load_op rfl Tryz.underlying2 e0 (dw hg.1.row).n ⟨_, rfl, rfl, hg⟩)
    rcases ix with _ | ix
    · obtain rfl := (Option.some.inj hi).symm
      have e0 : A.eval (.tmp 7) = .int .i64 m.a := hI.val hd 5 7 rfl rfl (by kernel_rfl)
      have e1 : A.eval (.tmp 11) = .int .i64 n := hI.val hd 9 11 rfl rfl (by kernel_rfl)
      exact at_op rfl rfl (bin_op rfl e0 e1 (fun w => by simp [go_sem]) ⟨_, rfl, rfl, hg⟩)
    rcases ix with _ | ix
    · exact absurd rfl hne
    omega
  case last =>
    intro L o' A W hi hI hg hd
    obtain rfl := (Option.some.inj hi).symm
    have e0 : A.eval (.tmp 2) = .pointer (some ⟨g, 0, none⟩) := hI.val hd 0 2 rfl rfl (by kernel_rfl)
    have e1 : A.eval (.tmp 12) = .int .i64 (bits .and .i64 m.a n) := hI.val hd 10 12 rfl rfl (by kernel_rfl)
    refine at_op rfl rfl (call_op rfl Tryz.func79 (by kernel_rfl) (by kernel_rfl) ?_)
    simp only [List.map_cons, List.map_nil, e0, e1]
    refine (makeA_impl hg.1 _ _).mono ?_
    rintro e w1 ⟨rfl, x1, y1, h1, o1⟩
    exact ⟨_, rfl, _, rfl, rfl, .mk h1 (hg.2.trans o1)⟩
  case done =>
    intro A W hI hE
    exact ret_unit rfl hI.defers ⟨rfl, hE⟩
set_option maxRecDepth 100000 in
theorem xor_impl (h : DSt base w g x y m n (-1)) (hok : m.ok = true) (hn : bok n = true) :
    Calls Tryz.prog 86 #[.pointer (some ⟨g, 0, none⟩)] w fun e w' => e = .returned (.tuple #[]) ∧ Done base w w' g (m.does n 14).1 n (m.does n 14).2 := by
  go_enter Tryz.func86, Tryz.ntmps86
  go_wp2_with fail
  refine region_last (by kernel_rfl) (by kernel_rfl) 11 (by decide) (by kernel_rfl) (by kernel_rfl) (fun W => DSt base W g x y m n (-1) ∧ Onto g w W) (fun W => Done base w W g (m.does n 14).1 n (m.does n 14).2) [.pointer (some ⟨g, 0, none⟩), .pointer (some ⟨g, 0, none⟩), .pointer (some ⟨g, 0, none⟩), .pointer (some ⟨g, 0, none⟩), .pointer (some ⟨g, 2, none⟩), .int .i64 m.a, .pointer (some ⟨g, 0, none⟩), .pointer (some ⟨g, 0, none⟩), .pointer (some ⟨g, 25, none⟩), .int .i64 n, .int .i64 (bits .xor .i64 m.a n), .tuple #[]] ⟨h.drew, (Onto.refl g w).drew⟩ ?step ?last ?done
  case step =>
    intro L ix o' A W hne hi hI hg hd
    have hin : ix < 12 := by
      by_cases hl : ix < 12
      · exact hl
      · simp [hl] at hi
    rcases ix with _ | ix
    · obtain rfl := (Option.some.inj hi).symm
      have e0 : A.eval (.tmp 0) = .pointer (some ⟨g, 0, none⟩) := hI.old 0 (by kernel_rfl)
      exact at_op rfl rfl (move_op rfl ⟨_, rfl, e0, hg⟩)
    rcases ix with _ | ix
    · obtain rfl := (Option.some.inj hi).symm
      have e0 : A.eval (.tmp 0) = .pointer (some ⟨g, 0, none⟩) := hI.old 0 (by kernel_rfl)
      exact at_op rfl rfl (move_op rfl ⟨_, rfl, e0, hg⟩)
    rcases ix with _ | ix
    · obtain rfl := (Option.some.inj hi).symm
      have e0 : A.eval (.tmp 3) = .pointer (some ⟨g, 0, none⟩) := hI.val hd 1 3 rfl rfl (by kernel_rfl)
      exact at_op rfl rfl (nil_op rfl e0 ⟨_, rfl, rfl, hg⟩)
    rcases ix with _ | ix
    · obtain rfl := (Option.some.inj hi).symm
      have e0 : A.eval (.tmp 4) = .pointer (some ⟨g, 0, none⟩) := hI.val hd 2 4 rfl rfl (by kernel_rfl)
      refine at_op rfl rfl (val_op (v := .pointer (some ⟨g, 0, none⟩)) ?_ ⟨_, rfl, rfl, hg⟩)
      unfold execOp
      simp only [List.getElem_toArray, List.getElem_cons_zero, List.getElem_cons_succ, e0]
      simp [go_sem]
    rcases ix with _ | ix
    · obtain rfl := (Option.some.inj hi).symm
      have e0 : A.eval (.tmp 5) = .pointer (some ⟨g, 0, none⟩) := hI.val hd 3 5 rfl rfl (by kernel_rfl)
      refine at_op rfl rfl (val_op (v := .pointer (some ⟨g, 2, none⟩)) ?_ ⟨_, rfl, rfl, hg⟩)
      unfold execOp
      simp only [List.getElem_toArray, List.getElem_cons_zero, List.getElem_cons_succ, e0]
      simp [go_sem]
    rcases ix with _ | ix
    · obtain rfl := (Option.some.inj hi).symm
      have e0 : A.eval (.tmp 6) = .pointer (some ⟨g, 2, none⟩) := hI.val hd 4 6 rfl rfl (by kernel_rfl)
      exact at_op rfl rfl (load_op rfl Tryz.underlying2 e0 (dw hg.1.row).a ⟨_, rfl, rfl, hg⟩)
    rcases ix with _ | ix
    · obtain rfl := (Option.some.inj hi).symm
      have e0 : A.eval (.tmp 0) = .pointer (some ⟨g, 0, none⟩) := hI.old 0 (by kernel_rfl)
      exact at_op rfl rfl (move_op rfl ⟨_, rfl, e0, hg⟩)
    rcases ix with _ | ix
    · obtain rfl := (Option.some.inj hi).symm
      have e0 : A.eval (.tmp 8) = .pointer (some ⟨g, 0, none⟩) := hI.val hd 6 8 rfl rfl (by kernel_rfl)
      exact at_op rfl rfl (nil_op rfl e0 ⟨_, rfl, rfl, hg⟩)
    rcases ix with _ | ix
    · obtain rfl := (Option.some.inj hi).symm
      have e0 : A.eval (.tmp 9) = .pointer (some ⟨g, 0, none⟩) := hI.val hd 7 9 rfl rfl (by kernel_rfl)
      refine at_op rfl rfl (val_op (v := .pointer (some ⟨g, 25, none⟩)) ?_ ⟨_, rfl, rfl, hg⟩)
      unfold execOp
      simp only [List.getElem_toArray, List.getElem_cons_zero, List.getElem_cons_succ, e0]
      simp [go_sem]
    rcases ix with _ | ix
    · obtain rfl := (Option.some.inj hi).symm
      have e0 : A.eval (.tmp 10) = .pointer (some ⟨g, 25, none⟩) := hI.val hd 8 10 rfl rfl (by kernel_rfl)
      exact at_op rfl rfl (load_op rfl Tryz.underlying2 e0 (dw hg.1.row).n ⟨_, rfl, rfl, hg⟩)
    rcases ix with _ | ix
    · obtain rfl := (Option.some.inj hi).symm
      have e0 : A.eval (.tmp 7) = .int .i64 m.a := hI.val hd 5 7 rfl rfl (by kernel_rfl)
      have e1 : A.eval (.tmp 11) = .int .i64 n := hI.val hd 9 11 rfl rfl (by kernel_rfl)
      exact at_op rfl rfl (bin_op rfl e0 e1 (fun w => by simp [go_sem]) ⟨_, rfl, rfl, hg⟩)
    rcases ix with _ | ix
    · exact absurd rfl hne
    omega
  case last =>
    intro L o' A W hi hI hg hd
    obtain rfl := (Option.some.inj hi).symm
    have e0 : A.eval (.tmp 2) = .pointer (some ⟨g, 0, none⟩) := hI.val hd 0 2 rfl rfl (by kernel_rfl)
    have e1 : A.eval (.tmp 12) = .int .i64 (bits .xor .i64 m.a n) := hI.val hd 10 12 rfl rfl (by kernel_rfl)
    refine at_op rfl rfl (call_op rfl Tryz.func79 (by kernel_rfl) (by kernel_rfl) ?_)
    simp only [List.map_cons, List.map_nil, e0, e1]
    refine (makeA_impl hg.1 _ _).mono ?_
    rintro e w1 ⟨rfl, x1, y1, h1, o1⟩
    exact ⟨_, rfl, _, rfl, rfl, .mk h1 (hg.2.trans o1)⟩
  case done =>
    intro A W hI hE
    exact ret_unit rfl hI.defers ⟨rfl, hE⟩
theorem rol_impl (h : DSt base w g x y m n (-1)) (hok : m.ok = true) (hn : bok n = true) :
    Calls Tryz.prog 87 #[.pointer (some ⟨g, 0, none⟩)] w fun e w' => e = .returned (.tuple #[]) ∧ Done base w w' g (m.does n 15).1 n (m.does n 15).2 := by
  have hc := (dw h.row).a
  go_enter Tryz.func87, Tryz.ntmps87
  go_wp2_with (first
    | (go_at_call 88; refine (turnedLeft_impl _ _).mono ?_; rintro e w0 ⟨rfl, rfl⟩)
    | (go_at_call 79; refine (makeA_impl h _ _).mono ?_; rintro e w1 ⟨rfl, x1, y1, h1, o1⟩))
  refine ret_unit rfl rfl ?_
  exact ⟨rfl, .mk h1 o1⟩
theorem ror_impl (h : DSt base w g x y m n (-1)) (hok : m.ok = true) (hn : bok n = true) :
    Calls Tryz.prog 89 #[.pointer (some ⟨g, 0, none⟩)] w fun e w' => e = .returned (.tuple #[]) ∧ Done base w w' g (m.does n 16).1 n (m.does n 16).2 := by
  have hc := (dw h.row).a
  go_enter Tryz.func89, Tryz.ntmps89
  go_wp2_with (first
    | (go_at_call 90; refine (turnedRight_impl _ _).mono ?_; rintro e w0 ⟨rfl, rfl⟩)
    | (go_at_call 79; refine (makeA_impl h _ _).mono ?_; rintro e w1 ⟨rfl, x1, y1, h1, o1⟩))
  refine ret_unit rfl rfl ?_
  exact ⟨rfl, .mk h1 o1⟩
theorem inb_impl (h : DSt base w g x y m n (-1)) (hok : m.ok = true) (hn : bok n = true) :
    Calls Tryz.prog 91 #[.pointer (some ⟨g, 0, none⟩)] w fun e w' => e = .returned (.tuple #[]) ∧ Done base w w' g (m.does n 17).1 n (m.does n 17).2 := by
  have hc := (dw h.row).b
  go_enter Tryz.func91, Tryz.ntmps91
  go_wp2_with (first
    | (go_at_call 67; refine (addByte_impl _ _ _).mono ?_; rintro e w0 ⟨rfl, rfl⟩)
    | (go_at_call 92; refine (countB_impl h _ _).mono ?_; rintro e w1 ⟨rfl, x1, y1, h1, o1⟩))
  refine ret_unit rfl rfl ?_
  exact ⟨rfl, .mk h1 o1⟩
theorem deb_impl (h : DSt base w g x y m n (-1)) (hok : m.ok = true) (hn : bok n = true) :
    Calls Tryz.prog 93 #[.pointer (some ⟨g, 0, none⟩)] w fun e w' => e = .returned (.tuple #[]) ∧ Done base w w' g (m.does n 18).1 n (m.does n 18).2 := by
  have hc := (dw h.row).b
  go_enter Tryz.func93, Tryz.ntmps93
  go_wp2_with (first
    | (go_at_call 82; refine (subByte_impl _ _ _).mono ?_; rintro e w0 ⟨rfl, rfl⟩)
    | (go_at_call 92; refine (countB_impl h _ _).mono ?_; rintro e w1 ⟨rfl, x1, y1, h1, o1⟩))
  refine ret_unit rfl rfl ?_
  exact ⟨rfl, .mk h1 o1⟩
theorem jmp_impl (h : DSt base w g x y m n (-1)) (hok : m.ok = true) (hn : bok n = true) :
    Calls Tryz.prog 94 #[.pointer (some ⟨g, 0, none⟩)] w fun e w' => e = .returned (.tuple #[]) ∧ Done base w w' g (m.does n 19).1 n (m.does n 19).2 := by
  go_enter Tryz.func94, Tryz.ntmps94
  go_wp2_with (first
    | (go_at_call 95; refine (jumpWhere_impl h _).mono ?_; rintro e w1 ⟨rfl, x1, y1, h1, o1⟩))
  refine ret_unit rfl rfl ?_
  exact ⟨rfl, .mk h1 o1⟩
theorem jpz_impl (h : DSt base w g x y m n (-1)) (hok : m.ok = true) (hn : bok n = true) :
    Calls Tryz.prog 96 #[.pointer (some ⟨g, 0, none⟩)] w fun e w' => e = .returned (.tuple #[]) ∧ Done base w w' g (m.does n 20).1 n (m.does n 20).2 := by
  have hc := (dw h.row).z
  go_enter Tryz.func96, Tryz.ntmps96
  go_wp2_with (first
    | (go_at_call 95; refine (jumpWhere_impl h _).mono ?_; rintro e w1 ⟨rfl, x1, y1, h1, o1⟩))
  refine ret_unit rfl rfl ?_
  exact ⟨rfl, .mk h1 o1⟩
theorem jnz_impl (h : DSt base w g x y m n (-1)) (hok : m.ok = true) (hn : bok n = true) :
    Calls Tryz.prog 97 #[.pointer (some ⟨g, 0, none⟩)] w fun e w' => e = .returned (.tuple #[]) ∧ Done base w w' g (m.does n 21).1 n (m.does n 21).2 := by
  have hc := (dw h.row).z
  go_enter Tryz.func97, Tryz.ntmps97
  go_wp2_with (first
    | (go_at_call 95; refine (jumpWhere_impl h _).mono ?_; rintro e w1 ⟨rfl, x1, y1, h1, o1⟩))
  refine ret_unit rfl rfl ?_
  exact ⟨rfl, .mk h1 o1⟩
theorem jpc_impl (h : DSt base w g x y m n (-1)) (hok : m.ok = true) (hn : bok n = true) :
    Calls Tryz.prog 98 #[.pointer (some ⟨g, 0, none⟩)] w fun e w' => e = .returned (.tuple #[]) ∧ Done base w w' g (m.does n 22).1 n (m.does n 22).2 := by
  have hc := (dw h.row).c
  go_enter Tryz.func98, Tryz.ntmps98
  go_wp2_with (first
    | (go_at_call 95; refine (jumpWhere_impl h _).mono ?_; rintro e w1 ⟨rfl, x1, y1, h1, o1⟩))
  refine ret_unit rfl rfl ?_
  exact ⟨rfl, .mk h1 o1⟩
theorem cal_impl (h : DSt base w g x y m n (-1)) (hok : m.ok = true) (hn : bok n = true) :
    Calls Tryz.prog 99 #[.pointer (some ⟨g, 0, none⟩)] w fun e w' => e = .returned (.tuple #[]) ∧ Done base w w' g (m.does n 23).1 n (m.does n 23).2 := by
  have hc := (dw h.row).pc
  go_enter Tryz.func99, Tryz.ntmps99
  go_wp2_with (first
    | (go_at_call 100; refine (push_impl h hok _ (okm.1 hok).pc).mono ?_; rintro e w1 ⟨rfl, x1, y1, h1, o1⟩; have hc1 := (dw h1.row).n)
    | (refine st_dn (m' := (m.does n 23).1) (n' := n) (o' := (m.does n 23).2) rfl rfl rfl rfl h1.row rfl rfl ?_; intro w2 r2 o2 s2))
  refine ret_unit rfl rfl ?_
  exact ⟨rfl, .mk (h1.set r2 o2 rfl rfl) (o1.trans o2)⟩
theorem ret_impl (h : DSt base w g x y m n (-1)) (hok : m.ok = true) (hn : bok n = true) :
    Calls Tryz.prog 101 #[.pointer (some ⟨g, 0, none⟩)] w fun e w' => e = .returned (.tuple #[]) ∧ Done base w w' g (m.does n 24).1 n (m.does n 24).2 := by
  go_enter Tryz.func101, Tryz.ntmps101
  go_wp2_with (first
    | (go_at_call 102; refine (popped_impl h hok).mono ?_; rintro e w1 ⟨rfl, x1, y1, h1, o1⟩)
    | (refine st_dn (m' := (m.does n 24).1) (n' := n) (o' := -1) rfl rfl rfl rfl h1.row rfl rfl ?_; intro w2 r2 o2 s2; have h2 := h1.set r2 o2 rfl rfl))
  refine ret_unit rfl rfl ?_
  exact ⟨rfl, .mk h2 (o1.trans o2)⟩
theorem psh_impl (h : DSt base w g x y m n (-1)) (hok : m.ok = true) (hn : bok n = true) :
    Calls Tryz.prog 103 #[.pointer (some ⟨g, 0, none⟩)] w fun e w' => e = .returned (.tuple #[]) ∧ Done base w w' g (m.does n 25).1 n (m.does n 25).2 := by
  have hc := (dw h.row).a
  go_enter Tryz.func103, Tryz.ntmps103
  go_wp2_with (first
    | (go_at_call 100; refine (push_impl h hok _ (okm.1 hok).a).mono ?_; rintro e w1 ⟨rfl, x1, y1, h1, o1⟩; have hc1 := (dw h1.row).n))
  refine ret_unit rfl rfl ?_
  exact ⟨rfl, .mk h1 o1⟩
theorem pop_impl (h : DSt base w g x y m n (-1)) (hok : m.ok = true) (hn : bok n = true) :
    Calls Tryz.prog 104 #[.pointer (some ⟨g, 0, none⟩)] w fun e w' => e = .returned (.tuple #[]) ∧ Done base w w' g (m.does n 26).1 n (m.does n 26).2 := by
  go_enter Tryz.func104, Tryz.ntmps104
  go_wp2_with (first
    | (go_at_call 102; refine (popped_impl h hok).mono ?_; rintro e w1 ⟨rfl, x1, y1, h1, o1⟩)
    | (refine st_dn (m' := (m.does n 26).1) (n' := n) (o' := -1) rfl rfl rfl rfl h1.row rfl rfl ?_; intro w2 r2 o2 s2; have h2 := h1.set r2 o2 rfl rfl))
  refine ret_unit rfl rfl ?_
  exact ⟨rfl, .mk h2 (o1.trans o2)⟩
theorem eni_impl (h : DSt base w g x y m n (-1)) (hok : m.ok = true) (hn : bok n = true) :
    Calls Tryz.prog 105 #[.pointer (some ⟨g, 0, none⟩)] w fun e w' => e = .returned (.tuple #[]) ∧ Done base w w' g (m.does n 27).1 n (m.does n 27).2 := by
  go_enter Tryz.func105, Tryz.ntmps105
  go_wp2_with (refine st_db (m' := (m.does n 27).1) rfl rfl rfl rfl h.row rfl rfl ?_; intro w1 r1 o1 s1)
  refine ret_unit rfl rfl ?_
  exact ⟨rfl, .mk (h.set r1 o1 rfl rfl) o1⟩
theorem dis_impl (h : DSt base w g x y m n (-1)) (hok : m.ok = true) (hn : bok n = true) :
    Calls Tryz.prog 106 #[.pointer (some ⟨g, 0, none⟩)] w fun e w' => e = .returned (.tuple #[]) ∧ Done base w w' g (m.does n 28).1 n (m.does n 28).2 := by
  go_enter Tryz.func106, Tryz.ntmps106
  go_wp2_with (refine st_db (m' := (m.does n 28).1) rfl rfl rfl rfl h.row rfl rfl ?_; intro w1 r1 o1 s1)
  refine ret_unit rfl rfl ?_
  exact ⟨rfl, .mk (h.set r1 o1 rfl rfl) o1⟩
theorem rti_impl (h : DSt base w g x y m n (-1)) (hok : m.ok = true) (hn : bok n = true) :
    Calls Tryz.prog 107 #[.pointer (some ⟨g, 0, none⟩)] w fun e w' => e = .returned (.tuple #[]) ∧ Done base w w' g (m.does n 29).1 n (m.does n 29).2 := by
  go_enter Tryz.func107, Tryz.ntmps107
  go_wp2_with (first
    | (go_at_call 102; refine (popped_impl h hok).mono ?_; rintro e w1 ⟨rfl, x1, y1, h1, o1⟩)
    | (refine st_dn (m' := { m.popd with pc := m.top }) (n' := n) (o' := -1) rfl rfl rfl rfl h1.row rfl rfl ?_; intro w2 r2 o2 s2; have h2 := h1.set r2 o2 rfl rfl)
    | (refine st_db (m' := (m.does n 29).1) rfl rfl rfl rfl h2.row rfl rfl ?_; intro w3 r3 o3 s3))
  refine ret_unit rfl rfl ?_
  exact ⟨rfl, .mk (h2.set r3 o3 rfl rfl) ((o1.trans o2).trans o3)⟩
theorem hlt_impl (h : DSt base w g x y m n (-1)) (hok : m.ok = true) (hn : bok n = true) :
    Calls Tryz.prog 108 #[.pointer (some ⟨g, 0, none⟩)] w fun e w' => e = .returned (.tuple #[]) ∧ Done base w w' g (m.does n 30).1 n (m.does n 30).2 := by
  go_enter Tryz.func108, Tryz.ntmps108
  go_wp2_with (refine st_db (m' := (m.does n 30).1) rfl rfl rfl rfl h.row rfl rfl ?_; intro w1 r1 o1 s1)
  refine ret_unit rfl rfl ?_
  exact ⟨rfl, .mk (h.set r1 o1 rfl rfl) o1⟩
end
end Go.Proofs.YtocofjimkfffeaaGreatDoor.Mem
