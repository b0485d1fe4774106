/-
  What FnExactRunTo leans on: part 5.
-/
import Derived.WalkMore
import Derived.Test.YtghmkacamabndaaGreatDoorRows
import Derived.WalkKit
import Derived.WalkLawsBesides
import Derived.Deep.QuietTactic
import Derived.BigQuiet
import Derived.RegionTactic
import Derived.Deep.RegionHeld3
import Derived.Test.YtghmkacamabndaaGreatDoorRunP1
import Derived.Test.YtghmkacamabndaaGreatDoorRunP2
import Derived.Test.YtghmkacamabndaaGreatDoorRunP3
import Derived.Test.YtghmkacamabndaaGreatDoorRunP4
set_option linter.unusedVariables false
set_option linter.unusedSimpArgs false
set_option maxRecDepth 20000
namespace Go.Proofs.YtghmkacamabndaaGreatDoor.Mem
open Go.ChangeShapes Go.WideShapes Go.RowKit Base Num Slc Rw Tmr Srl Rom RomOf Opl Reg

def dcells (x y : Value) (m : Mc) (n o : Int) : Array Value := #[x, y, .int .i64 m.a, .int .i64 m.b, .int .i64 m.pc, .int .i64 m.sp, .bool m.z, .bool m.c, .bool m.e, .bool m.h, .bool m.s, .int .i64 m.fl, .int .i64 m.ms, .int .i64 m.ky,
 .int .i64 m.t.c, .int .i64 m.t.v, .int .i64 m.t.s, .int .i64 m.t.m, .int .i64 m.p.d, .bool m.p.b, .bool m.p.l, .int .i64 m.p.n, .int .i64 m.p.x, .bool m.p.t, .int .i64 m.k, .int .i64 n, .int .i64 o]
abbrev DRow (w : World) (g : Nat) (x y : Value) (m : Mc) (n o : Int) : Prop := Row w g (dcells x y m n o) 164
theorem info_de : (Tryz.prog.info? 164).map (·.size) = some 27 := by kernel_rfl
theorem dsize (x y : Value) (m : Mc) (n o : Int) : (dcells x y m n o).size = 27 := rfl
structure Dw (w : World) (g : Nat) (x y : Value) (m : Mc) (n o : Int) : Prop where
 a : w.cell? ⟨g, 2, none⟩ = some (.int .i64 m.a)
 b : w.cell? ⟨g, 3, none⟩ = some (.int .i64 m.b)
 pc : w.cell? ⟨g, 4, none⟩ = some (.int .i64 m.pc)
 sp : w.cell? ⟨g, 5, none⟩ = some (.int .i64 m.sp)
 z : w.cell? ⟨g, 6, none⟩ = some (.bool m.z)
 c : w.cell? ⟨g, 7, none⟩ = some (.bool m.c)
 n : w.cell? ⟨g, 25, none⟩ = some (.int .i64 n)
 o : w.cell? ⟨g, 26, none⟩ = some (.int .i64 o)
theorem dw {w : World} {g : Nat} {x y : Value} {m : Mc} {n o : Int} (h : DRow w g x y m n o) : Dw w g x y m n o :=
 ⟨h.cell 2, h.cell 3, h.cell 4, h.cell 5, h.cell 6, h.cell 7, h.cell 25, h.cell 26⟩
structure DSt (base : Nat) (w : World) (g : Nat) (x y : Value) (m : Mc) (n o : Int) : Prop where
 row : DRow w g x y m n o
 hx : Own base w x m.rom
 hy : Own base w y m.ram
 ap : ∀ k, x.ownBlock = some k → y.ownBlock ≠ some k
 gx : x.ownBlock ≠ some g
 gy : y.ownBlock ≠ some g
 hb : base ≤ g
theorem DSt.below {base : Nat} {w w' : World} {g : Nat} {x y : Value} {m : Mc} {n o : Int} (h : DSt base w g x y m n o) (hb : Below w.heap.size w w') : DSt base w' g x y m n o :=
 { h with row := h.row.below hb, hx := h.hx.below hb, hy := h.hy.below hb }
theorem DSt.drew {base : Nat} {w : World} {g : Nat} {x y : Value} {m : Mc} {n o : Int} (h : DSt base w g x y m n o) : DSt base w.drew g x y m n o :=
 { h with row := h.row.drewN 1, hx := h.hx.drewN 1, hy := h.hy.drewN 1 }
theorem DSt.set {base : Nat} {w w' : World} {g : Nat} {x y : Value} {m m' : Mc} {n n' o o' : Int} (h : DSt base w g x y m n o) (hr : DRow w' g x y m' n' o') (ho : Onto g w w') (h1 : m'.rom = m.rom) (h2 : m'.ram = m.ram) : DSt base w' g x y m' n' o' :=
 ⟨hr, h1 ▸ h.hx.onto ho h.gx, h2 ▸ h.hy.onto ho h.gy, h.ap, h.gx, h.gy, h.hb⟩
theorem DSt.sl {base : Nat} {w : World} {g : Nat} {x y : Value} {m : Mc} {n o : Int} (h : DSt base w g x y m n o) : MSl w (m.val x y) m := ⟨x, y, rfl, h.hx.sl, h.hy.sl⟩
theorem dm_cells (x y : Value) (m : Mc) (n o : Int) : (dcells x y m n o).extract 0 (0 + (m.cells x y).size) = m.cells x y := by kernel_rfl
theorem dm_spl (x y : Value) (m : Mc) (n o : Int) (x' y' : Value) (m' : Mc) : spl (m'.cells x' y').toList 0 (dcells x y m n o) = dcells x' y' m' n o := by kernel_rfl
theorem ret_unit {fn : Func} {R : Ending → World → Prop} {a : Act} {w : World} (h : fn.results = #[]) (hde : a.defers = []) (hR : R (.returned (.tuple #[])) w) : bodyPost Tryz.prog fn R .normal a w :=
 bodyPost_end (results_none h a.tmps Tryz.prog w) hde hR
section
variable {ops : Array Oper} {rest : List Oper} {op : Oper} {a : Act} {w : World} {Q : Exit → Act → World → Prop} {p q : Operand} {g k : Nat} {T : TypeId} {v x y : Value} {m : Mc} {n o : Int}
theorem ld_dm (hgd : op.guard = none) (ho : op.op = .load 30 p) (hx : a.eval p = .pointer (some ⟨g, 0, none⟩)) (hr : DRow w g x y m n o)
  (h : wpList Tryz.prog ops Q rest (a.put op.dst (m.val x y)) w) : wpList Tryz.prog ops Q (op :: rest) a w :=
 ld_in (cs' := m.cells x y) hgd ho hx hr Tryz.underlying30 rfl (dm_cells x y m n o) info_mc h
theorem st_dm {m' : Mc} {x' y' : Value} (hgd : op.guard = none) (ho : op.op = .store 30 p q) (hx : a.eval p = .pointer (some ⟨g, 0, none⟩)) (hy : a.eval q = m'.val x' y') (hr : DRow w g x y m n o) (h1 : x'.oneCell' = true) (h2 : y'.oneCell' = true)
  (h : ∀ w', DRow w' g x' y' m' n o → Onto g w w' → w'.heap.size = w.heap.size → wpList Tryz.prog ops Q rest (a.put op.dst undef) w') : wpList Tryz.prog ops Q (op :: rest) a w :=
 st_in (vs := (m'.cells x' y').toList) (cs' := dcells x' y' m' n o) hgd ho hx hy hr rfl info_mc rfl (by have := all_one h1 h2 m'; simpa using this) (dm_spl x y m n o x' y' m') h
theorem st_dn {z n' o' : Int} {m' : Mc} (hgd : op.guard = none) (ho : op.op = .store 2 p q) (hx : a.eval p = .pointer (some ⟨g, k, none⟩)) (hy : a.eval q = .int .i64 z) (hr : DRow w g x y m n o) (hk : decide (k < 27) = true)
  (hcs : (dcells x y m n o).setIfInBounds k (.int .i64 z) = dcells x y m' n' o')
  (h : ∀ w', DRow w' g x y m' n' o' → Onto g w w' → w'.heap.size = w.heap.size → wpList Tryz.prog ops Q rest (a.put op.dst undef) w') : wpList Tryz.prog ops Q (op :: rest) a w :=
 st_in (vs := [.int .i64 z]) hgd ho hx hy hr rfl info_i (by rw [dsize]; exact hk) rfl hcs h
theorem st_db {z : Bool} {m' : Mc} (hgd : op.guard = none) (ho : op.op = .store 4 p q) (hx : a.eval p = .pointer (some ⟨g, k, none⟩)) (hy : a.eval q = .bool z) (hr : DRow w g x y m n o) (hk : decide (k < 27) = true)
  (hcs : (dcells x y m n o).setIfInBounds k (.bool z) = dcells x y m' n o)
  (h : ∀ w', DRow w' g x y m' n o → Onto g w w' → w'.heap.size = w.heap.size → wpList Tryz.prog ops Q rest (a.put op.dst undef) w') : wpList Tryz.prog ops Q (op :: rest) a w :=
 st_in (vs := [.bool z]) hgd ho hx hy hr rfl info_b (by rw [dsize]; exact hk) rfl hcs h
end
section
variable {op : Oper} {a : Act} {w : World} {K : Act → World → Prop} {Q : Exit → Act → World → Prop} {p q : Operand} {g k : Nat} {x y : Value} {m : Mc} {n o : Int}
theorem sd_op {z n' o' : Int} {m' : Mc} (ho : op.op = .store 2 p q) (hx : a.eval p = .pointer (some ⟨g, k, none⟩)) (hy : a.eval q = .int .i64 z) (hr : DRow w g x y m n o) (hk : decide (k < 27) = true)
  (hcs : (dcells x y m n o).setIfInBounds k (.int .i64 z) = dcells x y m' n' o')
  (h : ∀ w', DRow w' g x y m' n' o' → Onto g w w' → K (a.put op.dst undef) w') : op.wp Tryz.prog a w K Q := by
 unfold Oper.wp execOp
 have ht : w.there g k 1 := hr.there k 1 (by rw [dsize]; have := of_decide_eq_true hk; omega)
 simp only [ho, hx, hy, Instr.storeAt, Instr.sureAddr, Sem.run_bind, Sem.run_pure, Result.andThen_ok, run_store_in w g k 2 (.int .i64 z) [.int .i64 z] rfl ht info_i rfl]
 have h1 : Row (w.setCell ⟨g, k, none⟩ (.int .i64 z)) g (dcells x y m' n' o') 164 := by
  rw [← hcs]; exact hr.set k (.int .i64 z)
 exact h _ h1 ((Onto.refl g w).setCell rfl _)
theorem lm_op (ho : op.op = .load 30 p) (hx : a.eval p = .pointer (some ⟨g, 0, none⟩)) (hr : DRow w g x y m n o) (h : K (a.put op.dst (m.val x y)) w) : op.wp Tryz.prog a w K Q :=
 lw_in (cs' := m.cells x y) ho hx hr Tryz.underlying30 rfl (dm_cells x y m n o) info_mc h
end
def Done (base : Nat) (w w' : World) (g : Nat) (m : Mc) (n o : Int) : Prop := ∃ x y, DSt base w' g x y m n o ∧ Onto g w w'
theorem Done.mk {base : Nat} {w w' : World} {g : Nat} {x y : Value} {m : Mc} {n o : Int} (h : DSt base w' g x y m n o) (ho : Onto g w w') : Done base w w' g m n o := ⟨x, y, h, ho⟩
theorem below_on {g : Nat} {w w' : World} (h : Below w.heap.size w w') : Onto g w w' := ⟨h.os, h.tape, h.output, h.size, fun k _ hk => h.block k hk⟩
theorem placeBehind_impl (q n : Int) (w : World) :
  Calls Tryz.prog 158 #[.int .i64 q, .int .i64 n] w fun e w' => e = .returned (.int .i64 (addB q n)) ∧ w' = w := by
 go_enter Tryz.func158, Tryz.ntmps158
 go_wp2_with (go_at_call 188; refine (addByte_impl _ _ _).mono ?_; rintro e w1 ⟨rfl, rfl⟩)
 go_ret
 exact ⟨rfl, rfl⟩
section
variable {base : Nat} {w : World} {g : Nat} {x y : Value} {m : Mc} {n o : Int}
theorem mark_impl (h : DSt base w g x y m n o) (z : Int) (c : Bool) :
  Calls Tryz.prog 205 #[.pointer (some ⟨g, 0, none⟩), .int .i64 z, .bool c] w fun e w' => e = .returned (.tuple #[]) ∧ Done base w w' g (m.cmp z c) n o := by
 go_enter Tryz.func205, Tryz.ntmps205
 go_wp2_with (first
  | (refine st_db (m' := { m with z := z == 0 }) rfl rfl rfl rfl h.row rfl rfl ?_; intro w1 r1 o1 s1; have h1 := h.set r1 o1 rfl rfl)
  | (refine st_db (m' := m.cmp z c) rfl rfl rfl rfl r1 rfl rfl ?_; intro w2 r2 o2 s2))
 refine ret_unit rfl rfl ?_
 exact ⟨rfl, .mk (h1.set r2 o2 rfl rfl) (o1.trans o2)⟩
theorem makeA_impl (h : DSt base w g x y m n o) (z : Int) (c : Bool) :
  Calls Tryz.prog 200 #[.pointer (some ⟨g, 0, none⟩), .int .i64 z, .bool c] w fun e w' => e = .returned (.tuple #[]) ∧ Done base w w' g (m.alu z c) n o := by
 go_enter Tryz.func200, Tryz.ntmps200
 go_wp2_with (first
  | (refine st_dn (m' := { m with a := z }) (n' := n) (o' := o) rfl rfl rfl rfl h.row rfl rfl ?_; intro w1 r1 o1 s1; have h1 := h.set r1 o1 rfl rfl)
  | (go_at_call 205; refine (mark_impl h1 _ _).mono ?_; rintro e w2 ⟨rfl, x2, y2, h2, o2⟩))
 refine ret_unit rfl rfl ?_
 exact ⟨rfl, .mk h2 (o1.trans o2)⟩
theorem countB_impl (h : DSt base w g x y m n o) (z : Int) (c : Bool) :
  Calls Tryz.prog 213 #[.pointer (some ⟨g, 0, none⟩), .int .i64 z, .bool c] w fun e w' => e = .returned (.tuple #[]) ∧ Done base w w' g (m.cntB z) n o := by
 go_enter Tryz.func213, Tryz.ntmps213
 go_wp2_with (first
  | (refine st_dn (m' := { m with b := z }) (n' := n) (o' := o) rfl rfl rfl rfl h.row rfl rfl ?_; intro w1 r1 o1 s1; have h1 := h.set r1 o1 rfl rfl)
  | (go_at_call 205; refine (mark_impl h1 _ _).mono ?_; rintro e w2 ⟨rfl, x2, y2, h2, o2⟩))
 refine ret_unit rfl rfl ?_
 exact ⟨rfl, .mk h2 (o1.trans o2)⟩
theorem jumpWhere_impl (h : DSt base w g x y m n o) (c : Bool) :
  Calls Tryz.prog 216 #[.pointer (some ⟨g, 0, none⟩), .bool c] w fun e w' => e = .returned (.tuple #[]) ∧ Done base w w' g (m.jmp n c) n o := by
 have hc := (dw h.row).n
 cases c
 ·go_enter Tryz.func216, Tryz.ntmps216
  go_wp2
  refine ret_unit rfl rfl ?_
  exact ⟨rfl, .mk h (Onto.refl _ _)⟩
 ·go_enter Tryz.func216, Tryz.ntmps216
  go_wp2_with (refine st_dn (m' := { m with pc := n }) (n' := n) (o' := o) rfl rfl rfl rfl h.row rfl rfl ?_; intro w1 r1 o1 s1)
  refine ret_unit rfl rfl ?_
  exact ⟨rfl, .mk (h.set r1 o1 rfl rfl) o1⟩
theorem DSt.other {w1 w2 : World} {x' y' : Value} {m' : Mc} {n' o' : Int} (h : DSt base w g x y m n o) (hm : MOwn w.heap.size w1 (m'.val x' y') m') (hr : DRow w2 g x' y' m' n' o') (ho : Onto g w1 w2) : DSt base w2 g x' y' m' n' o' := by
 obtain ⟨vr, va, e, h1, h2, h3⟩ := hm
 have hg := h.row.lt
 have hb := h.hb
 have e1 : vr = x' ∧ va = y' := by
  simp only [Mc.val, Mc.cells, Value.agg.injEq] at e
  injection e with e
  injection e with e1 e
  injection e with e2 e
  exact ⟨e1.symm, e2.symm⟩
 obtain ⟨rfl, rfl⟩ := e1
 have g1 : vr.ownBlock ≠ some g := fun e => by have := (h1.lt _ e).1; omega
 have g2 : va.ownBlock ≠ some g := fun e => by have := (h2.lt _ e).1; omega
 exact ⟨hr, (h1.onto ho g1).mono (by omega), (h2.onto ho g2).mono (by omega), h3, g1, g2, hb⟩
theorem write_impl (h : DSt base w g x y m n o) (q z : Int) :
  Calls Tryz.prog 196 #[.pointer (some ⟨g, 0, none⟩), .int .i64 q, .int .i64 z] w fun e w' => e = .returned (.tuple #[]) ∧ Done base w w' g (m.writtenAt q z) n (if q = 249 then z else o) := by
 by_cases hq : q = 249
 ·rw [if_pos hq]
  have hq' : (q == 249) = true := by simpa using hq
  clear hq
  go_enter Tryz.func196, Tryz.ntmps196
  go_wp2_with (first
   | (refine ld_dm rfl rfl rfl h.row ?_)
   | (go_at_call 247; refine (writtenAt_impl _ m _ _ _ h.sl).mono ?_; rintro e w1 ⟨v1, rfl, hm1, hb1⟩; obtain ⟨x1, y1, rfl, hx1, hy1, ha1⟩ := hm1; have h1 := h.below hb1)
   | (refine st_dm rfl rfl rfl rfl h1.row (one_own hx1) (one_own hy1) ?_; intro w2 r2 o2 s2)
   | (refine st_dn (m' := m.writtenAt q z) (n' := n) (o' := z) rfl rfl rfl rfl r2 rfl rfl ?_; intro w3 r3 o3 s3))
  refine ret_unit rfl rfl ?_
  exact ⟨rfl, .mk ((h.other ⟨x1, y1, rfl, hx1, hy1, ha1⟩ r2 o2).set r3 o3 rfl rfl) (((below_on hb1).trans o2).trans o3)⟩
 ·rw [if_neg hq]
  have hq' : (q == 249) = false := by simpa using hq
  clear hq
  go_enter Tryz.func196, Tryz.ntmps196
  go_wp2_with (first
   | (refine ld_dm rfl rfl rfl h.row ?_)
   | (go_at_call 247; refine (writtenAt_impl _ m _ _ _ h.sl).mono ?_; rintro e w1 ⟨v1, rfl, hm1, hb1⟩; obtain ⟨x1, y1, rfl, hx1, hy1, ha1⟩ := hm1; have h1 := h.below hb1)
   | (refine st_dm rfl rfl rfl rfl h1.row (one_own hx1) (one_own hy1) ?_; intro w2 r2 o2 s2))
  refine ret_unit rfl rfl ?_
  exact ⟨rfl, .mk (h.other ⟨x1, y1, rfl, hx1, hy1, ha1⟩ r2 o2) ((below_on hb1).trans o2)⟩
theorem push_impl (h : DSt base w g x y m n (-1)) (hok : m.ok = true) (z : Int) (hz : bok z = true) :
  Calls Tryz.prog 184 #[.pointer (some ⟨g, 0, none⟩), .int .i64 z] w fun e w' => e = .returned (.tuple #[]) ∧ Done base w w' g (m.psh z) n (m.pshOut z) := by
 have hc := (dw h.row).sp
 have e1 := sub_one (okm.1 hok).sp
 have HE : Hid (({ m with sp := (m.sp + 255) % 256 } : Mc).writtenAt ((m.sp + 255) % 256) z = m.psh z) := writtenAt_ok (ok_sp hok _) (bok_mod _) hz
 generalize hs : (m.sp + 255) % 256 = s at HE e1
 have HO : Hid (m.pshOut z = if s = 249 then z else -1) := show m.pshOut z = if s = 249 then z else -1 by rw [← hs]; rfl
 clear hs
 go_enter Tryz.func184, Tryz.ntmps184
 go_wp2_with (first
  | (go_at_call 203; refine (subByte_impl _ _ _).mono ?_; rintro e w0 ⟨rfl, rfl⟩; rw [e1])
  | (refine st_dn (m' := { m with sp := s }) (n' := n) (o' := -1) rfl rfl rfl rfl h.row rfl rfl ?_; intro w1 r1 o1 s1; have h1 := h.set r1 o1 rfl rfl; have hc1 := (dw r1).sp)
  | (go_at_call 196; refine (write_impl h1 _ _).mono ?_; rintro e w2 ⟨rfl, x2, y2, h2, o2⟩))
 refine ret_unit rfl rfl ?_
 have he := HE.out
 rw [he, ← HO.out] at h2
 exact ⟨rfl, .mk h2 (o1.trans o2)⟩
end
end Go.Proofs.YtghmkacamabndaaGreatDoor.Mem
namespace Go.Proofs.YtghmkacamabndaaGreatDoor.Mem
open Go.ChangeShapes Go.WideShapes Go.RowKit Base Num Slc Rw Tmr Srl Rom RomOf Opl Reg
section
variable {base : Nat} {w : World} {g : Nat} {x y : Value} {m : Mc} {n : Int}
set_option maxRecDepth 100000 in
theorem popped_impl (h : DSt base w g x y m n (-1)) (hok : m.ok = true) :
  Calls Tryz.prog 222 #[.pointer (some ⟨g, 0, none⟩)] w fun e w' => e = .returned (.int .i64 m.top) ∧ Done base w w' g m.popd n (-1) := by
 have e1 : m.readAt m.sp = m.top := readAt_ok hok (okm.1 hok).sp
 have e2 := add_one (okm.1 hok).sp
 go_enter Tryz.func222, Tryz.ntmps222
 go_wp2_with fail
 refine region_last (by kernel_rfl) (by kernel_rfl) 10 (by decide) (by kernel_rfl) (by kernel_rfl) (fun W => DSt base W g x y m n (-1) ∧ Onto g w W) (fun W => DSt base W g x y m n (-1) ∧ Onto g w W) [.pointer (some ⟨g, 0, none⟩), .pointer (some ⟨g, 0, none⟩), .pointer (some ⟨g, 0, none⟩), m.val x y, .pointer (some ⟨g, 0, none⟩), .pointer (some ⟨g, 0, none⟩), .pointer (some ⟨g, 0, none⟩), .pointer (some ⟨g, 5, none⟩), .int .i64 m.sp, .int .i64 (m.readAt m.sp), .int .i64 (m.readAt m.sp)] ⟨h.drew, (Onto.refl g w).drew⟩ ?step ?last ?done
 case step =>
  intro L ix o' A W hne hi hI hg hd
  have hin : ix < 11 := by
   by_cases hl : ix < 11
   ·exact hl
   ·simp [hl] at hi
  rcases ix with _ | _ | _ | _ | _ | _ | _ | _ | _ | _ | _ | ix
  ·cases hi; exact at_op rfl rfl (move_op rfl ⟨_, rfl, hI.old 0 (by kernel_rfl), hg⟩)
  ·cases hi; exact at_op rfl rfl (nil_op rfl (hI.val hd 0 4 rfl rfl (by kernel_rfl)) ⟨_, rfl, rfl, hg⟩)
  ·cases hi; exact at_op rfl rfl (one_op (hI.val hd 1 5 rfl rfl (by kernel_rfl)) rfl (by kernel_rfl) ⟨_, rfl, rfl, hg⟩)
  ·cases hi
   have e0 : A.eval (.tmp 6) = .pointer (some ⟨g, 0, none⟩) := hI.val hd 2 6 rfl rfl (by kernel_rfl)
   exact at_op rfl rfl (lm_op rfl e0 hg.1.row ⟨_, rfl, rfl, hg⟩)
  ·cases hi; exact at_op rfl rfl (move_op rfl ⟨_, rfl, hI.old 0 (by kernel_rfl), hg⟩)
  ·cases hi; exact at_op rfl rfl (nil_op rfl (hI.val hd 4 8 rfl rfl (by kernel_rfl)) ⟨_, rfl, rfl, hg⟩)
  ·cases hi; exact at_op rfl rfl (one_op (hI.val hd 5 9 rfl rfl (by kernel_rfl)) rfl (by kernel_rfl) ⟨_, rfl, rfl, hg⟩)
  ·cases hi; exact at_op rfl rfl (one_op (hI.val hd 6 10 rfl rfl (by kernel_rfl)) rfl (by kernel_rfl) ⟨_, rfl, rfl, hg⟩)
  ·cases hi
   have e0 : A.eval (.tmp 11) = .pointer (some ⟨g, 5, none⟩) := hI.val hd 7 11 rfl rfl (by kernel_rfl)
   exact at_op rfl rfl (load_op rfl Tryz.underlying2 e0 (dw hg.1.row).sp ⟨_, rfl, rfl, hg⟩)
  ·cases hi
   have e0 : A.eval (.tmp 7) = m.val x y := hI.val hd 3 7 rfl rfl (by kernel_rfl)
   have e1 : A.eval (.tmp 12) = .int .i64 m.sp := hI.val hd 8 12 rfl rfl (by kernel_rfl)
   refine at_op rfl rfl (call_op rfl Tryz.func156 (by kernel_rfl) (by kernel_rfl) ?_)
   simp only [List.map_cons, List.map_nil, e0, e1]
   refine (readAt_impl _ m _ _ hg.1.sl).mono ?_
   rintro e w1 ⟨rfl, hb⟩
   exact ⟨_, rfl, _, rfl, rfl, hg.1.below hb, hg.2.trans (below_on hb)⟩
  ·exact absurd rfl hne
  omega
 case last =>
  intro L o' A W hi hI hg hd
  cases hi
  have e0 : A.eval (.tmp 13) = .int .i64 (m.readAt m.sp) := hI.val hd 9 13 rfl rfl (by kernel_rfl)
  exact at_op rfl rfl (assign_op rfl ⟨_, rfl, e0, hg⟩)
 case done =>
  intro A W hI hE
  have e0' : A.tmps.getD 0 undef = .pointer (some ⟨g, 0, none⟩) := hI.old 0 (by kernel_rfl)
  have e1' : A.tmps.getD 1 undef = undef := hI.old 1 (by kernel_rfl)
  have e2' : A.tmps.getD 2 undef = .int .i64 0 := hI.old 2 (by kernel_rfl)
  have e3' : A.tmps.getD 3 undef = .int .i64 (m.readAt m.sp) := hI.last 10 3 rfl
  have e4' : A.tmps.getD 4 undef = .pointer (some ⟨g, 0, none⟩) := hI.last 0 4 rfl
  have e5' : A.tmps.getD 5 undef = .pointer (some ⟨g, 0, none⟩) := hI.last 1 5 rfl
  have e6' : A.tmps.getD 6 undef = .pointer (some ⟨g, 0, none⟩) := hI.last 2 6 rfl
  have e7' : A.tmps.getD 7 undef = m.val x y := hI.last 3 7 rfl
  have e8' : A.tmps.getD 8 undef = .pointer (some ⟨g, 0, none⟩) := hI.last 4 8 rfl
  have e9' : A.tmps.getD 9 undef = .pointer (some ⟨g, 0, none⟩) := hI.last 5 9 rfl
  have e10' : A.tmps.getD 10 undef = .pointer (some ⟨g, 0, none⟩) := hI.last 6 10 rfl
  have e11' : A.tmps.getD 11 undef = .pointer (some ⟨g, 5, none⟩) := hI.last 7 11 rfl
  have e12' : A.tmps.getD 12 undef = .int .i64 m.sp := hI.last 8 12 rfl
  have e13' : A.tmps.getD 13 undef = .int .i64 (m.readAt m.sp) := hI.last 9 13 rfl
  have e14' : A.tmps.getD 14 undef = undef := hI.old 14 (by kernel_rfl)
  have e15' : A.tmps.getD 15 undef = undef := hI.old 15 (by kernel_rfl)
  have e16' : A.tmps.getD 16 undef = undef := hI.old 16 (by kernel_rfl)
  have e17' : A.tmps.getD 17 undef = undef := hI.old 17 (by kernel_rfl)
  have e18' : A.tmps.getD 18 undef = undef := hI.old 18 (by kernel_rfl)
  have e19' : A.tmps.getD 19 undef = undef := hI.old 19 (by kernel_rfl)
  have e20' : A.tmps.getD 20 undef = undef := hI.old 20 (by kernel_rfl)
  have e21' : A.tmps.getD 21 undef = undef := hI.old 21 (by kernel_rfl)
  have e22' : A.tmps.getD 22 undef = undef := hI.old 22 (by kernel_rfl)
  have e23' : A.tmps.getD 23 undef = undef := hI.old 23 (by kernel_rfl)
  have e24' : A.tmps.getD 24 undef = undef := hI.old 24 (by kernel_rfl)
  have hA := frame_lit A 25 hI.size
  have hde : A.defers = [] := hI.defers
  rw [hde, show List.range 25 = [0, 1, 2, 3, 4, 5, 6, 7, 8, 9, 10, 11, 12, 13, 14, 15, 16, 17, 18, 19, 20, 21, 22, 23, 24] from rfl] at hA
  simp only [List.map_cons, List.map_nil, e0', e1', e2', e3', e4', e5', e6', e7', e8', e9', e10', e11', e12', e13', e14', e15', e16', e17', e18', e19', e20', e21', e22', e23', e24'] at hA
  rw [hA]
  clear hA e0' e1' e2' e3' e4' e5' e6' e7' e8' e9' e10' e11' e12' e13' e14' e15' e16' e17' e18' e19' e20' e21' e22' e23' e24' hI hde
  obtain ⟨hD, hO⟩ := hE
  have hc := (dw hD.row).sp
  rw [e1]
  go_wp2_with (first
   | (go_at_call 158; refine (placeBehind_impl _ _ _).mono ?_; rintro e w0 ⟨rfl, rfl⟩; rw [e2])
   | (refine st_dn (m' := m.popd) (n' := n) (o' := -1) rfl rfl rfl rfl hD.row rfl rfl ?_; intro w1 r1 o1 s1))
  go_ret
  exact ⟨rfl, .mk (hD.set r1 o1 rfl rfl) (hO.trans o1)⟩
theorem nop_impl (h : DSt base w g x y m n (-1)) (hok : m.ok = true) (hn : bok n = true) :
  Calls Tryz.prog 189 #[.pointer (some ⟨g, 0, none⟩)] w fun e w' => e = .returned (.tuple #[]) ∧ Done base w w' g (m.does n 0).1 n (m.does n 0).2 := by
 go_enter Tryz.func189, Tryz.ntmps189
 go_wp2
 refine ret_unit rfl rfl ?_
 exact ⟨rfl, .mk h (Onto.refl _ _)⟩
theorem lda_impl (h : DSt base w g x y m n (-1)) (hok : m.ok = true) (hn : bok n = true) :
  Calls Tryz.prog 190 #[.pointer (some ⟨g, 0, none⟩)] w fun e w' => e = .returned (.tuple #[]) ∧ Done base w w' g (m.does n 1).1 n (m.does n 1).2 := by
 have hc := (dw h.row).n
 go_enter Tryz.func190, Tryz.ntmps190
 go_wp2_with (refine st_dn (m' := (m.does n 1).1) (n' := n) (o' := -1) rfl rfl rfl rfl h.row rfl rfl ?_; intro w1 r1 o1 s1)
 refine ret_unit rfl rfl ?_
 exact ⟨rfl, .mk (h.set r1 o1 rfl rfl) o1⟩
theorem ldb_impl (h : DSt base w g x y m n (-1)) (hok : m.ok = true) (hn : bok n = true) :
  Calls Tryz.prog 191 #[.pointer (some ⟨g, 0, none⟩)] w fun e w' => e = .returned (.tuple #[]) ∧ Done base w w' g (m.does n 2).1 n (m.does n 2).2 := by
 have hc := (dw h.row).n
 go_enter Tryz.func191, Tryz.ntmps191
 go_wp2_with (refine st_dn (m' := (m.does n 2).1) (n' := n) (o' := -1) rfl rfl rfl rfl h.row rfl rfl ?_; intro w1 r1 o1 s1)
 refine ret_unit rfl rfl ?_
 exact ⟨rfl, .mk (h.set r1 o1 rfl rfl) o1⟩
theorem mab_impl (h : DSt base w g x y m n (-1)) (hok : m.ok = true) (hn : bok n = true) :
  Calls Tryz.prog 192 #[.pointer (some ⟨g, 0, none⟩)] w fun e w' => e = .returned (.tuple #[]) ∧ Done base w w' g (m.does n 3).1 n (m.does n 3).2 := by
 have hc := (dw h.row).b
 go_enter Tryz.func192, Tryz.ntmps192
 go_wp2_with (refine st_dn (m' := (m.does n 3).1) (n' := n) (o' := -1) rfl rfl rfl rfl h.row rfl rfl ?_; intro w1 r1 o1 s1)
 refine ret_unit rfl rfl ?_
 exact ⟨rfl, .mk (h.set r1 o1 rfl rfl) o1⟩
theorem mba_impl (h : DSt base w g x y m n (-1)) (hok : m.ok = true) (hn : bok n = true) :
  Calls Tryz.prog 193 #[.pointer (some ⟨g, 0, none⟩)] w fun e w' => e = .returned (.tuple #[]) ∧ Done base w w' g (m.does n 4).1 n (m.does n 4).2 := by
 have hc := (dw h.row).a
 go_enter Tryz.func193, Tryz.ntmps193
 go_wp2_with (refine st_dn (m' := (m.does n 4).1) (n' := n) (o' := -1) rfl rfl rfl rfl h.row rfl rfl ?_; intro w1 r1 o1 s1)
 refine ret_unit rfl rfl ?_
 exact ⟨rfl, .mk (h.set r1 o1 rfl rfl) o1⟩
set_option maxRecDepth 100000 in
theorem get_impl (h : DSt base w g x y m n (-1)) (hok : m.ok = true) (hn : bok n = true) :
  Calls Tryz.prog 194 #[.pointer (some ⟨g, 0, none⟩)] w fun e w' => e = .returned (.tuple #[]) ∧ Done base w w' g (m.does n 5).1 n (m.does n 5).2 := by
 go_enter Tryz.func194, Tryz.ntmps194
 go_wp2_with fail
 refine region_last (by kernel_rfl) (by kernel_rfl) 13 (by decide) (by kernel_rfl) (by kernel_rfl) (fun W => DSt base W g x y m n (-1) ∧ Onto g w W) (fun W => Done base w W g (m.does n 5).1 n (m.does n 5).2) [.pointer (some ⟨g, 0, none⟩), .pointer (some ⟨g, 0, none⟩), .pointer (some ⟨g, 0, none⟩), .pointer (some ⟨g, 0, none⟩), m.val x y, .pointer (some ⟨g, 0, none⟩), .pointer (some ⟨g, 0, none⟩), .pointer (some ⟨g, 25, none⟩), .int .i64 n, .int .i64 (m.readAt n), .pointer (some ⟨g, 0, none⟩), .pointer (some ⟨g, 0, none⟩), .pointer (some ⟨g, 2, none⟩), undef] ⟨h.drew, (Onto.refl g w).drew⟩ ?step ?last ?done
 case step =>
  intro L ix o' A W hne hi hI hg hd
  have hin : ix < 14 := by
   by_cases hl : ix < 14
   ·exact hl
   ·simp [hl] at hi
  rcases ix with _ | _ | _ | _ | _ | _ | _ | _ | _ | _ | _ | _ | _ | _ | ix
  ·cases hi; exact at_op rfl rfl (move_op rfl ⟨_, rfl, hI.old 0 (by kernel_rfl), hg⟩)
  ·cases hi; exact at_op rfl rfl (move_op rfl ⟨_, rfl, hI.old 0 (by kernel_rfl), hg⟩)
  ·cases hi; exact at_op rfl rfl (nil_op rfl (hI.val hd 1 3 rfl rfl (by kernel_rfl)) ⟨_, rfl, rfl, hg⟩)
  ·cases hi; exact at_op rfl rfl (one_op (hI.val hd 2 4 rfl rfl (by kernel_rfl)) rfl (by kernel_rfl) ⟨_, rfl, rfl, hg⟩)
  ·cases hi
   have e0 : A.eval (.tmp 5) = .pointer (some ⟨g, 0, none⟩) := hI.val hd 3 5 rfl rfl (by kernel_rfl)
   exact at_op rfl rfl (lm_op rfl e0 hg.1.row ⟨_, rfl, rfl, hg⟩)
  ·cases hi; exact at_op rfl rfl (move_op rfl ⟨_, rfl, hI.old 0 (by kernel_rfl), hg⟩)
  ·cases hi; exact at_op rfl rfl (nil_op rfl (hI.val hd 5 7 rfl rfl (by kernel_rfl)) ⟨_, rfl, rfl, hg⟩)
  ·cases hi; exact at_op rfl rfl (one_op (hI.val hd 6 8 rfl rfl (by kernel_rfl)) rfl (by kernel_rfl) ⟨_, rfl, rfl, hg⟩)
  ·cases hi
   have e0 : A.eval (.tmp 9) = .pointer (some ⟨g, 25, none⟩) := hI.val hd 7 9 rfl rfl (by kernel_rfl)
   exact at_op rfl rfl (load_op rfl Tryz.underlying2 e0 (dw hg.1.row).n ⟨_, rfl, rfl, hg⟩)
  ·cases hi
   have e0 : A.eval (.tmp 6) = m.val x y := hI.val hd 4 6 rfl rfl (by kernel_rfl)
   have e1 : A.eval (.tmp 10) = .int .i64 n := hI.val hd 8 10 rfl rfl (by kernel_rfl)
   refine at_op rfl rfl (call_op rfl Tryz.func156 (by kernel_rfl) (by kernel_rfl) ?_)
   simp only [List.map_cons, List.map_nil, e0, e1]
   refine (readAt_impl _ m _ _ hg.1.sl).mono ?_
   rintro e w1 ⟨rfl, hb⟩
   exact ⟨_, rfl, _, rfl, rfl, hg.1.below hb, hg.2.trans (below_on hb)⟩
  ·cases hi; exact at_op rfl rfl (nil_op rfl (hI.val hd 0 2 rfl rfl (by kernel_rfl)) ⟨_, rfl, rfl, hg⟩)
  ·cases hi; exact at_op rfl rfl (one_op (hI.val hd 10 12 rfl rfl (by kernel_rfl)) rfl (by kernel_rfl) ⟨_, rfl, rfl, hg⟩)
  ·cases hi; exact at_op rfl rfl (one_op (hI.val hd 11 13 rfl rfl (by kernel_rfl)) rfl (by kernel_rfl) ⟨_, rfl, rfl, hg⟩)
  ·exact absurd rfl hne
  omega
 case last =>
  intro L o' A W hi hI hg hd
  cases hi
  have e0 : A.eval (.tmp 14) = .pointer (some ⟨g, 2, none⟩) := hI.val hd 12 14 rfl rfl (by kernel_rfl)
  have e1 : A.eval (.tmp 11) = .int .i64 (m.readAt n) := hI.val hd 9 11 rfl rfl (by kernel_rfl)
  rw [readAt_ok hok hn] at e1
  exact at_op rfl rfl (sd_op (m' := (m.does n 5).1) (n' := n) (o' := -1) rfl e0 e1 hg.1.row rfl rfl (fun w' hr ho => ⟨_, rfl, rfl, .mk (hg.1.set hr ho rfl rfl) (hg.2.trans ho)⟩))
 case done =>
  intro A W hI hE
  exact ret_unit rfl hI.defers ⟨rfl, hE⟩
set_option maxRecDepth 100000 in
theorem put_impl (h : DSt base w g x y m n (-1)) (hok : m.ok = true) (hn : bok n = true) :
  Calls Tryz.prog 195 #[.pointer (some ⟨g, 0, none⟩)] w fun e w' => e = .returned (.tuple #[]) ∧ Done base w w' g (m.does n 6).1 n (m.does n 6).2 := by
 go_enter Tryz.func195, Tryz.ntmps195
 go_wp2_with fail
 refine region_last (by kernel_rfl) (by kernel_rfl) 10 (by decide) (by kernel_rfl) (by kernel_rfl) (fun W => DSt base W g x y m n (-1) ∧ Onto g w W) (fun W => Done base w W g (m.does n 6).1 n (m.does n 6).2) [.pointer (some ⟨g, 0, none⟩), .pointer (some ⟨g, 0, none⟩), .pointer (some ⟨g, 0, none⟩), .pointer (some ⟨g, 25, none⟩), .int .i64 n, .pointer (some ⟨g, 0, none⟩), .pointer (some ⟨g, 0, none⟩), .pointer (some ⟨g, 0, none⟩), .pointer (some ⟨g, 2, none⟩), .int .i64 m.a, .tuple #[]] ⟨h.drew, (Onto.refl g w).drew⟩ ?step ?last ?done
 case step =>
  intro L ix o' A W hne hi hI hg hd
  have hin : ix < 11 := by
   by_cases hl : ix < 11
   ·exact hl
   ·simp [hl] at hi
  rcases ix with _ | _ | _ | _ | _ | _ | _ | _ | _ | _ | _ | ix
  ·cases hi; exact at_op rfl rfl (move_op rfl ⟨_, rfl, hI.old 0 (by kernel_rfl), hg⟩)
  ·cases hi; exact at_op rfl rfl (move_op rfl ⟨_, rfl, hI.old 0 (by kernel_rfl), hg⟩)
  ·cases hi; exact at_op rfl rfl (nil_op rfl (hI.val hd 1 3 rfl rfl (by kernel_rfl)) ⟨_, rfl, rfl, hg⟩)
  ·cases hi; exact at_op rfl rfl (one_op (hI.val hd 2 4 rfl rfl (by kernel_rfl)) rfl (by kernel_rfl) ⟨_, rfl, rfl, hg⟩)
  ·cases hi
   have e0 : A.eval (.tmp 5) = .pointer (some ⟨g, 25, none⟩) := hI.val hd 3 5 rfl rfl (by kernel_rfl)
   exact at_op rfl rfl (load_op rfl Tryz.underlying2 e0 (dw hg.1.row).n ⟨_, rfl, rfl, hg⟩)
  ·cases hi; exact at_op rfl rfl (move_op rfl ⟨_, rfl, hI.old 0 (by kernel_rfl), hg⟩)
  ·cases hi; exact at_op rfl rfl (nil_op rfl (hI.val hd 5 7 rfl rfl (by kernel_rfl)) ⟨_, rfl, rfl, hg⟩)
  ·cases hi; exact at_op rfl rfl (one_op (hI.val hd 6 8 rfl rfl (by kernel_rfl)) rfl (by kernel_rfl) ⟨_, rfl, rfl, hg⟩)
  ·cases hi; exact at_op rfl rfl (one_op (hI.val hd 7 9 rfl rfl (by kernel_rfl)) rfl (by kernel_rfl) ⟨_, rfl, rfl, hg⟩)
  ·cases hi
   have e0 : A.eval (.tmp 10) = .pointer (some ⟨g, 2, none⟩) := hI.val hd 8 10 rfl rfl (by kernel_rfl)
   exact at_op rfl rfl (load_op rfl Tryz.underlying2 e0 (dw hg.1.row).a ⟨_, rfl, rfl, hg⟩)
  ·exact absurd rfl hne
  omega
 case last =>
  intro L o' A W hi hI hg hd
  cases hi
  have e0 : A.eval (.tmp 2) = .pointer (some ⟨g, 0, none⟩) := hI.val hd 0 2 rfl rfl (by kernel_rfl)
  have e1 : A.eval (.tmp 6) = .int .i64 n := hI.val hd 4 6 rfl rfl (by kernel_rfl)
  have e2 : A.eval (.tmp 11) = .int .i64 m.a := hI.val hd 9 11 rfl rfl (by kernel_rfl)
  refine at_op rfl rfl (call_op rfl Tryz.func196 (by kernel_rfl) (by kernel_rfl) ?_)
  simp only [List.map_cons, List.map_nil, e0, e1, e2]
  refine (write_impl hg.1 _ _).mono ?_
  rintro e w1 ⟨rfl, x1, y1, h1, o1⟩
  rw [writtenAt_ok hok hn (okm.1 hok).a] at h1
  exact ⟨_, rfl, _, rfl, rfl, .mk h1 (hg.2.trans o1)⟩
 case done =>
  intro A W hI hE
  exact ret_unit rfl hI.defers ⟨rfl, hE⟩
set_option maxRecDepth 100000 in
theorem gib_impl (h : DSt base w g x y m n (-1)) (hok : m.ok = true) (hn : bok n = true) :
  Calls Tryz.prog 197 #[.pointer (some ⟨g, 0, none⟩)] w fun e w' => e = .returned (.tuple #[]) ∧ Done base w w' g (m.does n 7).1 n (m.does n 7).2 := by
 go_enter Tryz.func197, Tryz.ntmps197
 go_wp2_with fail
 refine region_last (by kernel_rfl) (by kernel_rfl) 14 (by decide) (by kernel_rfl) (by kernel_rfl) (fun W => DSt base W g x y m n (-1) ∧ Onto g w W) (fun W => Done base w W g (m.does n 7).1 n (m.does n 7).2) [.pointer (some ⟨g, 0, none⟩), .pointer (some ⟨g, 0, none⟩), .pointer (some ⟨g, 0, none⟩), .pointer (some ⟨g, 0, none⟩), m.val x y, .pointer (some ⟨g, 0, none⟩), .pointer (some ⟨g, 0, none⟩), .pointer (some ⟨g, 0, none⟩), .pointer (some ⟨g, 3, none⟩), .int .i64 m.b, .int .i64 (m.readAt m.b), .pointer (some ⟨g, 0, none⟩), .pointer (some ⟨g, 0, none⟩), .pointer (some ⟨g, 2, none⟩), undef] ⟨h.drew, (Onto.refl g w).drew⟩ ?step ?last ?done
 case step =>
  intro L ix o' A W hne hi hI hg hd
  have hin : ix < 15 := by
   by_cases hl : ix < 15
   ·exact hl
   ·simp [hl] at hi
  rcases ix with _ | _ | _ | _ | _ | _ | _ | _ | _ | _ | _ | _ | _ | _ | _ | ix
  ·cases hi; exact at_op rfl rfl (move_op rfl ⟨_, rfl, hI.old 0 (by kernel_rfl), hg⟩)
  ·cases hi; exact at_op rfl rfl (move_op rfl ⟨_, rfl, hI.old 0 (by kernel_rfl), hg⟩)
  ·cases hi; exact at_op rfl rfl (nil_op rfl (hI.val hd 1 3 rfl rfl (by kernel_rfl)) ⟨_, rfl, rfl, hg⟩)
  ·cases hi; exact at_op rfl rfl (one_op (hI.val hd 2 4 rfl rfl (by kernel_rfl)) rfl (by kernel_rfl) ⟨_, rfl, rfl, hg⟩)
  ·cases hi
   have e0 : A.eval (.tmp 5) = .pointer (some ⟨g, 0, none⟩) := hI.val hd 3 5 rfl rfl (by kernel_rfl)
   exact at_op rfl rfl (lm_op rfl e0 hg.1.row ⟨_, rfl, rfl, hg⟩)
  ·cases hi; exact at_op rfl rfl (move_op rfl ⟨_, rfl, hI.old 0 (by kernel_rfl), hg⟩)
  ·cases hi; exact at_op rfl rfl (nil_op rfl (hI.val hd 5 7 rfl rfl (by kernel_rfl)) ⟨_, rfl, rfl, hg⟩)
  ·cases hi; exact at_op rfl rfl (one_op (hI.val hd 6 8 rfl rfl (by kernel_rfl)) rfl (by kernel_rfl) ⟨_, rfl, rfl, hg⟩)
  ·cases hi; exact at_op rfl rfl (one_op (hI.val hd 7 9 rfl rfl (by kernel_rfl)) rfl (by kernel_rfl) ⟨_, rfl, rfl, hg⟩)
  ·cases hi
   have e0 : A.eval (.tmp 10) = .pointer (some ⟨g, 3, none⟩) := hI.val hd 8 10 rfl rfl (by kernel_rfl)
   exact at_op rfl rfl (load_op rfl Tryz.underlying2 e0 (dw hg.1.row).b ⟨_, rfl, rfl, hg⟩)
  ·cases hi
   have e0 : A.eval (.tmp 6) = m.val x y := hI.val hd 4 6 rfl rfl (by kernel_rfl)
   have e1 : A.eval (.tmp 11) = .int .i64 m.b := hI.val hd 9 11 rfl rfl (by kernel_rfl)
   refine at_op rfl rfl (call_op rfl Tryz.func156 (by kernel_rfl) (by kernel_rfl) ?_)
   simp only [List.map_cons, List.map_nil, e0, e1]
   refine (readAt_impl _ m _ _ hg.1.sl).mono ?_
   rintro e w1 ⟨rfl, hb⟩
   exact ⟨_, rfl, _, rfl, rfl, hg.1.below hb, hg.2.trans (below_on hb)⟩
  ·cases hi; exact at_op rfl rfl (nil_op rfl (hI.val hd 0 2 rfl rfl (by kernel_rfl)) ⟨_, rfl, rfl, hg⟩)
  ·cases hi; exact at_op rfl rfl (one_op (hI.val hd 11 13 rfl rfl (by kernel_rfl)) rfl (by kernel_rfl) ⟨_, rfl, rfl, hg⟩)
  ·cases hi; exact at_op rfl rfl (one_op (hI.val hd 12 14 rfl rfl (by kernel_rfl)) rfl (by kernel_rfl) ⟨_, rfl, rfl, hg⟩)
  ·exact absurd rfl hne
  omega
 case last =>
  intro L o' A W hi hI hg hd
  cases hi
  have e0 : A.eval (.tmp 15) = .pointer (some ⟨g, 2, none⟩) := hI.val hd 13 15 rfl rfl (by kernel_rfl)
  have e1 : A.eval (.tmp 12) = .int .i64 (m.readAt m.b) := hI.val hd 10 12 rfl rfl (by kernel_rfl)
  rw [readAt_ok hok (okm.1 hok).b] at e1
  exact at_op rfl rfl (sd_op (m' := (m.does n 7).1) (n' := n) (o' := -1) rfl e0 e1 hg.1.row rfl rfl (fun w' hr ho => ⟨_, rfl, rfl, .mk (hg.1.set hr ho rfl rfl) (hg.2.trans ho)⟩))
 case done =>
  intro A W hI hE
  exact ret_unit rfl hI.defers ⟨rfl, hE⟩
set_option maxRecDepth 100000 in
theorem pib_impl (h : DSt base w g x y m n (-1)) (hok : m.ok = true) (hn : bok n = true) :
  Calls Tryz.prog 198 #[.pointer (some ⟨g, 0, none⟩)] w fun e w' => e = .returned (.tuple #[]) ∧ Done base w w' g (m.does n 8).1 n (m.does n 8).2 := by
 go_enter Tryz.func198, Tryz.ntmps198
 go_wp2_with fail
 refine region_last (by kernel_rfl) (by kernel_rfl) 11 (by decide) (by kernel_rfl) (by kernel_rfl) (fun W => DSt base W g x y m n (-1) ∧ Onto g w W) (fun W => Done base w W g (m.does n 8).1 n (m.does n 8).2) [.pointer (some ⟨g, 0, none⟩), .pointer (some ⟨g, 0, none⟩), .pointer (some ⟨g, 0, none⟩), .pointer (some ⟨g, 0, none⟩), .pointer (some ⟨g, 3, none⟩), .int .i64 m.b, .pointer (some ⟨g, 0, none⟩), .pointer (some ⟨g, 0, none⟩), .pointer (some ⟨g, 0, none⟩), .pointer (some ⟨g, 2, none⟩), .int .i64 m.a, .tuple #[]] ⟨h.drew, (Onto.refl g w).drew⟩ ?step ?last ?done
 case step =>
  intro L ix o' A W hne hi hI hg hd
  have hin : ix < 12 := by
   by_cases hl : ix < 12
   ·exact hl
   ·simp [hl] at hi
  rcases ix with _ | _ | _ | _ | _ | _ | _ | _ | _ | _ | _ | _ | ix
  ·cases hi; exact at_op rfl rfl (move_op rfl ⟨_, rfl, hI.old 0 (by kernel_rfl), hg⟩)
  ·cases hi; exact at_op rfl rfl (move_op rfl ⟨_, rfl, hI.old 0 (by kernel_rfl), hg⟩)
  ·cases hi; exact at_op rfl rfl (nil_op rfl (hI.val hd 1 3 rfl rfl (by kernel_rfl)) ⟨_, rfl, rfl, hg⟩)
  ·cases hi; exact at_op rfl rfl (one_op (hI.val hd 2 4 rfl rfl (by kernel_rfl)) rfl (by kernel_rfl) ⟨_, rfl, rfl, hg⟩)
  ·cases hi; exact at_op rfl rfl (one_op (hI.val hd 3 5 rfl rfl (by kernel_rfl)) rfl (by kernel_rfl) ⟨_, rfl, rfl, hg⟩)
  ·cases hi
   have e0 : A.eval (.tmp 6) = .pointer (some ⟨g, 3, none⟩) := hI.val hd 4 6 rfl rfl (by kernel_rfl)
   exact at_op rfl rfl (load_op rfl Tryz.underlying2 e0 (dw hg.1.row).b ⟨_, rfl, rfl, hg⟩)
  ·cases hi; exact at_op rfl rfl (move_op rfl ⟨_, rfl, hI.old 0 (by kernel_rfl), hg⟩)
  ·cases hi; exact at_op rfl rfl (nil_op rfl (hI.val hd 6 8 rfl rfl (by kernel_rfl)) ⟨_, rfl, rfl, hg⟩)
  ·cases hi; exact at_op rfl rfl (one_op (hI.val hd 7 9 rfl rfl (by kernel_rfl)) rfl (by kernel_rfl) ⟨_, rfl, rfl, hg⟩)
  ·cases hi; exact at_op rfl rfl (one_op (hI.val hd 8 10 rfl rfl (by kernel_rfl)) rfl (by kernel_rfl) ⟨_, rfl, rfl, hg⟩)
  ·cases hi
   have e0 : A.eval (.tmp 11) = .pointer (some ⟨g, 2, none⟩) := hI.val hd 9 11 rfl rfl (by kernel_rfl)
   exact at_op rfl rfl (load_op rfl Tryz.underlying2 e0 (dw hg.1.row).a ⟨_, rfl, rfl, hg⟩)
  ·exact absurd rfl hne
  omega
 case last =>
  intro L o' A W hi hI hg hd
  cases hi
  have e0 : A.eval (.tmp 2) = .pointer (some ⟨g, 0, none⟩) := hI.val hd 0 2 rfl rfl (by kernel_rfl)
  have e1 : A.eval (.tmp 7) = .int .i64 m.b := hI.val hd 5 7 rfl rfl (by kernel_rfl)
  have e2 : A.eval (.tmp 12) = .int .i64 m.a := hI.val hd 10 12 rfl rfl (by kernel_rfl)
  refine at_op rfl rfl (call_op rfl Tryz.func196 (by kernel_rfl) (by kernel_rfl) ?_)
  simp only [List.map_cons, List.map_nil, e0, e1, e2]
  refine (write_impl hg.1 _ _).mono ?_
  rintro e w1 ⟨rfl, x1, y1, h1, o1⟩
  rw [writtenAt_ok hok (okm.1 hok).b (okm.1 hok).a] at h1
  exact ⟨_, rfl, _, rfl, rfl, .mk h1 (hg.2.trans o1)⟩
 case done =>
  intro A W hI hE
  exact ret_unit rfl hI.defers ⟨rfl, hE⟩
set_option maxRecDepth 100000 in
theorem add_impl (h : DSt base w g x y m n (-1)) (hok : m.ok = true) (hn : bok n = true) :
  Calls Tryz.prog 199 #[.pointer (some ⟨g, 0, none⟩)] w fun e w' => e = .returned (.tuple #[]) ∧ Done base w w' g (m.does n 9).1 n (m.does n 9).2 := by
 go_enter Tryz.func199, Tryz.ntmps199
 go_wp2_with fail
 refine region_last (by kernel_rfl) (by kernel_rfl) 13 (by decide) (by kernel_rfl) (by kernel_rfl) (fun W => DSt base W g x y m n (-1) ∧ Onto g w W) (fun W => Done base w W g (m.does n 9).1 n (m.does n 9).2) [.pointer (some ⟨g, 0, none⟩), .pointer (some ⟨g, 0, none⟩), .pointer (some ⟨g, 0, none⟩), .pointer (some ⟨g, 0, none⟩), .pointer (some ⟨g, 2, none⟩), .int .i64 m.a, .pointer (some ⟨g, 0, none⟩), .pointer (some ⟨g, 0, none⟩), .pointer (some ⟨g, 25, none⟩), .int .i64 n, .tuple #[.int .i64 (addB m.a n), .bool (addC m.a n)], .int .i64 (addB m.a n), .bool (addC m.a n), .tuple #[]] ⟨h.drew, (Onto.refl g w).drew⟩ ?step ?last ?done
 case step =>
  intro L ix o' A W hne hi hI hg hd
  have hin : ix < 14 := by
   by_cases hl : ix < 14
   ·exact hl
   ·simp [hl] at hi
  rcases ix with _ | _ | _ | _ | _ | _ | _ | _ | _ | _ | _ | _ | _ | _ | ix
  ·cases hi; exact at_op rfl rfl (move_op rfl ⟨_, rfl, hI.old 0 (by kernel_rfl), hg⟩)
  ·cases hi; exact at_op rfl rfl (move_op rfl ⟨_, rfl, hI.old 0 (by kernel_rfl), hg⟩)
  ·cases hi; exact at_op rfl rfl (nil_op rfl (hI.val hd 1 3 rfl rfl (by kernel_rfl)) ⟨_, rfl, rfl, hg⟩)
  ·cases hi; exact at_op rfl rfl (one_op (hI.val hd 2 4 rfl rfl (by kernel_rfl)) rfl (by kernel_rfl) ⟨_, rfl, rfl, hg⟩)
  ·cases hi; exact at_op rfl rfl (one_op (hI.val hd 3 5 rfl rfl (by kernel_rfl)) rfl (by kernel_rfl) ⟨_, rfl, rfl, hg⟩)
  ·cases hi
   have e0 : A.eval (.tmp 6) = .pointer (some ⟨g, 2, none⟩) := hI.val hd 4 6 rfl rfl (by kernel_rfl)
   exact at_op rfl rfl (load_op rfl Tryz.underlying2 e0 (dw hg.1.row).a ⟨_, rfl, rfl, hg⟩)
  ·cases hi; exact at_op rfl rfl (move_op rfl ⟨_, rfl, hI.old 0 (by kernel_rfl), hg⟩)
  ·cases hi; exact at_op rfl rfl (nil_op rfl (hI.val hd 6 8 rfl rfl (by kernel_rfl)) ⟨_, rfl, rfl, hg⟩)
  ·cases hi; exact at_op rfl rfl (one_op (hI.val hd 7 9 rfl rfl (by kernel_rfl)) rfl (by kernel_rfl) ⟨_, rfl, rfl, hg⟩)
  ·cases hi
   have e0 : A.eval (.tmp 10) = .pointer (some ⟨g, 25, none⟩) := hI.val hd 8 10 rfl rfl (by kernel_rfl)
   exact at_op rfl rfl (load_op rfl Tryz.underlying2 e0 (dw hg.1.row).n ⟨_, rfl, rfl, hg⟩)
  ·cases hi
   have e0 : A.eval (.tmp 7) = .int .i64 m.a := hI.val hd 5 7 rfl rfl (by kernel_rfl)
   have e1 : A.eval (.tmp 11) = .int .i64 n := hI.val hd 9 11 rfl rfl (by kernel_rfl)
   refine at_op rfl rfl (call_op rfl Tryz.func188 (by kernel_rfl) (by kernel_rfl) ?_)
   simp only [List.map_cons, List.map_nil, e0, e1]
   refine (addByte_impl _ _ _).mono ?_
   rintro e w1 ⟨rfl, rfl⟩
   exact ⟨_, rfl, _, rfl, rfl, hg⟩
  ·cases hi; exact at_op rfl rfl (one_op (hI.val hd 10 12 rfl rfl (by kernel_rfl)) rfl (by kernel_rfl) ⟨_, rfl, rfl, hg⟩)
  ·cases hi; exact at_op rfl rfl (one_op (hI.val hd 10 12 rfl rfl (by kernel_rfl)) rfl (by kernel_rfl) ⟨_, rfl, rfl, hg⟩)
  ·exact absurd rfl hne
  omega
 case last =>
  intro L o' A W hi hI hg hd
  cases hi
  have e0 : A.eval (.tmp 2) = .pointer (some ⟨g, 0, none⟩) := hI.val hd 0 2 rfl rfl (by kernel_rfl)
  have e1 : A.eval (.tmp 13) = .int .i64 (addB m.a n) := hI.val hd 11 13 rfl rfl (by kernel_rfl)
  have e2 : A.eval (.tmp 14) = .bool (addC m.a n) := hI.val hd 12 14 rfl rfl (by kernel_rfl)
  refine at_op rfl rfl (call_op rfl Tryz.func200 (by kernel_rfl) (by kernel_rfl) ?_)
  simp only [List.map_cons, List.map_nil, e0, e1, e2]
  refine (makeA_impl hg.1 _ _).mono ?_
  rintro e w1 ⟨rfl, x1, y1, h1, o1⟩
  exact ⟨_, rfl, _, rfl, rfl, .mk h1 (hg.2.trans o1)⟩
 case done =>
  intro A W hI hE
  exact ret_unit rfl hI.defers ⟨rfl, hE⟩
set_option maxRecDepth 100000 in
theorem adb_impl (h : DSt base w g x y m n (-1)) (hok : m.ok = true) (hn : bok n = true) :
  Calls Tryz.prog 201 #[.pointer (some ⟨g, 0, none⟩)] w fun e w' => e = .returned (.tuple #[]) ∧ Done base w w' g (m.does n 10).1 n (m.does n 10).2 := by
 go_enter Tryz.func201, Tryz.ntmps201
 go_wp2_with fail
 refine region_last (by kernel_rfl) (by kernel_rfl) 14 (by decide) (by kernel_rfl) (by kernel_rfl) (fun W => DSt base W g x y m n (-1) ∧ Onto g w W) (fun W => Done base w W g (m.does n 10).1 n (m.does n 10).2) [.pointer (some ⟨g, 0, none⟩), .pointer (some ⟨g, 0, none⟩), .pointer (some ⟨g, 0, none⟩), .pointer (some ⟨g, 0, none⟩), .pointer (some ⟨g, 2, none⟩), .int .i64 m.a, .pointer (some ⟨g, 0, none⟩), .pointer (some ⟨g, 0, none⟩), .pointer (some ⟨g, 0, none⟩), .pointer (some ⟨g, 3, none⟩), .int .i64 m.b, .tuple #[.int .i64 (addB m.a m.b), .bool (addC m.a m.b)], .int .i64 (addB m.a m.b), .bool (addC m.a m.b), .tuple #[]] ⟨h.drew, (Onto.refl g w).drew⟩ ?step ?last ?done
 case step =>
  intro L ix o' A W hne hi hI hg hd
  have hin : ix < 15 := by
   by_cases hl : ix < 15
   ·exact hl
   ·simp [hl] at hi
  rcases ix with _ | _ | _ | _ | _ | _ | _ | _ | _ | _ | _ | _ | _ | _ | _ | ix
  ·cases hi; exact at_op rfl rfl (move_op rfl ⟨_, rfl, hI.old 0 (by kernel_rfl), hg⟩)
  ·cases hi; exact at_op rfl rfl (move_op rfl ⟨_, rfl, hI.old 0 (by kernel_rfl), hg⟩)
  ·cases hi; exact at_op rfl rfl (nil_op rfl (hI.val hd 1 3 rfl rfl (by kernel_rfl)) ⟨_, rfl, rfl, hg⟩)
  ·cases hi; exact at_op rfl rfl (one_op (hI.val hd 2 4 rfl rfl (by kernel_rfl)) rfl (by kernel_rfl) ⟨_, rfl, rfl, hg⟩)
  ·cases hi; exact at_op rfl rfl (one_op (hI.val hd 3 5 rfl rfl (by kernel_rfl)) rfl (by kernel_rfl) ⟨_, rfl, rfl, hg⟩)
  ·cases hi
   have e0 : A.eval (.tmp 6) = .pointer (some ⟨g, 2, none⟩) := hI.val hd 4 6 rfl rfl (by kernel_rfl)
   exact at_op rfl rfl (load_op rfl Tryz.underlying2 e0 (dw hg.1.row).a ⟨_, rfl, rfl, hg⟩)
  ·cases hi; exact at_op rfl rfl (move_op rfl ⟨_, rfl, hI.old 0 (by kernel_rfl), hg⟩)
  ·cases hi; exact at_op rfl rfl (nil_op rfl (hI.val hd 6 8 rfl rfl (by kernel_rfl)) ⟨_, rfl, rfl, hg⟩)
  ·cases hi; exact at_op rfl rfl (one_op (hI.val hd 7 9 rfl rfl (by kernel_rfl)) rfl (by kernel_rfl) ⟨_, rfl, rfl, hg⟩)
  ·cases hi; exact at_op rfl rfl (one_op (hI.val hd 8 10 rfl rfl (by kernel_rfl)) rfl (by kernel_rfl) ⟨_, rfl, rfl, hg⟩)
  ·cases hi
   have e0 : A.eval (.tmp 11) = .pointer (some ⟨g, 3, none⟩) := hI.val hd 9 11 rfl rfl (by kernel_rfl)
   exact at_op rfl rfl (load_op rfl Tryz.underlying2 e0 (dw hg.1.row).b ⟨_, rfl, rfl, hg⟩)
  ·cases hi
   have e0 : A.eval (.tmp 7) = .int .i64 m.a := hI.val hd 5 7 rfl rfl (by kernel_rfl)
   have e1 : A.eval (.tmp 12) = .int .i64 m.b := hI.val hd 10 12 rfl rfl (by kernel_rfl)
   refine at_op rfl rfl (call_op rfl Tryz.func188 (by kernel_rfl) (by kernel_rfl) ?_)
   simp only [List.map_cons, List.map_nil, e0, e1]
   refine (addByte_impl _ _ _).mono ?_
   rintro e w1 ⟨rfl, rfl⟩
   exact ⟨_, rfl, _, rfl, rfl, hg⟩
  ·cases hi; exact at_op rfl rfl (one_op (hI.val hd 11 13 rfl rfl (by kernel_rfl)) rfl (by kernel_rfl) ⟨_, rfl, rfl, hg⟩)
  ·cases hi; exact at_op rfl rfl (one_op (hI.val hd 11 13 rfl rfl (by kernel_rfl)) rfl (by kernel_rfl) ⟨_, rfl, rfl, hg⟩)
  ·exact absurd rfl hne
  omega
 case last =>
  intro L o' A W hi hI hg hd
  cases hi
  have e0 : A.eval (.tmp 2) = .pointer (some ⟨g, 0, none⟩) := hI.val hd 0 2 rfl rfl (by kernel_rfl)
  have e1 : A.eval (.tmp 14) = .int .i64 (addB m.a m.b) := hI.val hd 12 14 rfl rfl (by kernel_rfl)
  have e2 : A.eval (.tmp 15) = .bool (addC m.a m.b) := hI.val hd 13 15 rfl rfl (by kernel_rfl)
  refine at_op rfl rfl (call_op rfl Tryz.func200 (by kernel_rfl) (by kernel_rfl) ?_)
  simp only [List.map_cons, List.map_nil, e0, e1, e2]
  refine (makeA_impl hg.1 _ _).mono ?_
  rintro e w1 ⟨rfl, x1, y1, h1, o1⟩
  exact ⟨_, rfl, _, rfl, rfl, .mk h1 (hg.2.trans o1)⟩
 case done =>
  intro A W hI hE
  exact ret_unit rfl hI.defers ⟨rfl, hE⟩
set_option maxRecDepth 100000 in
theorem sub_impl (h : DSt base w g x y m n (-1)) (hok : m.ok = true) (hn : bok n = true) :
  Calls Tryz.prog 202 #[.pointer (some ⟨g, 0, none⟩)] w fun e w' => e = .returned (.tuple #[]) ∧ Done base w w' g (m.does n 11).1 n (m.does n 11).2 := by
 go_enter Tryz.func202, Tryz.ntmps202
 go_wp2_with fail
 refine region_last (by kernel_rfl) (by kernel_rfl) 13 (by decide) (by kernel_rfl) (by kernel_rfl) (fun W => DSt base W g x y m n (-1) ∧ Onto g w W) (fun W => Done base w W g (m.does n 11).1 n (m.does n 11).2) [.pointer (some ⟨g, 0, none⟩), .pointer (some ⟨g, 0, none⟩), .pointer (some ⟨g, 0, none⟩), .pointer (some ⟨g, 0, none⟩), .pointer (some ⟨g, 2, none⟩), .int .i64 m.a, .pointer (some ⟨g, 0, none⟩), .pointer (some ⟨g, 0, none⟩), .pointer (some ⟨g, 25, none⟩), .int .i64 n, .tuple #[.int .i64 (subB m.a n), .bool (subC m.a n)], .int .i64 (subB m.a n), .bool (subC m.a n), .tuple #[]] ⟨h.drew, (Onto.refl g w).drew⟩ ?step ?last ?done
 case step =>
  intro L ix o' A W hne hi hI hg hd
  have hin : ix < 14 := by
   by_cases hl : ix < 14
   ·exact hl
   ·simp [hl] at hi
  rcases ix with _ | _ | _ | _ | _ | _ | _ | _ | _ | _ | _ | _ | _ | _ | ix
  ·cases hi; exact at_op rfl rfl (move_op rfl ⟨_, rfl, hI.old 0 (by kernel_rfl), hg⟩)
  ·cases hi; exact at_op rfl rfl (move_op rfl ⟨_, rfl, hI.old 0 (by kernel_rfl), hg⟩)
  ·cases hi; exact at_op rfl rfl (nil_op rfl (hI.val hd 1 3 rfl rfl (by kernel_rfl)) ⟨_, rfl, rfl, hg⟩)
  ·cases hi; exact at_op rfl rfl (one_op (hI.val hd 2 4 rfl rfl (by kernel_rfl)) rfl (by kernel_rfl) ⟨_, rfl, rfl, hg⟩)
  ·cases hi; exact at_op rfl rfl (one_op (hI.val hd 3 5 rfl rfl (by kernel_rfl)) rfl (by kernel_rfl) ⟨_, rfl, rfl, hg⟩)
  ·cases hi
   have e0 : A.eval (.tmp 6) = .pointer (some ⟨g, 2, none⟩) := hI.val hd 4 6 rfl rfl (by kernel_rfl)
   exact at_op rfl rfl (load_op rfl Tryz.underlying2 e0 (dw hg.1.row).a ⟨_, rfl, rfl, hg⟩)
  ·cases hi; exact at_op rfl rfl (move_op rfl ⟨_, rfl, hI.old 0 (by kernel_rfl), hg⟩)
  ·cases hi; exact at_op rfl rfl (nil_op rfl (hI.val hd 6 8 rfl rfl (by kernel_rfl)) ⟨_, rfl, rfl, hg⟩)
  ·cases hi; exact at_op rfl rfl (one_op (hI.val hd 7 9 rfl rfl (by kernel_rfl)) rfl (by kernel_rfl) ⟨_, rfl, rfl, hg⟩)
  ·cases hi
   have e0 : A.eval (.tmp 10) = .pointer (some ⟨g, 25, none⟩) := hI.val hd 8 10 rfl rfl (by kernel_rfl)
   exact at_op rfl rfl (load_op rfl Tryz.underlying2 e0 (dw hg.1.row).n ⟨_, rfl, rfl, hg⟩)
  ·cases hi
   have e0 : A.eval (.tmp 7) = .int .i64 m.a := hI.val hd 5 7 rfl rfl (by kernel_rfl)
   have e1 : A.eval (.tmp 11) = .int .i64 n := hI.val hd 9 11 rfl rfl (by kernel_rfl)
   refine at_op rfl rfl (call_op rfl Tryz.func203 (by kernel_rfl) (by kernel_rfl) ?_)
   simp only [List.map_cons, List.map_nil, e0, e1]
   refine (subByte_impl _ _ _).mono ?_
   rintro e w1 ⟨rfl, rfl⟩
   exact ⟨_, rfl, _, rfl, rfl, hg⟩
  ·cases hi; exact at_op rfl rfl (one_op (hI.val hd 10 12 rfl rfl (by kernel_rfl)) rfl (by kernel_rfl) ⟨_, rfl, rfl, hg⟩)
  ·cases hi; exact at_op rfl rfl (one_op (hI.val hd 10 12 rfl rfl (by kernel_rfl)) rfl (by kernel_rfl) ⟨_, rfl, rfl, hg⟩)
  ·exact absurd rfl hne
  omega
 case last =>
  intro L o' A W hi hI hg hd
  cases hi
  have e0 : A.eval (.tmp 2) = .pointer (some ⟨g, 0, none⟩) := hI.val hd 0 2 rfl rfl (by kernel_rfl)
  have e1 : A.eval (.tmp 13) = .int .i64 (subB m.a n) := hI.val hd 11 13 rfl rfl (by kernel_rfl)
  have e2 : A.eval (.tmp 14) = .bool (subC m.a n) := hI.val hd 12 14 rfl rfl (by kernel_rfl)
  refine at_op rfl rfl (call_op rfl Tryz.func200 (by kernel_rfl) (by kernel_rfl) ?_)
  simp only [List.map_cons, List.map_nil, e0, e1, e2]
  refine (makeA_impl hg.1 _ _).mono ?_
  rintro e w1 ⟨rfl, x1, y1, h1, o1⟩
  exact ⟨_, rfl, _, rfl, rfl, .mk h1 (hg.2.trans o1)⟩
 case done =>
  intro A W hI hE
  exact ret_unit rfl hI.defers ⟨rfl, hE⟩
set_option maxRecDepth 100000 in
theorem cmp_impl (h : DSt base w g x y m n (-1)) (hok : m.ok = true) (hn : bok n = true) :
  Calls Tryz.prog 204 #[.pointer (some ⟨g, 0, none⟩)] w fun e w' => e = .returned (.tuple #[]) ∧ Done base w w' g (m.does n 12).1 n (m.does n 12).2 := by
 go_enter Tryz.func204, Tryz.ntmps204
 go_wp2_with fail
 refine region_last (by kernel_rfl) (by kernel_rfl) 13 (by decide) (by kernel_rfl) (by kernel_rfl) (fun W => DSt base W g x y m n (-1) ∧ Onto g w W) (fun W => Done base w W g (m.does n 12).1 n (m.does n 12).2) [.pointer (some ⟨g, 0, none⟩), .pointer (some ⟨g, 0, none⟩), .pointer (some ⟨g, 0, none⟩), .pointer (some ⟨g, 0, none⟩), .pointer (some ⟨g, 2, none⟩), .int .i64 m.a, .pointer (some ⟨g, 0, none⟩), .pointer (some ⟨g, 0, none⟩), .pointer (some ⟨g, 25, none⟩), .int .i64 n, .tuple #[.int .i64 (subB m.a n), .bool (subC m.a n)], .int .i64 (subB m.a n), .bool (subC m.a n), .tuple #[]] ⟨h.drew, (Onto.refl g w).drew⟩ ?step ?last ?done
 case step =>
  intro L ix o' A W hne hi hI hg hd
  have hin : ix < 14 := by
   by_cases hl : ix < 14
   ·exact hl
   ·simp [hl] at hi
  rcases ix with _ | _ | _ | _ | _ | _ | _ | _ | _ | _ | _ | _ | _ | _ | ix
  ·cases hi; exact at_op rfl rfl (move_op rfl ⟨_, rfl, hI.old 0 (by kernel_rfl), hg⟩)
  ·cases hi; exact at_op rfl rfl (move_op rfl ⟨_, rfl, hI.old 0 (by kernel_rfl), hg⟩)
  ·cases hi; exact at_op rfl rfl (nil_op rfl (hI.val hd 1 3 rfl rfl (by kernel_rfl)) ⟨_, rfl, rfl, hg⟩)
  ·cases hi; exact at_op rfl rfl (one_op (hI.val hd 2 4 rfl rfl (by kernel_rfl)) rfl (by kernel_rfl) ⟨_, rfl, rfl, hg⟩)
  ·cases hi; exact at_op rfl rfl (one_op (hI.val hd 3 5 rfl rfl (by kernel_rfl)) rfl (by kernel_rfl) ⟨_, rfl, rfl, hg⟩)
  ·cases hi
   have e0 : A.eval (.tmp 6) = .pointer (some ⟨g, 2, none⟩) := hI.val hd 4 6 rfl rfl (by kernel_rfl)
   exact at_op rfl rfl (load_op rfl Tryz.underlying2 e0 (dw hg.1.row).a ⟨_, rfl, rfl, hg⟩)
  ·cases hi; exact at_op rfl rfl (move_op rfl ⟨_, rfl, hI.old 0 (by kernel_rfl), hg⟩)
  ·cases hi; exact at_op rfl rfl (nil_op rfl (hI.val hd 6 8 rfl rfl (by kernel_rfl)) ⟨_, rfl, rfl, hg⟩)
  ·cases hi; exact at_op rfl rfl (one_op (hI.val hd 7 9 rfl rfl (by kernel_rfl)) rfl (by kernel_rfl) ⟨_, rfl, rfl, hg⟩)
  ·cases hi
   have e0 : A.eval (.tmp 10) = .pointer (some ⟨g, 25, none⟩) := hI.val hd 8 10 rfl rfl (by kernel_rfl)
   exact at_op rfl rfl (load_op rfl Tryz.underlying2 e0 (dw hg.1.row).n ⟨_, rfl, rfl, hg⟩)
  ·cases hi
   have e0 : A.eval (.tmp 7) = .int .i64 m.a := hI.val hd 5 7 rfl rfl (by kernel_rfl)
   have e1 : A.eval (.tmp 11) = .int .i64 n := hI.val hd 9 11 rfl rfl (by kernel_rfl)
   refine at_op rfl rfl (call_op rfl Tryz.func203 (by kernel_rfl) (by kernel_rfl) ?_)
   simp only [List.map_cons, List.map_nil, e0, e1]
   refine (subByte_impl _ _ _).mono ?_
   rintro e w1 ⟨rfl, rfl⟩
   exact ⟨_, rfl, _, rfl, rfl, hg⟩
  ·cases hi; exact at_op rfl rfl (one_op (hI.val hd 10 12 rfl rfl (by kernel_rfl)) rfl (by kernel_rfl) ⟨_, rfl, rfl, hg⟩)
  ·cases hi; exact at_op rfl rfl (one_op (hI.val hd 10 12 rfl rfl (by kernel_rfl)) rfl (by kernel_rfl) ⟨_, rfl, rfl, hg⟩)
  ·exact absurd rfl hne
  omega
 case last =>
  intro L o' A W hi hI hg hd
  cases hi
  have e0 : A.eval (.tmp 2) = .pointer (some ⟨g, 0, none⟩) := hI.val hd 0 2 rfl rfl (by kernel_rfl)
  have e1 : A.eval (.tmp 13) = .int .i64 (subB m.a n) := hI.val hd 11 13 rfl rfl (by kernel_rfl)
  have e2 : A.eval (.tmp 14) = .bool (subC m.a n) := hI.val hd 12 14 rfl rfl (by kernel_rfl)
  refine at_op rfl rfl (call_op rfl Tryz.func205 (by kernel_rfl) (by kernel_rfl) ?_)
  simp only [List.map_cons, List.map_nil, e0, e1, e2]
  refine (mark_impl hg.1 _ _).mono ?_
  rintro e w1 ⟨rfl, x1, y1, h1, o1⟩
  exact ⟨_, rfl, _, rfl, rfl, .mk h1 (hg.2.trans o1)⟩
 case done =>
  intro A W hI hE
  exact ret_unit rfl hI.defers ⟨rfl, hE⟩
set_option maxRecDepth 100000 in
theorem and_impl (h : DSt base w g x y m n (-1)) (hok : m.ok = true) (hn : bok n = true) :
  Calls Tryz.prog 206 #[.pointer (some ⟨g, 0, none⟩)] w fun e w' => e = .returned (.tuple #[]) ∧ Done base w w' g (m.does n 13).1 n (m.does n 13).2 := by
 go_enter Tryz.func206, Tryz.ntmps206
 go_wp2_with fail
 refine region_last (by kernel_rfl) (by kernel_rfl) 11 (by decide) (by kernel_rfl) (by kernel_rfl) (fun W => DSt base W g x y m n (-1) ∧ Onto g w W) (fun W => Done base w W g (m.does n 13).1 n (m.does n 13).2) [.pointer (some ⟨g, 0, none⟩), .pointer (some ⟨g, 0, none⟩), .pointer (some ⟨g, 0, none⟩), .pointer (some ⟨g, 0, none⟩), .pointer (some ⟨g, 2, none⟩), .int .i64 m.a, .pointer (some ⟨g, 0, none⟩), .pointer (some ⟨g, 0, none⟩), .pointer (some ⟨g, 25, none⟩), .int .i64 n, .int .i64 (bits .and .i64 m.a n), .tuple #[]] ⟨h.drew, (Onto.refl g w).drew⟩ ?step ?last ?done
 case step =>
  intro L ix o' A W hne hi hI hg hd
  have hin : ix < 12 := by
   by_cases hl : ix < 12
   ·exact hl
   ·simp [hl] at hi
  rcases ix with _ | _ | _ | _ | _ | _ | _ | _ | _ | _ | _ | _ | ix
  ·cases hi; exact at_op rfl rfl (move_op rfl ⟨_, rfl, hI.old 0 (by kernel_rfl), hg⟩)
  ·cases hi; exact at_op rfl rfl (move_op rfl ⟨_, rfl, hI.old 0 (by kernel_rfl), hg⟩)
  ·cases hi; exact at_op rfl rfl (nil_op rfl (hI.val hd 1 3 rfl rfl (by kernel_rfl)) ⟨_, rfl, rfl, hg⟩)
  ·cases hi; exact at_op rfl rfl (one_op (hI.val hd 2 4 rfl rfl (by kernel_rfl)) rfl (by kernel_rfl) ⟨_, rfl, rfl, hg⟩)
  ·cases hi; exact at_op rfl rfl (one_op (hI.val hd 3 5 rfl rfl (by kernel_rfl)) rfl (by kernel_rfl) ⟨_, rfl, rfl, hg⟩)
  ·cases hi
   have e0 : A.eval (.tmp 6) = .pointer (some ⟨g, 2, none⟩) := hI.val hd 4 6 rfl rfl (by kernel_rfl)
   exact at_op rfl rfl (load_op rfl Tryz.underlying2 e0 (dw hg.1.row).a ⟨_, rfl, rfl, hg⟩)
  ·cases hi; exact at_op rfl rfl (move_op rfl ⟨_, rfl, hI.old 0 (by kernel_rfl), hg⟩)
  ·cases hi; exact at_op rfl rfl (nil_op rfl (hI.val hd 6 8 rfl rfl (by kernel_rfl)) ⟨_, rfl, rfl, hg⟩)
  ·cases hi; exact at_op rfl rfl (one_op (hI.val hd 7 9 rfl rfl (by kernel_rfl)) rfl (by kernel_rfl) ⟨_, rfl, rfl, hg⟩)
  ·cases hi
   have e0 : A.eval (.tmp 10) = .pointer (some ⟨g, 25, none⟩) := hI.val hd 8 10 rfl rfl (by kernel_rfl)
   exact at_op rfl rfl (load_op rfl Tryz.underlying2 e0 (dw hg.1.row).n ⟨_, rfl, rfl, hg⟩)
  ·cases hi
   have e0 : A.eval (.tmp 7) = .int .i64 m.a := hI.val hd 5 7 rfl rfl (by kernel_rfl)
   have e1 : A.eval (.tmp 11) = .int .i64 n := hI.val hd 9 11 rfl rfl (by kernel_rfl)
   exact at_op rfl rfl (bin_op rfl e0 e1 (fun w => by simp [go_sem]) ⟨_, rfl, rfl, hg⟩)
  ·exact absurd rfl hne
  omega
 case last =>
  intro L o' A W hi hI hg hd
  cases hi
  have e0 : A.eval (.tmp 2) = .pointer (some ⟨g, 0, none⟩) := hI.val hd 0 2 rfl rfl (by kernel_rfl)
  have e1 : A.eval (.tmp 12) = .int .i64 (bits .and .i64 m.a n) := hI.val hd 10 12 rfl rfl (by kernel_rfl)
  refine at_op rfl rfl (call_op rfl Tryz.func200 (by kernel_rfl) (by kernel_rfl) ?_)
  simp only [List.map_cons, List.map_nil, e0, e1]
  refine (makeA_impl hg.1 _ _).mono ?_
  rintro e w1 ⟨rfl, x1, y1, h1, o1⟩
  exact ⟨_, rfl, _, rfl, rfl, .mk h1 (hg.2.trans o1)⟩
 case done =>
  intro A W hI hE
  exact ret_unit rfl hI.defers ⟨rfl, hE⟩
set_option maxRecDepth 100000 in
theorem xor_impl (h : DSt base w g x y m n (-1)) (hok : m.ok = true) (hn : bok n = true) :
  Calls Tryz.prog 207 #[.pointer (some ⟨g, 0, none⟩)] w fun e w' => e = .returned (.tuple #[]) ∧ Done base w w' g (m.does n 14).1 n (m.does n 14).2 := by
 go_enter Tryz.func207, Tryz.ntmps207
 go_wp2_with fail
 refine region_last (by kernel_rfl) (by kernel_rfl) 11 (by decide) (by kernel_rfl) (by kernel_rfl) (fun W => DSt base W g x y m n (-1) ∧ Onto g w W) (fun W => Done base w W g (m.does n 14).1 n (m.does n 14).2) [.pointer (some ⟨g, 0, none⟩), .pointer (some ⟨g, 0, none⟩), .pointer (some ⟨g, 0, none⟩), .pointer (some ⟨g, 0, none⟩), .pointer (some ⟨g, 2, none⟩), .int .i64 m.a, .pointer (some ⟨g, 0, none⟩), .pointer (some ⟨g, 0, none⟩), .pointer (some ⟨g, 25, none⟩), .int .i64 n, .int .i64 (bits .xor .i64 m.a n), .tuple #[]] ⟨h.drew, (Onto.refl g w).drew⟩ ?step ?last ?done
 case step =>
  intro L ix o' A W hne hi hI hg hd
  have hin : ix < 12 := by
   by_cases hl : ix < 12
   ·exact hl
   ·simp [hl] at hi
  rcases ix with _ | _ | _ | _ | _ | _ | _ | _ | _ | _ | _ | _ | ix
  ·cases hi; exact at_op rfl rfl (move_op rfl ⟨_, rfl, hI.old 0 (by kernel_rfl), hg⟩)
  ·cases hi; exact at_op rfl rfl (move_op rfl ⟨_, rfl, hI.old 0 (by kernel_rfl), hg⟩)
  ·cases hi; exact at_op rfl rfl (nil_op rfl (hI.val hd 1 3 rfl rfl (by kernel_rfl)) ⟨_, rfl, rfl, hg⟩)
  ·cases hi; exact at_op rfl rfl (one_op (hI.val hd 2 4 rfl rfl (by kernel_rfl)) rfl (by kernel_rfl) ⟨_, rfl, rfl, hg⟩)
  ·cases hi; exact at_op rfl rfl (one_op (hI.val hd 3 5 rfl rfl (by kernel_rfl)) rfl (by kernel_rfl) ⟨_, rfl, rfl, hg⟩)
  ·cases hi
   have e0 : A.eval (.tmp 6) = .pointer (some ⟨g, 2, none⟩) := hI.val hd 4 6 rfl rfl (by kernel_rfl)
   exact at_op rfl rfl (load_op rfl Tryz.underlying2 e0 (dw hg.1.row).a ⟨_, rfl, rfl, hg⟩)
  ·cases hi; exact at_op rfl rfl (move_op rfl ⟨_, rfl, hI.old 0 (by kernel_rfl), hg⟩)
  ·cases hi; exact at_op rfl rfl (nil_op rfl (hI.val hd 6 8 rfl rfl (by kernel_rfl)) ⟨_, rfl, rfl, hg⟩)
  ·cases hi; exact at_op rfl rfl (one_op (hI.val hd 7 9 rfl rfl (by kernel_rfl)) rfl (by kernel_rfl) ⟨_, rfl, rfl, hg⟩)
  ·cases hi
   have e0 : A.eval (.tmp 10) = .pointer (some ⟨g, 25, none⟩) := hI.val hd 8 10 rfl rfl (by kernel_rfl)
   exact at_op rfl rfl (load_op rfl Tryz.underlying2 e0 (dw hg.1.row).n ⟨_, rfl, rfl, hg⟩)
  ·cases hi
   have e0 : A.eval (.tmp 7) = .int .i64 m.a := hI.val hd 5 7 rfl rfl (by kernel_rfl)
   have e1 : A.eval (.tmp 11) = .int .i64 n := hI.val hd 9 11 rfl rfl (by kernel_rfl)
   exact at_op rfl rfl (bin_op rfl e0 e1 (fun w => by simp [go_sem]) ⟨_, rfl, rfl, hg⟩)
  ·exact absurd rfl hne
  omega
 case last =>
  intro L o' A W hi hI hg hd
  cases hi
  have e0 : A.eval (.tmp 2) = .pointer (some ⟨g, 0, none⟩) := hI.val hd 0 2 rfl rfl (by kernel_rfl)
  have e1 : A.eval (.tmp 12) = .int .i64 (bits .xor .i64 m.a n) := hI.val hd 10 12 rfl rfl (by kernel_rfl)
  refine at_op rfl rfl (call_op rfl Tryz.func200 (by kernel_rfl) (by kernel_rfl) ?_)
  simp only [List.map_cons, List.map_nil, e0, e1]
  refine (makeA_impl hg.1 _ _).mono ?_
  rintro e w1 ⟨rfl, x1, y1, h1, o1⟩
  exact ⟨_, rfl, _, rfl, rfl, .mk h1 (hg.2.trans o1)⟩
 case done =>
  intro A W hI hE
  exact ret_unit rfl hI.defers ⟨rfl, hE⟩
theorem rol_impl (h : DSt base w g x y m n (-1)) (hok : m.ok = true) (hn : bok n = true) :
  Calls Tryz.prog 208 #[.pointer (some ⟨g, 0, none⟩)] w fun e w' => e = .returned (.tuple #[]) ∧ Done base w w' g (m.does n 15).1 n (m.does n 15).2 := by
 have hc := (dw h.row).a
 go_enter Tryz.func208, Tryz.ntmps208
 go_wp2_with (first
  | (go_at_call 209; refine (turnedLeft_impl _ _).mono ?_; rintro e w0 ⟨rfl, rfl⟩)
  | (go_at_call 200; refine (makeA_impl h _ _).mono ?_; rintro e w1 ⟨rfl, x1, y1, h1, o1⟩))
 refine ret_unit rfl rfl ?_
 exact ⟨rfl, .mk h1 o1⟩
theorem ror_impl (h : DSt base w g x y m n (-1)) (hok : m.ok = true) (hn : bok n = true) :
  Calls Tryz.prog 210 #[.pointer (some ⟨g, 0, none⟩)] w fun e w' => e = .returned (.tuple #[]) ∧ Done base w w' g (m.does n 16).1 n (m.does n 16).2 := by
 have hc := (dw h.row).a
 go_enter Tryz.func210, Tryz.ntmps210
 go_wp2_with (first
  | (go_at_call 211; refine (turnedRight_impl _ _).mono ?_; rintro e w0 ⟨rfl, rfl⟩)
  | (go_at_call 200; refine (makeA_impl h _ _).mono ?_; rintro e w1 ⟨rfl, x1, y1, h1, o1⟩))
 refine ret_unit rfl rfl ?_
 exact ⟨rfl, .mk h1 o1⟩
theorem inb_impl (h : DSt base w g x y m n (-1)) (hok : m.ok = true) (hn : bok n = true) :
  Calls Tryz.prog 212 #[.pointer (some ⟨g, 0, none⟩)] w fun e w' => e = .returned (.tuple #[]) ∧ Done base w w' g (m.does n 17).1 n (m.does n 17).2 := by
 have hc := (dw h.row).b
 go_enter Tryz.func212, Tryz.ntmps212
 go_wp2_with (first
  | (go_at_call 188; refine (addByte_impl _ _ _).mono ?_; rintro e w0 ⟨rfl, rfl⟩)
  | (go_at_call 213; refine (countB_impl h _ _).mono ?_; rintro e w1 ⟨rfl, x1, y1, h1, o1⟩))
 refine ret_unit rfl rfl ?_
 exact ⟨rfl, .mk h1 o1⟩
theorem deb_impl (h : DSt base w g x y m n (-1)) (hok : m.ok = true) (hn : bok n = true) :
  Calls Tryz.prog 214 #[.pointer (some ⟨g, 0, none⟩)] w fun e w' => e = .returned (.tuple #[]) ∧ Done base w w' g (m.does n 18).1 n (m.does n 18).2 := by
 have hc := (dw h.row).b
 go_enter Tryz.func214, Tryz.ntmps214
 go_wp2_with (first
  | (go_at_call 203; refine (subByte_impl _ _ _).mono ?_; rintro e w0 ⟨rfl, rfl⟩)
  | (go_at_call 213; refine (countB_impl h _ _).mono ?_; rintro e w1 ⟨rfl, x1, y1, h1, o1⟩))
 refine ret_unit rfl rfl ?_
 exact ⟨rfl, .mk h1 o1⟩
theorem jmp_impl (h : DSt base w g x y m n (-1)) (hok : m.ok = true) (hn : bok n = true) :
  Calls Tryz.prog 215 #[.pointer (some ⟨g, 0, none⟩)] w fun e w' => e = .returned (.tuple #[]) ∧ Done base w w' g (m.does n 19).1 n (m.does n 19).2 := by
 go_enter Tryz.func215, Tryz.ntmps215
 go_wp2_with (first
  | (go_at_call 216; refine (jumpWhere_impl h _).mono ?_; rintro e w1 ⟨rfl, x1, y1, h1, o1⟩))
 refine ret_unit rfl rfl ?_
 exact ⟨rfl, .mk h1 o1⟩
theorem jpz_impl (h : DSt base w g x y m n (-1)) (hok : m.ok = true) (hn : bok n = true) :
  Calls Tryz.prog 217 #[.pointer (some ⟨g, 0, none⟩)] w fun e w' => e = .returned (.tuple #[]) ∧ Done base w w' g (m.does n 20).1 n (m.does n 20).2 := by
 have hc := (dw h.row).z
 go_enter Tryz.func217, Tryz.ntmps217
 go_wp2_with (first
  | (go_at_call 216; refine (jumpWhere_impl h _).mono ?_; rintro e w1 ⟨rfl, x1, y1, h1, o1⟩))
 refine ret_unit rfl rfl ?_
 exact ⟨rfl, .mk h1 o1⟩
theorem jnz_impl (h : DSt base w g x y m n (-1)) (hok : m.ok = true) (hn : bok n = true) :
  Calls Tryz.prog 218 #[.pointer (some ⟨g, 0, none⟩)] w fun e w' => e = .returned (.tuple #[]) ∧ Done base w w' g (m.does n 21).1 n (m.does n 21).2 := by
 have hc := (dw h.row).z
 go_enter Tryz.func218, Tryz.ntmps218
 go_wp2_with (first
  | (go_at_call 216; refine (jumpWhere_impl h _).mono ?_; rintro e w1 ⟨rfl, x1, y1, h1, o1⟩))
 refine ret_unit rfl rfl ?_
 exact ⟨rfl, .mk h1 o1⟩
theorem jpc_impl (h : DSt base w g x y m n (-1)) (hok : m.ok = true) (hn : bok n = true) :
  Calls Tryz.prog 219 #[.pointer (some ⟨g, 0, none⟩)] w fun e w' => e = .returned (.tuple #[]) ∧ Done base w w' g (m.does n 22).1 n (m.does n 22).2 := by
 have hc := (dw h.row).c
 go_enter Tryz.func219, Tryz.ntmps219
 go_wp2_with (first
  | (go_at_call 216; refine (jumpWhere_impl h _).mono ?_; rintro e w1 ⟨rfl, x1, y1, h1, o1⟩))
 refine ret_unit rfl rfl ?_
 exact ⟨rfl, .mk h1 o1⟩
theorem cal_impl (h : DSt base w g x y m n (-1)) (hok : m.ok = true) (hn : bok n = true) :
  Calls Tryz.prog 220 #[.pointer (some ⟨g, 0, none⟩)] w fun e w' => e = .returned (.tuple #[]) ∧ Done base w w' g (m.does n 23).1 n (m.does n 23).2 := by
 have hc := (dw h.row).pc
 go_enter Tryz.func220, Tryz.ntmps220
 go_wp2_with (first
  | (go_at_call 184; refine (push_impl h hok _ (okm.1 hok).pc).mono ?_; rintro e w1 ⟨rfl, x1, y1, h1, o1⟩; have hc1 := (dw h1.row).n)
  | (refine st_dn (m' := (m.does n 23).1) (n' := n) (o' := (m.does n 23).2) rfl rfl rfl rfl h1.row rfl rfl ?_; intro w2 r2 o2 s2))
 refine ret_unit rfl rfl ?_
 exact ⟨rfl, .mk (h1.set r2 o2 rfl rfl) (o1.trans o2)⟩
theorem ret_impl (h : DSt base w g x y m n (-1)) (hok : m.ok = true) (hn : bok n = true) :
  Calls Tryz.prog 221 #[.pointer (some ⟨g, 0, none⟩)] w fun e w' => e = .returned (.tuple #[]) ∧ Done base w w' g (m.does n 24).1 n (m.does n 24).2 := by
 go_enter Tryz.func221, Tryz.ntmps221
 go_wp2_with (first
  | (go_at_call 222; refine (popped_impl h hok).mono ?_; rintro e w1 ⟨rfl, x1, y1, h1, o1⟩)
  | (refine st_dn (m' := (m.does n 24).1) (n' := n) (o' := -1) rfl rfl rfl rfl h1.row rfl rfl ?_; intro w2 r2 o2 s2; have h2 := h1.set r2 o2 rfl rfl))
 refine ret_unit rfl rfl ?_
 exact ⟨rfl, .mk h2 (o1.trans o2)⟩
theorem psh_impl (h : DSt base w g x y m n (-1)) (hok : m.ok = true) (hn : bok n = true) :
  Calls Tryz.prog 223 #[.pointer (some ⟨g, 0, none⟩)] w fun e w' => e = .returned (.tuple #[]) ∧ Done base w w' g (m.does n 25).1 n (m.does n 25).2 := by
 have hc := (dw h.row).a
 go_enter Tryz.func223, Tryz.ntmps223
 go_wp2_with (first
  | (go_at_call 184; refine (push_impl h hok _ (okm.1 hok).a).mono ?_; rintro e w1 ⟨rfl, x1, y1, h1, o1⟩; have hc1 := (dw h1.row).n))
 refine ret_unit rfl rfl ?_
 exact ⟨rfl, .mk h1 o1⟩
theorem pop_impl (h : DSt base w g x y m n (-1)) (hok : m.ok = true) (hn : bok n = true) :
  Calls Tryz.prog 224 #[.pointer (some ⟨g, 0, none⟩)] w fun e w' => e = .returned (.tuple #[]) ∧ Done base w w' g (m.does n 26).1 n (m.does n 26).2 := by
 go_enter Tryz.func224, Tryz.ntmps224
 go_wp2_with (first
  | (go_at_call 222; refine (popped_impl h hok).mono ?_; rintro e w1 ⟨rfl, x1, y1, h1, o1⟩)
  | (refine st_dn (m' := (m.does n 26).1) (n' := n) (o' := -1) rfl rfl rfl rfl h1.row rfl rfl ?_; intro w2 r2 o2 s2; have h2 := h1.set r2 o2 rfl rfl))
 refine ret_unit rfl rfl ?_
 exact ⟨rfl, .mk h2 (o1.trans o2)⟩
theorem eni_impl (h : DSt base w g x y m n (-1)) (hok : m.ok = true) (hn : bok n = true) :
  Calls Tryz.prog 225 #[.pointer (some ⟨g, 0, none⟩)] w fun e w' => e = .returned (.tuple #[]) ∧ Done base w w' g (m.does n 27).1 n (m.does n 27).2 := by
 go_enter Tryz.func225, Tryz.ntmps225
 go_wp2_with (refine st_db (m' := (m.does n 27).1) rfl rfl rfl rfl h.row rfl rfl ?_; intro w1 r1 o1 s1)
 refine ret_unit rfl rfl ?_
 exact ⟨rfl, .mk (h.set r1 o1 rfl rfl) o1⟩
theorem dis_impl (h : DSt base w g x y m n (-1)) (hok : m.ok = true) (hn : bok n = true) :
  Calls Tryz.prog 226 #[.pointer (some ⟨g, 0, none⟩)] w fun e w' => e = .returned (.tuple #[]) ∧ Done base w w' g (m.does n 28).1 n (m.does n 28).2 := by
 go_enter Tryz.func226, Tryz.ntmps226
 go_wp2_with (refine st_db (m' := (m.does n 28).1) rfl rfl rfl rfl h.row rfl rfl ?_; intro w1 r1 o1 s1)
 refine ret_unit rfl rfl ?_
 exact ⟨rfl, .mk (h.set r1 o1 rfl rfl) o1⟩
theorem rti_impl (h : DSt base w g x y m n (-1)) (hok : m.ok = true) (hn : bok n = true) :
  Calls Tryz.prog 227 #[.pointer (some ⟨g, 0, none⟩)] w fun e w' => e = .returned (.tuple #[]) ∧ Done base w w' g (m.does n 29).1 n (m.does n 29).2 := by
 go_enter Tryz.func227, Tryz.ntmps227
 go_wp2_with (first
  | (go_at_call 222; refine (popped_impl h hok).mono ?_; rintro e w1 ⟨rfl, x1, y1, h1, o1⟩)
  | (refine st_dn (m' := { m.popd with pc := m.top }) (n' := n) (o' := -1) rfl rfl rfl rfl h1.row rfl rfl ?_; intro w2 r2 o2 s2; have h2 := h1.set r2 o2 rfl rfl)
  | (refine st_db (m' := (m.does n 29).1) rfl rfl rfl rfl h2.row rfl rfl ?_; intro w3 r3 o3 s3))
 refine ret_unit rfl rfl ?_
 exact ⟨rfl, .mk (h2.set r3 o3 rfl rfl) ((o1.trans o2).trans o3)⟩
theorem hlt_impl (h : DSt base w g x y m n (-1)) (hok : m.ok = true) (hn : bok n = true) :
  Calls Tryz.prog 228 #[.pointer (some ⟨g, 0, none⟩)] w fun e w' => e = .returned (.tuple #[]) ∧ Done base w w' g (m.does n 30).1 n (m.does n 30).2 := by
 go_enter Tryz.func228, Tryz.ntmps228
 go_wp2_with (refine st_db (m' := (m.does n 30).1) rfl rfl rfl rfl h.row rfl rfl ?_; intro w1 r1 o1 s1)
 refine ret_unit rfl rfl ?_
 exact ⟨rfl, .mk (h.set r1 o1 rfl rfl) o1⟩
end
end Go.Proofs.YtghmkacamabndaaGreatDoor.Mem
namespace Go.Proofs.YtghmkacamabndaaGreatDoor.Mem
open Go.ChangeShapes Go.WideShapes Go.RowKit Base Num Slc Rw Tmr Srl Rom RomOf Opl Reg

theorem interruptBit_impl (i : Int) (w : World) (hi : i = 0 ∨ i = 1 ∨ i = 2) :
  Calls Tryz.prog 166 #[.int .i64 i] w fun e w' => e = .returned (.int .i64 (bitOf i)) ∧ w = w' := by
 rcases hi with rfl | rfl | rfl
 all_goals
  go_enter Tryz.func166, Tryz.ntmps166
  go_wp2
  go_ret
  exact ⟨rfl, rfl⟩
theorem and_bit (f : Int) (h0 : 0 ≤ f) (h7 : f ≤ 7) (k : Nat) (hk : k < 3) : (bits .and .i64 f (bitOf (k : Int)) == 0) = decide (¬ f / 2 ^ k % 2 = 1) := by
 have h : ∀ a : Fin 8, ∀ b : Fin 3, (bits .and .i64 (a.val : Int) (bitOf (b.val : Int)) == 0) = decide (¬ (a.val : Int) / 2 ^ b.val % 2 = 1) := by decide +kernel
 obtain ⟨n, rfl⟩ : ∃ n : Nat, f = (n : Int) := ⟨f.toNat, by omega⟩
 exact h ⟨n, by omega⟩ ⟨k, hk⟩
set_option maxRecDepth 100000 in
theorem firstInBoth_impl (f s : Int) (w : World) (hf : 0 ≤ f ∧ f ≤ 7) (hs : 0 ≤ s ∧ s ≤ 7) :
  Calls Tryz.prog 183 #[.int .i64 f, .int .i64 s] w fun e w' => e = .returned (.int .i64 (pend f s)) ∧ ∃ n, w' = w.drewN n := by
 have HF : Hid (∀ k : Nat, k < 3 → (bits .and .i64 f (bitOf (k : Int)) == 0) = decide (¬ f / 2 ^ k % 2 = 1)) := fun k hk => and_bit f hf.1 hf.2 k hk
 have HS : Hid (∀ k : Nat, k < 3 → (bits .and .i64 s (bitOf (k : Int)) == 0) = decide (¬ s / 2 ^ k % 2 = 1)) := fun k hk => and_bit s hs.1 hs.2 k hk
 have HP : Hid (∀ k : Nat, k < 3 → noneTo f s k → f / 2 ^ k % 2 = 1 → s / 2 ^ k % 2 = 1 → pend f s = k) := fun k hk h h1 h2 => pend_at hk h h1 h2
 have HN : Hid (noneTo f s 3 → pend f s = -1) := fun h => pend_no h
 clear hf hs
 have i0 : ∀ w, (Instr.index 204 (.agg #[.int .i64 f, .int .i64 s]) (.int .i64 0)).run Tryz.prog w = .ok (.int .i64 f) w := fun w => by kernel_rfl
 have i1 : ∀ w, (Instr.index 204 (.agg #[.int .i64 f, .int .i64 s]) (.int .i64 1)).run Tryz.prog w = .ok (.int .i64 s) w := fun w => by kernel_rfl
 go_enter Tryz.func183, Tryz.ntmps183
 go_wp2
 go_step3
 go_wp2
 go_step3
 go_wp2
 go_loopw [8] (fun i wr => ∃ k : Nat, k ≤ 3 ∧ i = .int .i64 k ∧ noneTo f s k ∧ ∃ n, wr = w.drewN n) (fun i _ => 3 - (intOf i).toNat)
 case atStart => exact ⟨0, by omega, rfl, fun j hj => by omega, 0, rfl⟩
 case round =>
  obtain ⟨k, hk, rfl, hn, n, rfl⟩ := hrel
  by_cases h3 : k = 3
  ·subst h3
   have hp := HN.out hn
   go_wp2
   try rw [Exit.noGoto_ret]
   go_ret
   exact ⟨ret_int (by rw [hp]), n, rfl⟩
  ·have hk3 : k < 3 := by omega
   have a1 := HF.out k hk3
   have a2 := HS.out k hk3
   have a3 := HP.out k hk3 hn
   have a4 : ¬ (f / 2 ^ k % 2 = 1 ∧ s / 2 ^ k % 2 = 1) → noneTo f s (k + 1) := noneTo_succ hn
   obtain ⟨b, HB⟩ : ∃ b, Hid (bitOf (k : Int) = b) := ⟨_, show _ = _ from rfl⟩
   rw [HB.out] at a1 a2
   have hkd : decide ((k : Int) < 3) = true := by simp; omega
   clear HF HS HP HN h3 hk
   by_cases h1 : f / 2 ^ k % 2 = 1
   ·simp only [h1, not_true, decide_false] at a1
    by_cases h2 : s / 2 ^ k % 2 = 1
    ·simp only [h2, not_true, decide_false] at a2
     have HE : Hid (pend f s = k) := a3 h1 h2
     clear a3 a4 h1 h2 hn
     go_wp2
     go_loopw [14] (fun j wr => ∃ q : Nat, q ≤ 2 ∧ j = .int .i64 q ∧ ∃ n, wr = w.drewN n) (fun j _ => 2 - (intOf j).toNat)
     case atStart => exact ⟨0, by omega, rfl, n, rfl⟩
     case round =>
      obtain ⟨q, hq, rfl, n', rfl⟩ := hrel
      obtain rfl | rfl | rfl : q = 0 ∨ q = 1 ∨ q = 2 := by omega
      ·go_wp2_with (go_at_call 166; refine (interruptBit_impl _ _ (by omega)).mono ?_; rintro e w1 ⟨rfl, rfl⟩; rw [HB.out])
       go_roundw
       case rel => exact ⟨1, by omega, rfl, n', rfl⟩
       case measure => simp [intOf]
      ·go_wp2_with (go_at_call 166; refine (interruptBit_impl _ _ (by omega)).mono ?_; rintro e w1 ⟨rfl, rfl⟩; rw [HB.out])
       go_roundw
       case rel => exact ⟨2, by omega, rfl, n', rfl⟩
       case measure => simp [intOf]
      ·go_wp2
       try rw [Exit.noGoto_ret]
       go_ret
       exact ⟨ret_int (by rw [HE.out]), n', rfl⟩
    ·simp only [h2, not_false_eq_true, decide_true] at a2
     have HE : Hid (noneTo f s (k + 1)) := a4 (fun e => h2 e.2)
     clear a3 a4 h1 h2 hn
     go_wp2
     go_loopw [14] (fun j wr => ∃ q : Nat, q ≤ 1 ∧ j = .int .i64 q ∧ ∃ n, wr = w.drewN n) (fun j _ => 2 - (intOf j).toNat)
     case atStart => exact ⟨0, by omega, rfl, n, rfl⟩
     case round =>
      obtain ⟨q, hq, rfl, n', rfl⟩ := hrel
      obtain rfl | rfl : q = 0 ∨ q = 1 := by omega
      ·go_wp2_with (go_at_call 166; refine (interruptBit_impl _ _ (by omega)).mono ?_; rintro e w1 ⟨rfl, rfl⟩; rw [HB.out])
       go_roundw
       case rel => exact ⟨1, by omega, rfl, n', rfl⟩
       case measure => simp [intOf]
      ·go_wp2_with (go_at_call 166; refine (interruptBit_impl _ _ (by omega)).mono ?_; rintro e w1 ⟨rfl, rfl⟩; rw [HB.out])
       go_roundw
       case rel => exact ⟨k + 1, by omega, by go_num, HE.out, n', rfl⟩
       case measure => simp [intOf]; omega
   ·simp only [h1, not_false_eq_true, decide_true] at a1
    have HE : Hid (noneTo f s (k + 1)) := a4 (fun e => h1 e.1)
    clear a3 a4 h1 hn a2
    go_wp2
    go_loopw [14] (fun j wr => j = .int .i64 0 ∧ ∃ n, wr = w.drewN n) (fun j _ => 2 - (intOf j).toNat)
    case atStart => exact ⟨rfl, n, rfl⟩
    case round =>
     obtain ⟨rfl, n', rfl⟩ := hrel
     go_wp2_with (go_at_call 166; refine (interruptBit_impl _ _ (by omega)).mono ?_; rintro e w1 ⟨rfl, rfl⟩; rw [HB.out])
     go_roundw
     case rel => exact ⟨k + 1, by omega, by go_num, HE.out, n', rfl⟩
     case measure => simp [intOf]; omega
theorem pendingIn_impl (v : Value) (m : Mc) (w : World) (hm : MSl w v m) :
  Calls Tryz.prog 154 #[v] w fun e w' => e = .returned (.int .i64 m.pendIn) ∧ Below w.heap.size w w' := by
 obtain ⟨vr, va, hv, hr, ha⟩ := hm
 have HP : Hid (m.pendIn = if m.ok then m.pend else -1) := show _ = _ from rfl
 cases hok : m.ok
 ·go_enter Tryz.func154, Tryz.ntmps154
  go_wp2_with (first
   | (refine box_m rfl rfl hv ?_; intro w0 r0 hB0)
   | (refine ld_mc rfl rfl rfl r0 ?_)
   | (go_at_call 20; refine (machineOk_impl _ m _ ⟨vr, va, rfl, hr.below hB0, ha.below hB0⟩).mono ?_; rintro e w2 ⟨rfl, hb2⟩; rw [hok]; have hB3 := hB0.trans (hb2.mono hB0.size)))
  go_ret
  exact ⟨ret_int (by rw [HP.out, hok]; rfl), hB3⟩
 ·obtain ⟨hf, hs⟩ := Mc.ok_parts hok
  go_enter Tryz.func154, Tryz.ntmps154
  go_wp2_with (first
   | (refine box_m rfl rfl hv ?_; intro w0 r0 hB0)
   | (refine ld_mc rfl rfl rfl r0 ?_)
   | (go_at_call 20; refine (machineOk_impl _ m _ ⟨vr, va, rfl, hr.below hB0, ha.below hB0⟩).mono ?_; rintro e w2 ⟨rfl, hb2⟩; rw [hok]; have hB3 := hB0.trans (hb2.mono hB0.size); replace r0 := r0.below hb2; have k1 := (cw r0).fl; have k2 := (cw r0).ms)
   | (go_at_call 183; refine (firstInBoth_impl _ _ _ hf hs).mono ?_; rintro e w3 ⟨rfl, n3, h3⟩; have hB4 := hB3.trans ((drew_below h3).mono hB3.size); clear h3))
  go_ret
  exact ⟨ret_int (by rw [HP.out, hok]; rfl), hB4⟩
theorem sub64 (i j : Int) (x y : Operand) (w : World) (h0 : -9223372036854775808 ≤ i - j) (h1 : i - j ≤ 9223372036854775807) : (do eqGuard .sub 2 x y (.int .i64 i) (.int .i64 j); binOp .sub 2 (.int .i64 i) (.int .i64 j) : Sem Value).run Tryz.prog w = .ok (.int .i64 (i - j)) w := by
 have e : IntKind.i64.wrap (i - j) = i - j := by
  simp [IntKind.wrap, IntKind.bits, IntKind.signed]
  omega
 have : (do eqGuard .sub 2 x y (.int .i64 i) (.int .i64 j); binOp .sub 2 (.int .i64 i) (.int .i64 j) : Sem Value).run Tryz.prog w = .ok (.int .i64 (IntKind.i64.wrap (i - j))) w := by simp [go_sem]
 rw [this, e]
theorem own_not_row {base : Nat} {w : World} {v : Value} {l : List Int} {g : Nat} {cs : Array Value} {T : TypeId} (h : Own base w v l) (hr : Row w g cs T) (hT : T ≠ 2) : v.ownBlock ≠ some g := fun e => by
 rcases h.2 with ⟨rfl, _⟩ | ⟨g', cap, cur, rfl, _, hb, _⟩
 ·simp [Value.ownBlock] at e
 ·have e' : g' = g := Option.some.inj e
  rw [e', hr.row] at hb
  simp only [Option.some.injEq, Obj.cells.injEq] at hb
  exact hT hb.2.1
structure Ca (w : World) (base gr : Nat) (x y : Value) (m M : Mc) (W : World) : Prop where
 row : MRow W w.heap.size x y M
 res : MRow W gr nil64 nil64 Mc.nul
 ow : Ow base W x y m
 bel : Below w.heap.size w W
theorem Ca.drew {w : World} {base gr : Nat} {x y : Value} {m M : Mc} {W : World} (h : Ca w base gr x y m M W) : Ca w base gr x y m M W.drew :=
 ⟨h.row.drewN 1, h.res.drewN 1, h.ow.below (drew_below (n := 1) rfl), h.bel.drew⟩
theorem dall0 {x y : Value} (hx : x.oneCell' = true) (hy : y.oneCell' = true) (m : Mc) (n o : Int) : (dcells x y m n o).all (·.oneCell') = true := by
 unfold Value.oneCell' at hx hy
 simp only [dcells, List.all_toArray, List.all_cons, List.all_nil, Value.oneCell', hx, hy, Bool.and_true]
section
variable {ops : Array Oper} {rest : List Oper} {o : Oper} {a : Act} {w : World} {Q : Exit → Act → World → Prop} {p q : Operand} {g k : Nat} {x y : Value} {m : Mc}
theorem al_d0 (hgd : o.guard = none) (ho : o.op = .alloc 164)
  (h : ∀ w', DRow w' w.heap.size nil64 nil64 Mc.nul 0 0 → Below w.heap.size w w' → wpList Tryz.prog ops Q rest (a.put o.dst (.pointer (some ⟨w.heap.size, 0, none⟩))) w') : wpList Tryz.prog ops Q (o :: rest) a w :=
 wpList_plain hgd fun _ hK => by
  have e : (execOp a.eval o).run Tryz.prog w = .ok (.value (.pointer (some ⟨w.heap.size, 0, none⟩))) (w.alloc (.cells (dcells nil64 nil64 Mc.nul 0 0) 164)) := by
   unfold execOp
   rw [ho]
   kernel_rfl
  unfold Oper.wp
  rw [e]
  exact hK _ _ (h _ (Row.new _ _ _) ((Below.refl _ _).alloc (Nat.le_refl _) _))
theorem st_d0 {x0 y0 : Value} {m0 : Mc} {n0 o0 n1 o1 : Int} (hgd : o.guard = none) (ho : o.op = .store 164 p q) (hx : a.eval p = .pointer (some ⟨g, 0, none⟩)) (hy : a.eval q = .agg (dcells x y m n1 o1)) (hr : DRow w g x0 y0 m0 n0 o0) (h1 : x.oneCell' = true) (h2 : y.oneCell' = true)
  (h : ∀ w', DRow w' g x y m n1 o1 → Onto g w w' → w'.heap.size = w.heap.size → wpList Tryz.prog ops Q rest (a.put o.dst undef) w') : wpList Tryz.prog ops Q (o :: rest) a w :=
 st_row hgd _ p q ho hx hy hr info_de rfl (dall0 h1 h2 m _ _) h
end
theorem built_d0 (x y : Value) (m : Mc) : Tryz.prog.built 164 [(0, m.val x y)] = some (dcells x y m 0 0) := by kernel_rfl
theorem bd_d0 {ops : Array Oper} {rest : List Oper} {o : Oper} {a : Act} {w : World} {Q : Exit → Act → World → Prop} {p : Operand} {x y : Value} {m : Mc} (hgd : o.guard = none) (ho : o.op = .build 164 #[(0, p)]) (hp : a.eval p = m.val x y) (h : wpList Tryz.prog ops Q rest (a.put o.dst (.agg (dcells x y m 0 0))) w) : wpList Tryz.prog ops Q (o :: rest) a w :=
 wpList_plain hgd fun _ hK => build_op (parts := [(0, p)]) (vals := [(0, m.val x y)]) ho (by simp only [List.map_cons, List.map_nil, hp]) (built_d0 x y m) (hK _ _ h)
theorem push_any {base : Nat} {w : World} {g : Nat} {x y : Value} {m : Mc} {n o : Int} (h : DSt base w g x y m n o) (hok : m.ok = true) (z : Int) (hz : bok z = true) :
  Calls Tryz.prog 184 #[.pointer (some ⟨g, 0, none⟩), .int .i64 z] w fun e w' => e = .returned (.tuple #[]) ∧ ∃ o', Done base w w' g (m.psh z) n o' := by
 have hc := (dw h.row).sp
 have e1 := sub_one (okm.1 hok).sp
 have HE : Hid (({ m with sp := (m.sp + 255) % 256 } : Mc).writtenAt ((m.sp + 255) % 256) z = m.psh z) := writtenAt_ok (ok_sp hok _) (bok_mod _) hz
 generalize hs : (m.sp + 255) % 256 = s at HE e1
 clear hs
 go_enter Tryz.func184, Tryz.ntmps184
 go_wp2_with (first
  | (go_at_call 203; refine (subByte_impl _ _ _).mono ?_; rintro e w0 ⟨rfl, rfl⟩; rw [e1])
  | (refine st_dn (m' := { m with sp := s }) (n' := n) (o' := o) rfl rfl rfl rfl h.row rfl rfl ?_; intro w1 r1 o1 s1; have h1 := h.set r1 o1 rfl rfl; have hc1 := (dw r1).sp)
  | (go_at_call 196; refine (write_impl h1 _ _).mono ?_; rintro e w2 ⟨rfl, x2, y2, h2, o2⟩))
 refine ret_unit rfl rfl ?_
 have he := HE.out
 rw [he] at h2
 exact ⟨rfl, _, .mk h2 (o1.trans o2)⟩
set_option maxRecDepth 20000 in
theorem calledAway_impl (x y : Value) (m : Mc) (w : World) (base : Nat) (i : Int) (hi : i = 0 ∨ i = 1 ∨ i = 2) (h : Ow base w x y m) (hok : m.ok = true) (hc : m.pend = i) :
  Calls Tryz.prog 155 #[m.woken.val x y, .int .i64 i] w fun e w' => ∃ v, e = .returned v ∧ MOwn base w' v (m.away i) ∧ Below w.heap.size w w' := by
 have hf := inn_true (okm.1 hok).fl
 have hT := taken_ok hok hc (by omega)
 have hT' := inn_true (okm.1 hT).fl
 have HT : Hid ((m.taken i).ok = true) := hT
 have hpc := (okm.1 hok).pc
 have hle := h.le
 have hxl := h.hx.lt
 have hyl := h.hy.lt
 clear hT
 obtain ⟨vv, hvv⟩ : ∃ vv, vv = m.woken.val x y := ⟨_, rfl⟩
 rw [← hvv]
 go_enter Tryz.func155, Tryz.ntmps155
 go_wp2_with (first
  | (refine box_m rfl rfl hvv ?_; intro w0 r0 hB0)
  | (refine al_mc rfl rfl ?_; intro w1 z1 hB1; have r1 := r0.below hB1; have hB2 := hB0.trans (hB1.mono hB0.size); have l0 := r0.lt; have lz := z1.lt)
  | (refine st_yes (m' := { m.woken with e := false }) rfl rfl rfl rfl r1 rfl rfl ?_; intro w2 r2 o2 s2; have z2 := z1.onto o2 (by omega); have hB3 := below_onto hB2 o2 (by omega); have h2 := h.below hB3))
 have hG : Ca w base w0.heap.size x y m { m.woken with e := false } w2 := ⟨r2, z2, h2, hB3⟩
 refine region_last (by kernel_rfl) (by kernel_rfl) 6 (by decide) (by kernel_rfl) (by kernel_rfl) (fun W => Ca w base w0.heap.size x y m { m.woken with e := false } W) (fun W => Ca w base w0.heap.size x y m (m.taken i) W)
  [.pointer (some ⟨w.heap.size, 11, none⟩), .int .i64 m.fl, .int .i64 i, .int .i64 (bitOf i), .int .i64 (m.fl - bitOf i), .pointer (some ⟨w.heap.size, 11, none⟩), undef] hG.drew ?step ?last ?done
 case step =>
  intro L ix o' A W hne hj hI hg hd
  have hin : ix < 7 := by
   by_cases hl : ix < 7
   ·exact hl
   ·simp [hl] at hj
  rcases ix with _ | _ | _ | _ | _ | _ | _ | ix
  ·cases hj; exact at_op rfl rfl (one_op (x := .tmp 2) (hI.old 2 (by kernel_rfl)) rfl (by kernel_rfl) ⟨_, rfl, rfl, hg⟩)
  ·cases hj
   have e0 : A.eval (.tmp 7) = .pointer (some ⟨w.heap.size, 11, none⟩) := hI.val hd 0 7 rfl rfl (by kernel_rfl)
   exact at_op rfl rfl (load_op rfl Tryz.underlying2 e0 (cw hg.row).fl ⟨_, rfl, rfl, hg⟩)
  ·cases hj; exact at_op rfl rfl (move_op rfl ⟨_, rfl, hI.old 1 (by kernel_rfl), hg⟩)
  ·cases hj
   have e0 : A.eval (.tmp 9) = .int .i64 i := hI.val hd 2 9 rfl rfl (by kernel_rfl)
   refine at_op rfl rfl (call_op rfl Tryz.func166 (by kernel_rfl) (by kernel_rfl) ?_)
   simp only [List.map_cons, List.map_nil, e0]
   refine (interruptBit_impl i _ hi).mono ?_
   rintro e w1 ⟨rfl, rfl⟩
   exact ⟨_, rfl, _, rfl, rfl, hg⟩
  ·cases hj
   have e0 : A.eval (.tmp 8) = .int .i64 m.fl := hI.val hd 1 8 rfl rfl (by kernel_rfl)
   have e1 : A.eval (.tmp 10) = .int .i64 (bitOf i) := hI.val hd 3 10 rfl rfl (by kernel_rfl)
   have hT2 : 0 ≤ m.fl - bitOf i ∧ m.fl - bitOf i ≤ 7 := hT'
   exact at_op rfl rfl (bin_op rfl e0 e1 (fun w => sub64 _ _ _ _ w (by omega) (by omega)) ⟨_, rfl, rfl, hg⟩)
  ·cases hj; exact at_op rfl rfl (one_op (x := .tmp 2) (hI.old 2 (by kernel_rfl)) rfl (by kernel_rfl) ⟨_, rfl, rfl, hg⟩)
  ·exact absurd rfl hne
  omega
 case last =>
  intro L o' A W hj hI hg hd
  cases hj
  have e0 : A.eval (.tmp 12) = .pointer (some ⟨w.heap.size, 11, none⟩) := hI.val hd 5 12 rfl rfl (by kernel_rfl)
  have e1 : A.eval (.tmp 11) = .int .i64 (m.fl - bitOf i) := hI.val hd 4 11 rfl rfl (by kernel_rfl)
  refine at_op rfl rfl (sw_in rfl e0 e1 hg.row rfl info_i (by rw [Mc.size]; omega) ?_)
  intro W1 r1 ho
  have hb := hg.bel.size
  exact ⟨_, rfl, rfl, r1, hg.res.onto ho (by omega), hg.ow.at ho (fun e => by have := (hxl _ e).2; omega) (fun e => by have := (hyl _ e).2; omega), below_onto hg.bel ho (Nat.le_refl _)⟩
 case done =>
  intro A W hI hE
  have hA := hI.frame [7, 8, 9, 10, 11, 12] (by kernel_rfl)
  rw [hA]
  clear hA hI
  simp only [putAll, List.foldl_cons, List.foldl_nil, Act.put, List.setIfInBounds_toArray, List.set_cons_zero, List.set_cons_succ]
  obtain ⟨r3, z3, h3, hB4⟩ := hE
  have hs3 := hB4.size
  have l3 := z3.lt
  have k3 : W.cell? ⟨w.heap.size, 4, none⟩ = some (.int .i64 m.pc) := (cw r3).pc
  clear r0 r1 r2 z1 z2 h2 hG hB0 hB1 hB2 hB3 o2
  go_wp2_with (first
   | (refine ld_mc rfl rfl rfl r3 ?_)
   | (refine bd_d0 rfl rfl rfl ?_)
   | (refine al_d0 rfl rfl ?_; intro w4 d4 hb4; have hB5 := hB4.trans (hb4.mono hB4.size); have z4 := z3.below hb4; have h4 := h3.below hb4; have k4 : w4.cell? ⟨w.heap.size, 4, none⟩ = some (.int .i64 m.pc) := (cw (r3.below hb4)).pc; have l4 := d4.lt; clear k3)
   | (refine st_d0 rfl rfl rfl rfl d4 (one_own h.hx) (one_own h.hy) ?_; intro w5 d5 o5 s5; have z5 := z4.onto o5 (by omega); have r5 := (r3.below hb4).onto o5 (by omega); have k5 : w5.cell? ⟨w.heap.size, 4, none⟩ = some (.int .i64 m.pc) := (cw r5).pc
      have D5 : DSt base w5 W.heap.size x y (m.taken i) 0 0 := ⟨d5, h4.hx.onto o5 (fun e => by have := hxl _ e; omega), h4.hy.onto o5 (fun e => by have := hyl _ e; omega), h.ap, fun e => by have := hxl _ e; omega, fun e => by have := hyl _ e; omega, by omega⟩
      have hB6 := below_onto hB5 o5 (by omega); clear k4)
   | (go_at_call 184; refine (push_any D5 HT.out _ hpc).mono ?_; rintro e w6 ⟨rfl, q6, x6, y6, D6, o6⟩; have z6 := z5.onto o6 (by omega); have hB7 := below_onto hB6 o6 (by omega))
   | (refine st_dn (m' := m.away i) (n' := 0) (o' := q6) rfl rfl rfl rfl D6.row rfl rfl ?_; intro w7 r7 o7 s7; have D7 := D6.set r7 o7 rfl rfl; have z7 := z6.onto o7 (by omega); have hB8 := below_onto hB7 o7 (by omega))
   | (refine ld_dm rfl rfl rfl D7.row ?_)
   | (refine st_mc rfl rfl rfl rfl z7 (one_own D7.hx) (one_own D7.hy) ?_; intro w8 r8 o8 s8))
  refine ret_mc rfl rfl r8 rfl ?_
  exact ⟨_, rfl, ⟨x6, y6, rfl, D7.hx.onto o8 (own_not_row D7.hx z7 (by decide)), D7.hy.onto o8 (own_not_row D7.hy z7 (by decide)), D7.ap⟩, below_onto hB8 o8 (by omega)⟩
theorem interrupted_impl (v : Value) (m : Mc) (w : World) (hm : MSl w v m) :
  Calls Tryz.prog 110 #[v] w fun e w' => AnsI w.heap.size w' e m.called ∧ Below w.heap.size w w' := by
 obtain ⟨vr, va, hv, hr, ha⟩ := hm
 cases hok : m.ok
 ·have e : m.called = (Mc.nul, -1) := by simp [Mc.called, hok]
  rw [e]
  go_enter Tryz.func110, Tryz.ntmps110
  go_wp2_with (first
   | (refine box_m rfl rfl hv ?_; intro w0 r0 hB0)
   | (refine al_mc rfl rfl ?_; intro w1 z1 hB1; have r1 := r0.below hB1; have hB2 := hB0.trans (hB1.mono hB0.size); have l0 := r0.lt)
   | (refine ld_mc rfl rfl rfl r1 ?_)
   | (go_at_call 20; refine (machineOk_impl _ m _ ⟨vr, va, rfl, hr.below hB2, ha.below hB2⟩).mono ?_; rintro e w2 ⟨rfl, hb2⟩; rw [hok]; have hB3 := hB2.trans (hb2.mono hB2.size); have z2 := z1.below hb2)
   | (refine bd_nul rfl rfl ?_)
   | (refine st_mc rfl rfl rfl rfl z2 rfl rfl ?_; intro w6 r6 o6 s6))
  refine ret_mc2 rfl rfl r6 rfl rfl ?_
  exact ⟨⟨_, rfl, nul_own _ _⟩, below_onto hB3 o6 (by omega)⟩
 ·have e : m.called = m.call := by simp [Mc.called, hok]
  rw [e]
  have hR := Mc.right hok
  have hR1 := hR.rom
  have hR2 : Hid (m.ram.length = 64) := hR.ram
  have hpi : m.pendIn = m.pend := by simp [Mc.pendIn, hok]
  have hp : m.pend = -1 ∨ m.pend = 0 ∨ m.pend = 1 ∨ m.pend = 2 := pend_in m.fl m.ms
  obtain ⟨r, HR⟩ : ∃ r, Hid (r = m.call) := ⟨_, show _ = _ from rfl⟩
  rw [← HR.out]
  clear e
  have hq : Hid (m.ok = true) := hok
  go_enter Tryz.func110, Tryz.ntmps110
  go_wp2_with (first
   | (refine box_m rfl rfl hv ?_; intro w0 r0 hB0)
   | (refine al_mc rfl rfl ?_; intro w1 z1 hB1; have r1 := r0.below hB1; have hB2 := hB0.trans (hB1.mono hB0.size); have l0 := r0.lt; have lz := z1.lt)
   | (refine ld_mc rfl rfl rfl r1 ?_)
   | (go_at_call 20; refine (machineOk_impl _ m _ ⟨vr, va, rfl, hr.below hB2, ha.below hB2⟩).mono ?_; rintro e w2 ⟨rfl, hb2⟩; rw [hok]; have hB3 := hB2.trans (hb2.mono hB2.size); have z2 := z1.below hb2; replace r1 := r1.below hb2))
  go_at_call 83
  refine (machineCopy_impl _ m _ ⟨vr, va, rfl, hr.below hB3, ha.below hB3⟩ (by omega) (by have := hR2.out; omega) (by omega) (by have := hR2.out; omega)).mono ?_
  rintro e w4 ⟨v4, rfl, ⟨x4, y4, rfl, ho4, hp4, ha4⟩, hb4⟩
  have hB4 := hB3.trans (hb4.mono hB3.size)
  have z4 := z2.below hb4
  have s34 := z2.lt
  have r4 := r1.below hb4
  have lr4 := r4.lt
  have lz4 := z4.lt
  have sB3 := hB3.size
  have sb4 := hb4.size
  have hxl := ho4.lt
  have hyl := hp4.lt
  clear z1 z2 r1
  go_wp2_with (first
   | (refine al_mc rfl rfl ?_; intro w5 z5 hB5; have lz5 := z5.lt; have r5 := r4.below hB5; have z5' := z4.below hB5; have hp5 := hp4.below hB5; have ho5 := ho4.below hB5)
   | (refine st_mc rfl rfl rfl rfl z5 (one_own ho4) (one_own hp4) ?_; intro w6 c6 o6 s6; have hp6 := hp5.onto o6 (fun e => by have := hyl _ e; omega); have ho6 := ho5.onto o6 (fun e => by have := hxl _ e; omega); have z6 := z5'.onto o6 (by omega); have r6 := r5.onto o6 (by omega); have hB6 := below_onto (hB4.trans (hB5.mono hB4.size)) o6 (by have := hB4.size; omega))
   | (refine ld_mc rfl rfl rfl r6 ?_))
  go_at_call 154
  refine (pendingIn_impl _ m _ ⟨vr, va, rfl, hr.below hB6, ha.below hB6⟩).mono ?_
  rintro e w7 ⟨rfl, hb7⟩
  rw [hpi]
  have hB7 := hB6.trans (hb7.mono hB6.size)
  have z7 := z6.below hb7
  have c7 := c6.below hb7
  have q7 := r6.below hb7
  have hp7 := hp6.below hb7
  have ho7 := ho6.below hb7
  have ks := (cw q7).s
  have ke := (cw q7).e
  have l7 := c7.lt
  have hw7 : Ow w2.heap.size w7 x4 y4 m := ⟨ho7, hp7, ha4, by omega⟩
  clear r0 r4 r5 r6 c6 z4 z5 z5' z6 hp5 ho5 hp6 ho6 hpi
  obtain ⟨P, HP⟩ : ∃ P, Hid (m.pend = P) := ⟨_, show _ = _ from rfl⟩
  rw [HP.out] at hp ⊢
  by_cases h0 : P < 0
  ·have hr' : r = (m, -1) := by rw [HR.out]; unfold Mc.call; rw [HP.out, if_pos (.inl h0)]
   have HR' : Hid (r = (m, -1)) := hr'
   clear hr'
   obtain rfl : P = -1 := by omega
   go_wp2_with (first
    | (refine ld_mc rfl rfl rfl c7 ?_)
    | (refine st_mc rfl rfl rfl rfl z7 (one_own ho7) (one_own hp7) ?_; intro w8 r8 o8 s8))
   refine ret_mc2 rfl rfl r8 rfl rfl ?_
   rw [HR'.out]
   exact ⟨⟨_, rfl, x4, y4, rfl, (ho7.onto o8 (own_not_row ho7 z7 (by decide))).mono (by omega), (hp7.onto o8 (own_not_row hp7 z7 (by decide))).mono (by omega), ha4⟩, below_onto hB7 o8 (by omega)⟩
  ·have hp1 : (P == -1) = false := by simp; omega
   cases hs : m.s
   ·rw [hs] at ks
    cases he : m.e
    ·rw [he] at ke
     have HR' : Hid (r = (m.woken, -1)) := show _ = _ by rw [HR.out]; unfold Mc.call; rw [HP.out, hs, if_neg (by simp; omega), he, if_pos rfl]
     go_wp2_with (first
      | (refine st_yes (m' := m.woken) rfl rfl rfl rfl c7 rfl rfl ?_; intro w8 c8 o8 s8; have z8 := z7.onto o8 (by omega); have q8 := q7.onto o8 (by omega); have ke8 := (cw q8).e; rw [he] at ke8; have ho8 := ho7.onto o8 (own_not_row ho7 c7 (by decide)); have hp8 := hp7.onto o8 (own_not_row hp7 c7 (by decide)); have hB8 := below_onto hB7 o8 (by omega))
      | (refine ld_mc rfl rfl rfl c8 ?_)
      | (refine st_mc rfl rfl rfl rfl z8 (one_own ho7) (one_own hp7) ?_; intro w9 r9 o9 s9))
     refine ret_mc2 rfl rfl r9 rfl rfl ?_
     rw [HR'.out]
     exact ⟨⟨_, rfl, x4, y4, rfl, (ho8.onto o9 (own_not_row ho8 z8 (by decide))).mono (by omega), (hp8.onto o9 (own_not_row hp8 z8 (by decide))).mono (by omega), ha4⟩, below_onto hB8 o9 (by omega)⟩
    ·rw [he] at ke
     have HR' : Hid (r = (m.away P, P)) := show _ = _ by rw [HR.out]; unfold Mc.call; rw [HP.out, hs, if_neg (by simp; omega), he, if_neg (by decide)]
     go_wp2_with (first
      | (refine st_yes (m' := m.woken) rfl rfl rfl rfl c7 rfl rfl ?_; intro w8 c8 o8 s8; have z8 := z7.onto o8 (by omega); have q8 := q7.onto o8 (by omega); have ke8 := (cw q8).e; rw [he] at ke8; have hw8 := hw7.at o8 (own_not_row ho7 c7 (by decide)) (own_not_row hp7 c7 (by decide)); have hB8 := below_onto hB7 o8 (by omega))
      | (refine ld_mc rfl rfl rfl c8 ?_)
      | (go_at_call 155; refine (calledAway_impl _ _ m _ w2.heap.size P (by omega) hw8 hq.out HP.out).mono ?_; rintro e w9 ⟨v9, rfl, ⟨x9, y9, rfl, hx9, hy9, ha9⟩, hb9⟩; have z9 := z8.below hb9; have hB9 := hB8.trans (hb9.mono hB8.size))
      | (refine st_mc rfl rfl rfl rfl z9 (one_own hx9) (one_own hy9) ?_; intro w10 r10 o10 s10))
     refine ret_mc2 rfl rfl r10 rfl rfl ?_
     rw [HR'.out]
     exact ⟨⟨_, rfl, x9, y9, rfl, (hx9.onto o10 (own_not_row hx9 z9 (by decide))).mono (by omega), (hy9.onto o10 (own_not_row hy9 z9 (by decide))).mono (by omega), ha9⟩, below_onto hB9 o10 (by omega)⟩
   ·rw [hs] at ks
    have HR' : Hid (r = (m, -1)) := show _ = _ by rw [HR.out]; unfold Mc.call; rw [if_pos (.inr hs)]
    go_wp2_with (first
     | (refine ld_mc rfl rfl rfl c7 ?_)
     | (refine st_mc rfl rfl rfl rfl z7 (one_own ho7) (one_own hp7) ?_; intro w8 r8 o8 s8))
    refine ret_mc2 rfl rfl r8 rfl rfl ?_
    rw [HR'.out]
    exact ⟨⟨_, rfl, x4, y4, rfl, (ho7.onto o8 (own_not_row ho7 z7 (by decide))).mono (by omega), (hp7.onto o8 (own_not_row hp7 z7 (by decide))).mono (by omega), ha4⟩, below_onto hB7 o8 (by omega)⟩
theorem interrupted_impl' {m M : Mc} {C : Int} (h : m.called = (M, C)) (v : Value) (w : World) (hm : MSl w v m) :
  Calls Tryz.prog 110 #[v] w fun e w' => ∃ v', e = .returned (.tuple #[v', .int .i64 C]) ∧ MOwn w.heap.size w' v' M ∧ Below w.heap.size w w' := by
 have := interrupted_impl v m w hm
 rw [h] at this
 refine this.mono ?_
 rintro e w' ⟨⟨v', rfl, hv'⟩, hb⟩
 exact ⟨v', rfl, hv', hb⟩
end Go.Proofs.YtghmkacamabndaaGreatDoor.Mem
namespace Go.Proofs.YtghmkacamabndaaGreatDoor.Mem
open Go.ChangeShapes Go.WideShapes Go.RowKit Base Num Slc Slf Rw Tmr Srl Rom Opl Reg

def Plain (T : TypeId) : Prop := T ≠ 40 ∧ T ≠ 142
structure Mild (base : Nat) (w w' : World) : Prop where
 os : w'.os = w.os
 tape : w'.tape = w.tape
 output : w'.output = w.output
 size : w.heap.size ≤ w'.heap.size
 block : ∀ k, k < w.heap.size → (k < base ∨ ∀ cs T fz, w.heap[k]? = some (.cells cs T fz) → Plain T) → w'.heap[k]? = w.heap[k]?
section
variable {base : Nat} {w w' w'' : World}
theorem Mild.of (h : Below w.heap.size w w') : Mild base w w' := ⟨h.os, h.tape, h.output, h.size, fun k hk _ => h.block k hk⟩
theorem Mild.refl (base : Nat) (w : World) : Mild base w w := .of (Below.refl _ _)
theorem Mild.trans (h : Mild base w w') (k : Mild base w' w'') : Mild base w w'' :=
 ⟨k.os.trans h.os, k.tape.trans h.tape, k.output.trans h.output, Nat.le_trans h.size k.size, fun j hj hp => by
  have e := h.block j hj hp
  refine (k.block j (Nat.lt_of_lt_of_le hj h.size) ?_).trans e
  rw [e]; exact hp⟩
theorem Mild.row (h : Mild base w w') {g : Nat} {cs : Array Value} {T : TypeId} (hr : Row w g cs T) (hT : Plain T) : Row w' g cs T :=
 hr.keep (h.block g hr.lt (.inr fun cs' T' fz e => by
  rw [hr.row] at e
  simp only [Option.some.injEq, Obj.cells.injEq] at e
  exact e.2.1 ▸ hT))
theorem Mild.own (h : Mild base w w') {b : Nat} {v : Value} {l : List Int} (ho : Own b w v l) : Own b w' v l := by
 refine ⟨ho.1, ?_⟩
 have hlt := ho.lt
 rcases ho.2 with h0 | ⟨g, cap, cur, rfl, hb, hg, rest⟩
 ·exact .inl h0
 ·refine .inr ⟨g, cap, cur, rfl, hb, ?_, rest⟩
  rw [h.block g (hlt g rfl).2 (.inr fun cs' T' fz e => by
   rw [hg] at e
   simp only [Option.some.injEq, Obj.cells.injEq] at e
   rw [← e.2.1]
   exact ⟨by decide, by decide⟩)]
  exact hg
theorem Mild.ow (h : Mild base w w') {b : Nat} {x y : Value} {m : Mc} (ho : Ow b w x y m) : Ow b w' x y m := ⟨h.own ho.hx, h.own ho.hy, ho.ap, Nat.le_trans ho.le h.size⟩
theorem Mild.old (h : Mild base w w') {α : Type} {f : Fl α} {v : Value} {l : List α} (hs : SlF f w v l) (hv : 0 < l.length → ∀ k, v.ownBlock = some k → k < base) : SlF f w' v l := by
 obtain ⟨a, cap, rfl, h1, h2⟩ := hs
 refine ⟨a, cap, rfl, h1.keep h.size (fun h0 x hx => h.block _ (h1.lt h0 x hx) (.inl (hv h0 _ (by subst hx; rfl)))), h2⟩
theorem Mild.below {w0 : World} (h : Mild base w w') (hb : Below w0.heap.size w0 w) (hs : w0.heap.size ≤ base) : Below w0.heap.size w0 w' :=
 ⟨h.os.trans hb.os, h.tape.trans hb.tape, h.output.trans hb.output, Nat.le_trans hb.size h.size, fun k hk => (h.block k (Nat.lt_of_lt_of_le hk hb.size) (.inl (by omega))).trans (hb.block k hk)⟩
theorem Mild.new {g : Nat} (h : Mild base w w') (ho : Onto g w' w'') (hg : w.heap.size ≤ g) : Mild base w w'' :=
 ⟨ho.os.trans h.os, ho.tape.trans h.tape, ho.output.trans h.output, Nat.le_trans h.size ho.size, fun k hk hp => by
  have := h.size
  rw [ho.block k (by omega) (by omega)]; exact h.block k hk hp⟩
theorem Mild.grown {α : Type} {f : Fl α} {v : Value} {l : List α} (hT : ¬ Plain f.T) (ho : OwnF f base w v l) (hg : w.grownBy w' v.ownBlock) : Mild base w w' :=
 ⟨hg.os, hg.tape, hg.output, hg.size, fun k hk hp => by
  refine hg.block k hk (fun e => ?_)
  rcases ho.2 with ⟨rfl, _⟩ | ⟨g, cap, cur, rfl, hb, hq, _⟩
  ·simp [Value.ownBlock] at e
  ·have e' : k = g := Option.some.inj e
   subst e'
   rcases hp with hp | hp
   ·omega
   ·exact hT (hp _ _ _ hq)⟩
theorem OwnF.apart {α β : Type} {f : Fl α} {f' : Fl β} {b b' : Nat} {v v' : Value} {l : List α} {l' : List β} (h : OwnF f b w v l) (h' : OwnF f' b' w v' l') (hT : f.T ≠ f'.T) : ∀ k, v.ownBlock = some k → v'.ownBlock ≠ some k := fun k hk hk' => by
 rcases h.2 with ⟨rfl, _⟩ | ⟨g, cap, cur, rfl, hb, hq, _⟩
 ·simp [Value.ownBlock] at hk
 ·rcases h'.2 with ⟨rfl, _⟩ | ⟨g', cap', cur', rfl, hb', hq', _⟩
  ·simp [Value.ownBlock] at hk'
  ·have e1 : g = k := Option.some.inj hk
   have e2 : g' = k := Option.some.inj hk'
   rw [e1] at hq
   rw [e2, hq] at hq'
   simp only [Option.some.injEq, Obj.cells.injEq] at hq'
   exact hT hq'.2.1
end
structure So (base : Nat) (w : World) (x y vo ve : Value) (s : St) : Prop where
 ow : Ow base w x y s.m
 o : OwnF fM base w vo s.o
 e : OwnF fE base w ve s.e
theorem So.below {base : Nat} {w w' : World} {x y vo ve : Value} {s : St} (h : So base w x y vo ve s) (hb : Below w.heap.size w w') : So base w' x y vo ve s := ⟨h.ow.below hb, h.o.below hb, h.e.below hb⟩
theorem So.row {base g : Nat} {w w' : World} {x y vo ve : Value} {s : St} {cs : Array Value} {T : TypeId} (h : So base w x y vo ve s) (ho : Onto g w w') (hr : Row w g cs T) (hT : Plain T) (hi : T ≠ 2) : So base w' x y vo ve s :=
 ⟨h.ow.at ho (own_not_row h.ow.hx hr hi) (own_not_row h.ow.hy hr hi), h.o.onto ho (h.o.not_row hr hT.1), h.e.onto ho (h.e.not_row hr hT.2)⟩
theorem So.as {base : Nat} {w : World} {x y vo ve : Value} {s s' : St} (h : So base w x y vo ve s) (h1 : s'.m.rom = s.m.rom) (h2 : s'.m.ram = s.m.ram) (h3 : s'.o = s.o) (h4 : s'.e = s.e) : So base w x y vo ve s' := ⟨h.ow.as h1 h2, h3 ▸ h.o, h4 ▸ h.e⟩
theorem plain_st : Plain 36 := ⟨by decide, by decide⟩
end Go.Proofs.YtghmkacamabndaaGreatDoor.Mem
namespace Go.Proofs.YtghmkacamabndaaGreatDoor.Mem
open Go.ChangeShapes Go.WideShapes Go.RowKit Base Num Slc Slf Rw Tmr Srl Rom Opl Reg

theorem not_plainE : ¬ Plain fE.T := fun h => h.2 rfl
theorem not_plainM : ¬ Plain fM.T := fun h => h.1 rfl
theorem l9Through_spec (v x y vo ve : Value) (s : St) (q : Int) (w : World) (base : Nat) (hv : v = s.val x y vo ve) (h : So base w x y vo ve s) (hl : s.e.length ≤ 1000000) :
  Calls Tryz.prog 242 #[v, .int .i64 q] w fun e w' => ∃ ve', e = .returned ((s.through q).val x y vo ve') ∧ So base w' x y vo ve' (s.through q) ∧ Mild base w w' := by
 have hle := h.ow.le
 go_enter Tryz.func242, Tryz.ntmps242
 go_wp2_with (first
  | (refine box_s rfl rfl hv ?_; intro w0 r0 hB0)
  | (refine al_st rfl rfl ?_; intro w1 z1 hB1; have r1 := r0.below hB1; have hB2 := hB0.trans (hB1.mono hB0.size); have l0 := r0.lt; have lz := z1.lt; have h1 := h.below hB2; have kf := (sw r1).fl)
  | (refine st_sn (s' := { s with m := { s.m with fl := bits .or .i64 s.m.fl 2 } }) rfl rfl rfl rfl r1 rfl rfl ?_; rintro w2 r2 o2 -; have z2 := z1.onto o2 (by omega); have hB3 := below_onto hB2 o2 (by omega); have h2 := (h1.row o2 r1 plain_st (by decide)).as (s' := { s with m := { s.m with fl := bits .or .i64 s.m.fl 2 } }) rfl rfl rfl rfl; have ke := (sw r2).e; have kd : w2.cell? ⟨w.heap.size, 18, none⟩ = some (.int .i64 s.m.p.d) := (sw r2).pd; have hal : Below w2.heap.size w2 (w2.alloc (.cells #[.int .i64 q, .int .i64 3, .int .i64 s.m.p.d] 142)) := (Below.refl _ _).alloc (Nat.le_refl _) _; have hlit := own_litF fE okE w2.heap.size w2 #[.int .i64 q, .int .i64 3, .int .i64 s.m.p.d] [⟨q, 3, s.m.p.d⟩] rfl (by unfold maxLen; simp) (Nat.le_refl _); have h3 := h2.below hal)
  | (at_builtin; refine appF okE rfl (.tmp 12) (.tmp 19) rfl base s.e [⟨q, 3, s.m.p.d⟩] h3.e (hlit.sl okE) (by simp; omega) (by have := h3.ow.le; omega) ?_; intro v4 w4 ho4 hg4)
  | (have t4 := Mild.grown not_plainE h3.e hg4; have r4 := t4.row (r2.below hal) plain_st; refine st_se (l := s.e ++ [⟨q, 3, s.m.p.d⟩]) rfl rfl rfl rfl r4 (ho4.one okE) ?_; rintro w5 r5 o5 -)
  | (refine ld_s' rfl rfl rfl r5 ?_)
  | (have z4 := (t4.row (z2.below hal) plain_st).onto o5 (by omega); refine st_s rfl rfl rfl rfl z4 (one_own h.ow.hx) (one_own h.ow.hy) (h.o.one okM) (ho4.one okE) ?_; rintro w6 r6 o6 -))
 refine ret_s rfl rfl r6 rfl ?_
 have h4 : So base w4 x y vo v4 (s.through q) := ⟨(t4.ow h3.ow).as rfl rfl, h3.o.grown hg4 (fun k hk e => (OwnF.apart h3.e h3.o (by decide)) k hk e), ho4⟩
 have h5 := h4.row o5 r4 plain_st (by decide)
 have h6 := h5.row o6 z4 plain_st (by decide)
 exact ⟨v4, rfl, h6, ((((Mild.of hB3).trans (Mild.of hal)).trans t4).new o5 (by omega)).new o6 (by omega)⟩
end Go.Proofs.YtghmkacamabndaaGreatDoor.Mem
namespace Go.Proofs.YtghmkacamabndaaGreatDoor.Mem
open Go.ChangeShapes Go.WideShapes Go.RowKit Base Num Slc Slf Rw Tmr Srl Rom Opl Reg

abbrev PRow (w : World) (g : Nat) (p : Sr) : Prop := Row w g #[.int .i64 p.d, .bool p.b, .bool p.l, .int .i64 p.n, .int .i64 p.x, .bool p.t] 28
section
variable {ops : Array Oper} {rest : List Oper} {op : Oper} {a : Act} {w : World} {Q : Exit → Act → World → Prop} {p q : Operand} {g : Nat} {r r0 : Sr}
theorem al_p (hgd : op.guard = none) (ho : op.op = .alloc 28)
  (h : ∀ w', PRow w' w.heap.size Sr.nul → Below w.heap.size w w' → wpList Tryz.prog ops Q rest (a.put op.dst (.pointer (some ⟨w.heap.size, 0, none⟩))) w') : wpList Tryz.prog ops Q (op :: rest) a w :=
 wpList_plain hgd fun _ hK => by
  have e : (execOp a.eval op).run Tryz.prog w = .ok (.value (.pointer (some ⟨w.heap.size, 0, none⟩))) (w.alloc (.cells #[.int .i64 0, .bool false, .bool false, .int .i64 0, .int .i64 0, .bool false] 28)) := by
   unfold execOp
   rw [ho]
   kernel_rfl
  unfold Oper.wp
  rw [e]
  exact hK _ _ (h _ (Row.new _ _ _) ((Below.refl _ _).alloc (Nat.le_refl _) _))
theorem st_pp (hgd : op.guard = none) (ho : op.op = .store 28 p q) (hx : a.eval p = .pointer (some ⟨g, 0, none⟩)) (hy : a.eval q = r.val) (hr : PRow w g r0)
  (h : ∀ w', PRow w' g r → Onto g w w' → wpList Tryz.prog ops Q rest (a.put op.dst undef) w') : wpList Tryz.prog ops Q (op :: rest) a w :=
 st_row hgd _ p q ho hx hy hr info_sr rfl (by simp [Value.oneCell']) (fun w' h1 h2 _ => h w' h1 h2)
theorem ld_pp (hgd : op.guard = none) (ho : op.op = .load 28 p) (hx : a.eval p = .pointer (some ⟨g, 0, none⟩)) (hr : PRow w g r) (h : wpList Tryz.prog ops Q rest (a.put op.dst r.val) w) : wpList Tryz.prog ops Q (op :: rest) a w :=
 ld_row hgd _ p ho hx hr Tryz.underlying28 rfl info_sr h
end
theorem plain_p : Plain 28 := ⟨by decide, by decide⟩
def Arrd (base : Nat) (w w' : World) (e : Ending) (x y : Value) (s : St) : Prop := ∃ vo ve, e = .returned (s.val x y vo ve) ∧ So base w' x y vo ve s ∧ Mild base w w'
theorem l9Arrive_none (v x y vo ve : Value) (s : St) (m : M3) (w : World) (base : Nat) (hv : v = s.val x y vo ve) (h : So base w x y vo ve s) (h1 : m.k ≠ 1) (h2 : m.k ≠ 2) (h3 : m.k ≠ 3) :
  Calls Tryz.prog 177 #[v, m.val] w fun e w' => Arrd base w w' e x y s := by
 have hle := h.ow.le
 obtain ⟨vm, hvm⟩ : ∃ vm, vm = m.val := ⟨_, rfl⟩
 rw [← hvm]
 have b1 : (m.k == 1) = false := by simpa using h1
 have b2 : (m.k == 2) = false := by simpa using h2
 have b3 : (m.k == 3) = false := by simpa using h3
 clear h1 h2 h3
 go_enter Tryz.func177, Tryz.ntmps177
 go_wp2_with (first
  | (refine box_s rfl rfl hv ?_; intro w0 r0 hB0)
  | (refine box_m3 rfl rfl hvm ?_; intro w1 m1 hB1)
  | (refine al_st rfl rfl ?_; intro w2 z2 hB2; have hB3 := below_more (below_more hB0 hB1) hB2; have r2 := (r0.below hB1).below hB2; have m2 := m1.below hB2; have l0 := r0.lt; have l1 := m1.lt; have lz := z2.lt; have km : w2.cell? ⟨w0.heap.size, 1, none⟩ = some (.int .i64 m.k) := m2.cell 1)
  | (refine ld_s' rfl rfl rfl r2 ?_)
  | (refine st_s rfl rfl rfl rfl z2 (one_own h.ow.hx) (one_own h.ow.hy) (h.o.one okM) (h.e.one okE) ?_; rintro w6 r6 o6 -))
 refine ret_s rfl rfl r6 rfl ?_
 have hs := (h.below hB3).row o6 z2 plain_st (by decide)
 exact ⟨vo, ve, rfl, hs, (Mild.of hB3).new o6 (by omega)⟩
theorem l9Arrive_keys (v x y vo ve : Value) (s : St) (m : M3) (w : World) (base : Nat) (hv : v = s.val x y vo ve) (h : So base w x y vo ve s) (h3 : m.k = 3) :
  Calls Tryz.prog 177 #[v, m.val] w fun e w' => Arrd base w w' e x y { s with m := { s.m with ky := m.v, fl := bits .or .i64 s.m.fl 4 } } := by
 have hle := h.ow.le
 obtain ⟨vm, hvm⟩ : ∃ vm, vm = m.val := ⟨_, rfl⟩
 rw [← hvm]
 go_enter Tryz.func177, Tryz.ntmps177
 go_wp2_with (first
  | (refine box_s rfl rfl hv ?_; intro w0 r0 hB0)
  | (refine box_m3 rfl rfl hvm ?_; intro w1 m1 hB1)
  | (refine al_st rfl rfl ?_; intro w2 z2 hB2; have hB3 := below_more (below_more hB0 hB1) hB2; have r2 := (r0.below hB1).below hB2; have m2 := m1.below hB2; have l0 := r0.lt; have l1 := m1.lt; have lz := z2.lt; have km : w2.cell? ⟨w0.heap.size, 1, none⟩ = some (.int .i64 m.k) := m2.cell 1; rw [h3] at km; have kv : w2.cell? ⟨w0.heap.size, 2, none⟩ = some (.int .i64 m.v) := m2.cell 2)
  | (refine st_sn (s' := { s with m := { s.m with ky := m.v } }) rfl rfl rfl rfl r2 rfl rfl ?_; rintro w3 r3 o3 -; have z3 := z2.onto o3 (by omega); have hB4 := below_onto hB3 o3 (by omega); have kf : w3.cell? ⟨w.heap.size, 11, none⟩ = some (.int .i64 s.m.fl) := (sw r3).fl)
  | (refine st_sn (s' := { s with m := { s.m with ky := m.v, fl := bits .or .i64 s.m.fl 4 } }) rfl rfl rfl rfl r3 rfl rfl ?_; rintro w4 r4 o4 -; have z4 := z3.onto o4 (by omega); have hB5 := below_onto hB4 o4 (by omega))
  | (refine ld_s' rfl rfl rfl r4 ?_)
  | (refine st_s rfl rfl rfl rfl z4 (one_own h.ow.hx) (one_own h.ow.hy) (h.o.one okM) (h.e.one okE) ?_; rintro w6 r6 o6 -))
 refine ret_s rfl rfl r6 rfl ?_
 have hs := ((h.below hB5).as (s' := { s with m := { s.m with ky := m.v, fl := bits .or .i64 s.m.fl 4 } }) rfl rfl rfl rfl).row o6 z4 plain_st (by decide)
 exact ⟨vo, ve, rfl, hs, (Mild.of hB5).new o6 (by omega)⟩
theorem l9Arrive_answer (v x y vo ve : Value) (s : St) (m : M3) (w : World) (base : Nat) (hv : v = s.val x y vo ve) (h : So base w x y vo ve s) (hk : m.k = 2) (X : Sr) (HX : Hid (s.m.p.answer m.v m.t = (X, false))) :
  Calls Tryz.prog 177 #[v, m.val] w fun e w' => Arrd base w w' e x y (s.port X) := by
 have hle := h.ow.le
 obtain ⟨vm, hvm⟩ : ∃ vm, vm = m.val := ⟨_, rfl⟩
 rw [← hvm]
 go_enter Tryz.func177, Tryz.ntmps177
 go_wp2_with (first
  | (refine box_s rfl rfl hv ?_; intro w0 r0 hB0)
  | (refine box_m3 rfl rfl hvm ?_; intro w1 m1 hB1)
  | (refine al_st rfl rfl ?_; intro w2 z2 hB2; have hB3 := below_more (below_more hB0 hB1) hB2; have r2 := (r0.below hB1).below hB2; have m2 := m1.below hB2; have l0 := r0.lt; have l1 := m1.lt; have lz := z2.lt; have km : w2.cell? ⟨w0.heap.size, 1, none⟩ = some (.int .i64 m.k) := m2.cell 1; rw [hk] at km; have kv : w2.cell? ⟨w0.heap.size, 2, none⟩ = some (.int .i64 m.v) := m2.cell 2; have kt : w2.cell? ⟨w0.heap.size, 0, none⟩ = some (.int .i64 m.t) := m2.cell 0)
  | (refine ld_sp rfl rfl rfl r2 ?_)
  | (go_at_call 241; refine (serialAnswer_spec s.m.p m.v m.t _).mono ?_; rw [HX.out]; rintro e w3 ⟨rfl, hb3⟩; have r3 := r2.below hb3; have z3 := z2.below hb3; have m3 := m2.below hb3; have hB4 := below_more hB3 hb3; clear km kv kt)
  | (refine st_sp rfl rfl rfl rfl r3 ?_; rintro w4 r4 o4 -; have z4 := z3.onto o4 (by omega); have m4 := m3.onto o4 (by omega); have hB5 := below_onto hB4 o4 (by omega); have kt4 : w4.cell? ⟨w0.heap.size, 0, none⟩ = some (.int .i64 m.t) := m4.cell 0; have h5 := (h.below hB5).as (s' := s.port X) rfl rfl rfl rfl)
  | (refine ld_s' rfl rfl rfl r4 ?_)
  | (refine st_s rfl rfl rfl rfl z4 (one_own h.ow.hx) (one_own h.ow.hy) (h.o.one okM) (h.e.one okE) ?_; rintro w6 r6 o6 -))
 refine ret_s rfl rfl r6 rfl ?_
 exact ⟨vo, ve, rfl, h5.row o6 z4 plain_st (by decide), (Mild.of hB5).new o6 (by omega)⟩
theorem l9Arrive_answered (v x y vo ve : Value) (s : St) (m : M3) (w : World) (base : Nat) (hv : v = s.val x y vo ve) (h : So base w x y vo ve s) (hk : m.k = 2) (X : Sr) (HX : Hid (s.m.p.answer m.v m.t = (X, true))) (hl : s.e.length ≤ 1000000) :
  Calls Tryz.prog 177 #[v, m.val] w fun e w' => Arrd base w w' e x y ((s.port X).through m.t) := by
 have hle := h.ow.le
 obtain ⟨vm, hvm⟩ : ∃ vm, vm = m.val := ⟨_, rfl⟩
 rw [← hvm]
 go_enter Tryz.func177, Tryz.ntmps177
 go_wp2_with (first
  | (refine box_s rfl rfl hv ?_; intro w0 r0 hB0)
  | (refine box_m3 rfl rfl hvm ?_; intro w1 m1 hB1)
  | (refine al_st rfl rfl ?_; intro w2 z2 hB2; have hB3 := below_more (below_more hB0 hB1) hB2; have r2 := (r0.below hB1).below hB2; have m2 := m1.below hB2; have l0 := r0.lt; have l1 := m1.lt; have lz := z2.lt; have km : w2.cell? ⟨w0.heap.size, 1, none⟩ = some (.int .i64 m.k) := m2.cell 1; rw [hk] at km; have kv : w2.cell? ⟨w0.heap.size, 2, none⟩ = some (.int .i64 m.v) := m2.cell 2; have kt : w2.cell? ⟨w0.heap.size, 0, none⟩ = some (.int .i64 m.t) := m2.cell 0)
  | (refine ld_sp rfl rfl rfl r2 ?_)
  | (go_at_call 241; refine (serialAnswer_spec s.m.p m.v m.t _).mono ?_; rw [HX.out]; rintro e w3 ⟨rfl, hb3⟩; have r3 := r2.below hb3; have z3 := z2.below hb3; have m3 := m2.below hb3; have hB4 := below_more hB3 hb3; clear km kv kt)
  | (refine st_sp rfl rfl rfl rfl r3 ?_; rintro w4 r4 o4 -; have z4 := z3.onto o4 (by omega); have m4 := m3.onto o4 (by omega); have hB5 := below_onto hB4 o4 (by omega); have kt4 : w4.cell? ⟨w0.heap.size, 0, none⟩ = some (.int .i64 m.t) := m4.cell 0; have h5 := (h.below hB5).as (s' := s.port X) rfl rfl rfl rfl)
  | (refine ld_s' rfl rfl rfl r4 ?_)
  | (go_at_call 242; refine (l9Through_spec _ x y vo ve (s.port X) m.t _ base rfl h5 hl).mono ?_; rintro e w5 ⟨ve5, rfl, h6, t5⟩; have z5 := t5.row z4 plain_st)
  | (refine st_s rfl rfl rfl rfl z5 (one_own h6.ow.hx) (one_own h6.ow.hy) (h6.o.one okM) (h6.e.one okE) ?_; rintro w6 r6 o6 -))
 refine ret_s rfl rfl r6 rfl ?_
 exact ⟨vo, ve5, rfl, h6.row o6 z5 plain_st (by decide), ((Mild.of hB5).trans t5).new o6 (by omega)⟩
theorem l9Arrive_beat (v x y vo ve : Value) (s : St) (m : M3) (w : World) (base : Nat) (hv : v = s.val x y vo ve) (h : So base w x y vo ve s) (hk : m.k = 1) (X : Sr) (B : Int) (HX : Hid (s.m.p.beat m.v = (X, B, false))) (hT : 0 ≤ m.t ∧ m.t ≤ 1000000100) (hlo : s.o.length ≤ 1000000) :
  Calls Tryz.prog 177 #[v, m.val] w fun e w' => Arrd base w w' e x y ((s.port X).sends ⟨m.t + 8, 2, B⟩) := by
 have hle := h.ow.le
 obtain ⟨vm, hvm⟩ : ∃ vm, vm = m.val := ⟨_, rfl⟩
 rw [← hvm]
 go_enter Tryz.func177, Tryz.ntmps177
 go_wp2_with (first
  | (refine box_s rfl rfl hv ?_; intro w0 r0 hB0)
  | (refine box_m3 rfl rfl hvm ?_; intro w1 m1 hB1)
  | (refine al_st rfl rfl ?_; intro w2 z2 hB2; have hB3 := below_more (below_more hB0 hB1) hB2; have r2 := (r0.below hB1).below hB2; have m2 := m1.below hB2; have l0 := r0.lt; have l1 := m1.lt; have lz := z2.lt; have km : w2.cell? ⟨w0.heap.size, 1, none⟩ = some (.int .i64 m.k) := m2.cell 1; rw [hk] at km; have kv : w2.cell? ⟨w0.heap.size, 2, none⟩ = some (.int .i64 m.v) := m2.cell 2; have kt : w2.cell? ⟨w0.heap.size, 0, none⟩ = some (.int .i64 m.t) := m2.cell 0)
  | (refine ld_sp rfl rfl rfl r2 ?_)
  | (go_at_call 240; refine (serialBeat_spec s.m.p m.v _).mono ?_; rw [HX.out]; rintro e w3 ⟨rfl, hb3⟩; have r3 := r2.below hb3; have z3 := z2.below hb3; have m3 := m2.below hb3; have hB4 := below_more hB3 hb3; clear km kv kt)
  | (refine al_p rfl rfl ?_; intro w4 p4 hb4; have r4 := r3.below hb4; have z4 := z3.below hb4; have m4 := m3.below hb4; have lp := p4.lt; have hB5 := below_more hB4 hb4; have s4 := hb4.size; have s3 := hb3.size)
  | (refine st_pp rfl rfl rfl rfl p4 ?_; rintro w5 p5 o5; have r5 := r4.onto o5 (by have := r3.lt; omega); have z5 := z4.onto o5 (by have := z3.lt; omega); have m5 := m4.onto o5 (by have := m3.lt; omega); have hB6 := below_onto hB5 o5 (by have := hB4.size; omega))
  | (refine ld_pp rfl rfl rfl p5 ?_)
  | (refine st_sp rfl rfl rfl rfl r5 ?_; rintro w6 r6 o6 -; have z6 := z5.onto o6 (by omega); have m6 := m5.onto o6 (by omega); have hB7 := below_onto hB6 o6 (by omega); have kt6 : w6.cell? ⟨w0.heap.size, 0, none⟩ = some (.int .i64 m.t) := m6.cell 0; have ko6 := (sw r6).o; have h6 := (h.below hB7).as (s' := s.port X) rfl rfl rfl rfl; have hal : Below w6.heap.size w6 (w6.alloc (.cells #[.int .i64 (m.t + 8), .int .i64 2, .int .i64 B] 40)) := (Below.refl _ _).alloc (Nat.le_refl _) _; have hlit := own_litF fM okM w6.heap.size w6 #[.int .i64 (m.t + 8), .int .i64 2, .int .i64 B] [⟨m.t + 8, 2, B⟩] rfl (by unfold maxLen; simp) (Nat.le_refl _); have h7 := h6.below hal)
  | (at_builtin; refine appF okM rfl (.tmp 30) (.tmp 36) rfl base s.o [⟨m.t + 8, 2, B⟩] h7.o (hlit.sl okM) (by simp; omega) (by have := h7.ow.le; omega) ?_; intro v8 w8 ho8 hg8; have t8 := Mild.grown not_plainM h7.o hg8; have r8 := t8.row (r6.below hal) plain_st; have z8 := t8.row (z6.below hal) plain_st; have h8 : So base w8 x y v8 ve ((s.port X).sends ⟨m.t + 8, 2, B⟩) := ⟨(t8.ow h7.ow).as rfl rfl, ho8, h7.e.grown hg8 (fun k hk e => (OwnF.apart h7.o h7.e (by decide)) k hk e)⟩; have T8 := ((Mild.of (base := base) hB7).trans (Mild.of hal)).trans t8; have kt8 : w8.cell? ⟨w0.heap.size, 0, none⟩ = some (.int .i64 m.t) := by have hm : M3Row (w6.alloc (.cells #[.int .i64 (m.t + 8), .int .i64 2, .int .i64 B] 40)) w0.heap.size m := m6.below hal; have hq : w8.heap[w0.heap.size]? = _ := hg8.block w0.heap.size hm.lt (fun e => by have := (h.o.lt _ e.symm).2; omega); exact (World.cell?_of_block (a := ⟨w0.heap.size, 0, none⟩) hq).trans (hm.cell 0))
  | (refine st_so (l := s.o ++ [⟨m.t + 8, 2, B⟩]) rfl rfl rfl rfl r8 (ho8.one okM) ?_; rintro w9 r9 o9 -; have z9 := z8.onto o9 (by omega); have h9 := h8.row o9 r8 plain_st (by decide); have T9 := T8.new o9 (by omega); have kt9 : w9.cell? ⟨w0.heap.size, 0, none⟩ = some (.int .i64 m.t) := (o9.cell (q := ⟨w0.heap.size, 0, none⟩) (by show w0.heap.size ≠ w.heap.size; omega) (cell_lt kt8)).trans kt8; clear kt8 kt6)
  | (refine ld_s' rfl rfl rfl r9 ?_)
  | (refine st_s rfl rfl rfl rfl z9 (one_own h9.ow.hx) (one_own h9.ow.hy) (h9.o.one okM) (h9.e.one okE) ?_; rintro w10 r10 o10 -))
 refine ret_s rfl rfl r10 rfl ?_
 exact ⟨v8, ve, rfl, h9.row o10 z9 plain_st (by decide), T9.new o10 (by omega)⟩
theorem l9Arrive_beaten (v x y vo ve : Value) (s : St) (m : M3) (w : World) (base : Nat) (hv : v = s.val x y vo ve) (h : So base w x y vo ve s) (hk : m.k = 1) (X : Sr) (B : Int) (HX : Hid (s.m.p.beat m.v = (X, B, true))) (hT : 0 ≤ m.t ∧ m.t ≤ 1000000100) (hlo : s.o.length ≤ 1000000) (hl : s.e.length ≤ 1000000) :
  Calls Tryz.prog 177 #[v, m.val] w fun e w' => Arrd base w w' e x y (((s.port X).sends ⟨m.t + 8, 2, B⟩).through m.t) := by
 have hle := h.ow.le
 obtain ⟨vm, hvm⟩ : ∃ vm, vm = m.val := ⟨_, rfl⟩
 rw [← hvm]
 go_enter Tryz.func177, Tryz.ntmps177
 go_wp2_with (first
  | (refine box_s rfl rfl hv ?_; intro w0 r0 hB0)
  | (refine box_m3 rfl rfl hvm ?_; intro w1 m1 hB1)
  | (refine al_st rfl rfl ?_; intro w2 z2 hB2; have hB3 := below_more (below_more hB0 hB1) hB2; have r2 := (r0.below hB1).below hB2; have m2 := m1.below hB2; have l0 := r0.lt; have l1 := m1.lt; have lz := z2.lt; have km : w2.cell? ⟨w0.heap.size, 1, none⟩ = some (.int .i64 m.k) := m2.cell 1; rw [hk] at km; have kv : w2.cell? ⟨w0.heap.size, 2, none⟩ = some (.int .i64 m.v) := m2.cell 2; have kt : w2.cell? ⟨w0.heap.size, 0, none⟩ = some (.int .i64 m.t) := m2.cell 0)
  | (refine ld_sp rfl rfl rfl r2 ?_)
  | (go_at_call 240; refine (serialBeat_spec s.m.p m.v _).mono ?_; rw [HX.out]; rintro e w3 ⟨rfl, hb3⟩; have r3 := r2.below hb3; have z3 := z2.below hb3; have m3 := m2.below hb3; have hB4 := below_more hB3 hb3; clear km kv kt)
  | (refine al_p rfl rfl ?_; intro w4 p4 hb4; have r4 := r3.below hb4; have z4 := z3.below hb4; have m4 := m3.below hb4; have lp := p4.lt; have hB5 := below_more hB4 hb4; have s4 := hb4.size; have s3 := hb3.size)
  | (refine st_pp rfl rfl rfl rfl p4 ?_; rintro w5 p5 o5; have r5 := r4.onto o5 (by have := r3.lt; omega); have z5 := z4.onto o5 (by have := z3.lt; omega); have m5 := m4.onto o5 (by have := m3.lt; omega); have hB6 := below_onto hB5 o5 (by have := hB4.size; omega))
  | (refine ld_pp rfl rfl rfl p5 ?_)
  | (refine st_sp rfl rfl rfl rfl r5 ?_; rintro w6 r6 o6 -; have z6 := z5.onto o6 (by omega); have m6 := m5.onto o6 (by omega); have hB7 := below_onto hB6 o6 (by omega); have kt6 : w6.cell? ⟨w0.heap.size, 0, none⟩ = some (.int .i64 m.t) := m6.cell 0; have ko6 := (sw r6).o; have h6 := (h.below hB7).as (s' := s.port X) rfl rfl rfl rfl; have hal : Below w6.heap.size w6 (w6.alloc (.cells #[.int .i64 (m.t + 8), .int .i64 2, .int .i64 B] 40)) := (Below.refl _ _).alloc (Nat.le_refl _) _; have hlit := own_litF fM okM w6.heap.size w6 #[.int .i64 (m.t + 8), .int .i64 2, .int .i64 B] [⟨m.t + 8, 2, B⟩] rfl (by unfold maxLen; simp) (Nat.le_refl _); have h7 := h6.below hal)
  | (at_builtin; refine appF okM rfl (.tmp 30) (.tmp 36) rfl base s.o [⟨m.t + 8, 2, B⟩] h7.o (hlit.sl okM) (by simp; omega) (by have := h7.ow.le; omega) ?_; intro v8 w8 ho8 hg8; have t8 := Mild.grown not_plainM h7.o hg8; have r8 := t8.row (r6.below hal) plain_st; have z8 := t8.row (z6.below hal) plain_st; have h8 : So base w8 x y v8 ve ((s.port X).sends ⟨m.t + 8, 2, B⟩) := ⟨(t8.ow h7.ow).as rfl rfl, ho8, h7.e.grown hg8 (fun k hk e => (OwnF.apart h7.o h7.e (by decide)) k hk e)⟩; have T8 := ((Mild.of (base := base) hB7).trans (Mild.of hal)).trans t8; have kt8 : w8.cell? ⟨w0.heap.size, 0, none⟩ = some (.int .i64 m.t) := by have hm : M3Row (w6.alloc (.cells #[.int .i64 (m.t + 8), .int .i64 2, .int .i64 B] 40)) w0.heap.size m := m6.below hal; have hq : w8.heap[w0.heap.size]? = _ := hg8.block w0.heap.size hm.lt (fun e => by have := (h.o.lt _ e.symm).2; omega); exact (World.cell?_of_block (a := ⟨w0.heap.size, 0, none⟩) hq).trans (hm.cell 0))
  | (refine st_so (l := s.o ++ [⟨m.t + 8, 2, B⟩]) rfl rfl rfl rfl r8 (ho8.one okM) ?_; rintro w9 r9 o9 -; have z9 := z8.onto o9 (by omega); have h9 := h8.row o9 r8 plain_st (by decide); have T9 := T8.new o9 (by omega); have kt9 : w9.cell? ⟨w0.heap.size, 0, none⟩ = some (.int .i64 m.t) := (o9.cell (q := ⟨w0.heap.size, 0, none⟩) (by show w0.heap.size ≠ w.heap.size; omega) (cell_lt kt8)).trans kt8; clear kt8 kt6)
  | (refine ld_s' rfl rfl rfl r9 ?_)
  | (go_at_call 242; refine (l9Through_spec _ x y v8 ve ((s.port X).sends ⟨m.t + 8, 2, B⟩) m.t _ base rfl h9 hl).mono ?_; rintro e w10 ⟨ve10, rfl, h10, t10⟩; have z10 := t10.row z9 plain_st)
  | (refine st_s rfl rfl rfl rfl z10 (one_own h10.ow.hx) (one_own h10.ow.hy) (h10.o.one okM) (h10.e.one okE) ?_; rintro w11 r11 o11 -))
 refine ret_s rfl rfl r11 rfl ?_
 exact ⟨v8, ve10, rfl, h10.row o11 z10 plain_st (by decide), (T9.trans t10).new o11 (by omega)⟩
theorem l9Arrive_spec (v x y vo ve : Value) (s : St) (m : M3) (w : World) (base : Nat) (hv : v = s.val x y vo ve) (h : So base w x y vo ve s) (hT : 0 ≤ m.t ∧ m.t ≤ 1000000100) (hlo : s.o.length ≤ 1000000) (hl : s.e.length ≤ 1000000) :
  Calls Tryz.prog 177 #[v, m.val] w fun e w' => Arrd base w w' e x y (s.arrive m) := by
 by_cases h1 : m.k = 1
 ·obtain ⟨X, B, I, hX⟩ : ∃ X B I, s.m.p.beat m.v = (X, B, I) := ⟨_, _, _, rfl⟩
  unfold St.arrive
  rw [if_pos h1, hX]
  cases I
  ·exact l9Arrive_beat v x y vo ve s m w base hv h h1 X B hX hT hlo
  ·exact l9Arrive_beaten v x y vo ve s m w base hv h h1 X B hX hT hlo hl
 by_cases h2 : m.k = 2
 ·obtain ⟨X, I, hX⟩ : ∃ X I, s.m.p.answer m.v m.t = (X, I) := ⟨_, _, rfl⟩
  unfold St.arrive
  rw [if_neg h1, if_pos h2, hX]
  cases I
  ·exact l9Arrive_answer v x y vo ve s m w base hv h h2 X hX
  ·exact l9Arrive_answered v x y vo ve s m w base hv h h2 X hX hl
 by_cases h3 : m.k = 3
 ·unfold St.arrive
  rw [if_neg h1, if_neg h2, if_pos h3]
  exact l9Arrive_keys v x y vo ve s m w base hv h h3
 ·unfold St.arrive
  rw [if_neg h1, if_neg h2, if_neg h3]
  exact l9Arrive_none v x y vo ve s m w base hv h h1 h2 h3
end Go.Proofs.YtghmkacamabndaaGreatDoor.Mem
namespace Go.Proofs.YtghmkacamabndaaGreatDoor.Draw
open Go.ChangeShapes Go.WideShapes Go.RowKit Base

structure CurAt (w : World) (p : Nat) (a : Option Addr) (len cap : Nat) : Prop where
 c0 : w.cell? ⟨p, 0, none⟩ = some (.slice a len cap)
 c1 : ∃ i : Nat, w.cell? ⟨p, 1, none⟩ = some (.int .i64 i) ∧ i ≤ len
 c2 : ∃ h : Int, w.cell? ⟨p, 2, none⟩ = some (.int .i64 h)
 f : ∀ o, w.frozen? ⟨p, o, none⟩ = false
 code : CodeAt w a len
 apart : 0 < len → ∀ x, a = some x → x.block ≠ p
 few : len ≤ 4096
theorem CurAt.lt {w : World} {p : Nat} {a : Option Addr} {len cap : Nat} (h : CurAt w p a len cap) : p < w.heap.size := cell_lt h.c0

theorem CurAt.onto {w w' : World} {p q : Nat} {a : Option Addr} {len cap : Nat} (h : CurAt w p a len cap) (ho : Onto q w w') (hq : p ≠ q) (hx : 0 < len → ∀ x, a = some x → x.block ≠ q) : CurAt w' p a len cap := by
 have hl := h.lt
 obtain ⟨c0, ⟨i, c1, hi⟩, ⟨g, c2⟩, f, hcode, hap, hfew⟩ := h
 exact ⟨by rw [ho.cell (q := ⟨p, 0, none⟩) hq hl]; exact c0, ⟨i, by rw [ho.cell (q := ⟨p, 1, none⟩) hq hl]; exact c1, hi⟩, ⟨g, by rw [ho.cell (q := ⟨p, 2, none⟩) hq hl]; exact c2⟩,
  fun o => by rw [ho.frozen (q := ⟨p, o, none⟩) hq hl]; exact f o, hcode.onto ho hx, hap, hfew⟩
theorem CurAt.below {w w' : World} {p : Nat} {a : Option Addr} {len cap : Nat} (h : CurAt w p a len cap) (ho : Below w.heap.size w w') : CurAt w' p a len cap := by
 have hl := h.lt
 obtain ⟨c0, ⟨i, c1, hi⟩, ⟨g, c2⟩, f, hcode, hap, hfew⟩ := h
 exact ⟨by rw [ho.cell (p := ⟨p, 0, none⟩) hl]; exact c0, ⟨i, by rw [ho.cell (p := ⟨p, 1, none⟩) hl]; exact c1, hi⟩, ⟨g, by rw [ho.cell (p := ⟨p, 2, none⟩) hl]; exact c2⟩,
  fun o => by rw [ho.frozen (p := ⟨p, o, none⟩) hl]; exact f o, hcode.below ho, hap, hfew⟩
theorem CurAt.drewN {w : World} {p : Nat} {a : Option Addr} {len cap : Nat} (h : CurAt w p a len cap) (n : Nat) : CurAt (w.drewN n) p a len cap := ⟨h.c0, h.c1, h.c2, h.f, h.code, h.apart, h.few⟩

def InR (z : Int) : Prop := -9223372036854775808 ≤ z ∧ z ≤ 9223372036854775807
theorem pick {p : Nat} {w w1 : World} {C : Array Value} {T : TypeId} (ho : Onto p (w.alloc (.cells C T)) w1) (hp : p < w.heap.size) (hC : ∀ v ∈ C.toList, ∃ z : Int, v = .int .i64 z ∧ InR z) (j : Nat) (hj : j < C.size) :
  ∃ z : Int, w1.cell? ⟨w.heap.size, j, none⟩ = some (.int .i64 z) ∧ InR z := by
 obtain ⟨z, hz, hr⟩ := hC C[j] (by simp)
 refine ⟨z, ?_, hr⟩
 rw [ho.cell (q := ⟨w.heap.size, j, none⟩) (by show w.heap.size ≠ p; omega) (by simp), World.cell?_alloc_new, Array.getElem?_eq_getElem hj, hz]

end Go.Proofs.YtghmkacamabndaaGreatDoor.Draw
namespace Go.Proofs.YtghmkacamabndaaGreatDoor.Draw
open Go.ChangeShapes Go.WideShapes Go.RowKit Base

end Go.Proofs.YtghmkacamabndaaGreatDoor.Draw
namespace Go.Proofs.YtghmkacamabndaaGreatDoor.Tmr
open Go.ChangeShapes Go.WideShapes Go.RowKit Base Num Slc Rw Draw Reg



theorem Row.some {w : World} {b : Nat} {t : Tm} {T : TypeId} (h : Row w b #[.int .i64 t.c, .int .i64 t.v, .int .i64 t.s, .int .i64 t.m] T) (i : Nat) (x : Int) : ∃ u : Tm, Row (w.setCell ⟨b, i, none⟩ (.int .i64 x)) b #[.int .i64 u.c, .int .i64 u.v, .int .i64 u.s, .int .i64 u.m] T := by
 have hs := h.set i (.int .i64 x)
 rcases i with _ | _ | _ | _ | i
 ·exact ⟨⟨x, t.v, t.s, t.m⟩, by simpa using hs⟩
 ·exact ⟨⟨t.c, x, t.s, t.m⟩, by simpa using hs⟩
 ·exact ⟨⟨t.c, t.v, x, t.m⟩, by simpa using hs⟩
 ·exact ⟨⟨t.c, t.v, t.s, x⟩, by simpa using hs⟩
 ·exact ⟨t, by simpa using hs⟩
end Go.Proofs.YtghmkacamabndaaGreatDoor.Tmr
namespace Go.Proofs.YtghmkacamabndaaGreatDoor.Dice
open Go.ChangeShapes Go.WideShapes Go.RowKit Base Draw

end Go.Proofs.YtghmkacamabndaaGreatDoor.Dice
namespace Go.Proofs.YtghmkacamabndaaGreatDoor.Tmr
open Go.ChangeShapes Go.WideShapes Go.RowKit Base Num Slc Rw Draw Reg

structure Gd (w : World) (p : Nat) (a : Option Addr) (len cap : Nat) (b5 b2 : Nat) (t : Tm) (W : World) : Prop where
 cur : CurAt W p a len cap
 r5 : Row W b5 #[.int .i64 t.c, .int .i64 t.v, .int .i64 t.s, .int .i64 t.m] 26
 r2 : ∃ u : Tm, Row W b2 #[.int .i64 u.c, .int .i64 u.v, .int .i64 u.s, .int .i64 u.m] 26
 bel : Below w.heap.size w W
structure Gp (w : World) (p : Nat) (a : Option Addr) (len : Nat) (b5 b2 : Nat) : Prop where
 np : w.heap.size ≤ p
 n2 : w.heap.size ≤ b2
 p2 : p ≠ b2
 p5 : p ≠ b5
 d52 : b5 ≠ b2
 old : 0 < len → ∀ x, a = some x → x.block < w.heap.size
theorem Gd.onto {w W W' : World} {p b5 b2 : Nat} {a : Option Addr} {len cap : Nat} {t : Tm} (h : Gd w p a len cap b5 b2 t W) (hp : Gp w p a len b5 b2) (ho : Onto p W W') (hc : CurAt W' p a len cap) : Gd w p a len cap b5 b2 t W' :=
 ⟨hc, h.r5.onto ho (Ne.symm hp.p5), h.r2.imp fun _ r => r.onto ho (Ne.symm hp.p2), below_onto h.bel ho hp.np⟩
theorem Gd.drew {w W : World} {p b5 b2 : Nat} {a : Option Addr} {len cap : Nat} {t : Tm} (h : Gd w p a len cap b5 b2 t W) : Gd w p a len cap b5 b2 t W.drew :=
 ⟨h.cur.drewN 1, h.r5.drewN 1, h.r2.imp fun _ r => r.drewN 1, h.bel.drew⟩
theorem Gd.store {w W : World} {p b5 b2 : Nat} {a : Option Addr} {len cap : Nat} {t : Tm} (h : Gd w p a len cap b5 b2 t W) (hp : Gp w p a len b5 b2) (u : Tm) : Gd w p a len cap b5 b2 t (W.setRow b2 #[.int .i64 u.c, .int .i64 u.v, .int .i64 u.s, .int .i64 u.m]) := by
 obtain ⟨q, hr⟩ := h.r2
 have ho : Onto b2 W (W.setRow b2 #[.int .i64 u.c, .int .i64 u.v, .int .i64 u.s, .int .i64 u.m]) := ⟨rfl, rfl, rfl, by simp, fun k hk _ => setRow_other W _ k _ hk⟩
 exact ⟨h.cur.onto ho hp.p2 (fun h0 x e => by have := hp.old h0 x e; have := hp.n2; omega), h.r5.onto ho hp.d52, ⟨u, Row.of (setRow_heap W _ _ _ _ _ hr.row)⟩, below_onto h.bel ho hp.n2⟩
end Go.Proofs.YtghmkacamabndaaGreatDoor.Tmr
namespace Go.Proofs.YtghmkacamabndaaGreatDoor.Tmr
open Go.ChangeShapes Go.WideShapes Go.RowKit Base Num Slc Rw Draw Reg

theorem Tm.may_mk {t : Tm} {n : Int} (h : t.ok = true) (h0 : 0 ≤ n) (h1 : n ≤ 100000) (h2 : t.c + n ≤ 1000000000) : t.may n = true := by
 simp [Tm.may, h, inn, h0, h1, h2]
theorem Tm.after_yes {t : Tm} {n : Int} (h : t.may n = true) : t.after n = (⟨t.c + n, (ticks t.s (mults t.c n (rate t.m)).toNat (t.v, 0)).1, t.s, t.m⟩, (ticks t.s (mults t.c n (rate t.m)).toNat (t.v, 0)).2) := by simp [Tm.after, h]
theorem Tm.after_ok {t : Tm} {n : Int} (h : t.may n = true) : (t.after n).1.ok = true := by
 obtain ⟨hok, hn, hcn⟩ := Tm.may_true h
 obtain ⟨hc, hv, hs, hm⟩ := Tm.ok_true hok
 rw [Tm.after_yes h]
 exact Tm.ok_mk (by simp; omega) (ticks_in t.s hs _ _ _ hv) hs hm
end Go.Proofs.YtghmkacamabndaaGreatDoor.Tmr
namespace Go.Proofs.YtghmkacamabndaaGreatDoor.Mem
open Go.ChangeShapes Go.WideShapes Go.RowKit Base Num Slc Rw Tmr Srl Rom Opl

theorem or_flag {f : Int} (h : inn f 0 7 = true) (k : Int) (hk : k = 1 ∨ k = 2 ∨ k = 4) : inn (bits .or .i64 f k) 0 7 = true := by
 have h8 := inn_true h
 have all : ∀ a : Fin 8, inn (bits .or .i64 (a.val : Int) 1) 0 7 = true ∧ inn (bits .or .i64 (a.val : Int) 2) 0 7 = true ∧ inn (bits .or .i64 (a.val : Int) 4) 0 7 = true := by decide +kernel
 obtain ⟨a, ha⟩ : ∃ a : Fin 8, (a.val : Int) = f := ⟨⟨f.toNat, by omega⟩, by show (f.toNat : Int) = f; omega⟩
 have := all a
 rw [ha] at this
 rcases hk with rfl | rfl | rfl
 ·exact this.1
 ·exact this.2.1
 ·exact this.2.2
theorem shift_bok (d bit : Int) (hb : inn bit 0 1 = true) : bok (2 * d % 256 + bit) = true := by
 have := inn_true hb
 have h2 : 0 ≤ 2 * d % 256 := Int.emod_nonneg _ (by omega)
 have h3 : 2 * d % 256 < 256 := Int.emod_lt_of_pos _ (by omega)
 have h4 : (2 * d % 256) % 2 = 0 := by omega
 refine bok_iff.2 ?_
 omega
theorem nul_ok : Sr.nul.ok = true := by decide
theorem beat_ok (s : Sr) (bit : Int) : (s.beat bit).1.ok = true := by
 unfold Sr.beat
 by_cases h : (s.ok && inn bit 0 1) = true
 ·rw [if_pos h]
  simp only [Bool.and_eq_true] at h
  obtain ⟨hok, hb⟩ := h
  by_cases h2 : (s.b && !s.l) = true
  ·rw [if_pos h2]
   have hd := shift_bok s.d bit hb
   obtain ⟨d, b, l, n, x, t⟩ := s
   cases b <;> cases l <;> cases t <;> simp [Sr.ok, clk, inn] at hok h2 ⊢
   all_goals (refine ⟨⟨hd, by omega⟩, ?_⟩)
   all_goals (by_cases hn : n = 1)
   all_goals simp [hn]
   all_goals omega
  ·rw [if_neg h2]; exact hok
 ·rw [if_neg h]; exact nul_ok
theorem answer_ok (s : Sr) (bit q : Int) : (s.answer bit q).1.ok = true := by
 unfold Sr.answer
 by_cases h : (s.ok && inn bit 0 1 && inn q 0 999999968) = true
 ·rw [if_pos h]
  simp only [Bool.and_eq_true] at h
  obtain ⟨⟨hok, hb⟩, hq⟩ := h
  have hq' := inn_true hq
  by_cases h2 : s.t = true
  ·rw [if_pos h2]
   have hd := shift_bok s.d bit hb
   obtain ⟨d, b, l, n, x, t⟩ := s
   by_cases hn : n = 1
   ·subst hn
    rw [if_pos rfl]
    cases b <;> cases l <;> cases t <;> simp [Sr.ok, clk, inn] at hok h2 ⊢
    all_goals (refine ⟨⟨hd, by omega⟩, by omega⟩)
   ·rw [if_neg (by simpa using hn)]
    cases b <;> cases l <;> cases t <;> simp [Sr.ok, clk, inn] at hok h2 ⊢
    all_goals (refine ⟨⟨hd, by omega⟩, by omega⟩)
  ·rw [if_neg h2]; exact hok
 ·rw [if_neg h]; exact nul_ok
theorem send_ok (s : Sr) (upto : Int) : (s.send upto).1.ok = true := by
 unfold Sr.send
 by_cases hok : s.ok = true
 ·rw [if_pos hok]
  by_cases h2 : 0 < s.x ∧ s.x ≤ upto
  ·rw [if_pos h2]
   obtain ⟨d, b, l, n, x, t⟩ := s
   cases b <;> cases l <;> cases t <;> simp [Sr.ok, clk, inn, bok] at hok h2 ⊢
   all_goals omega
  ·rw [if_neg h2]; exact hok
 ·rw [if_neg hok]; exact nul_ok

theorem port_okm {m : Mc} (h : m.ok = true) {p : Sr} (hp : p.ok = true) : ({ m with p := p } : Mc).ok = true := okm.2 { okm.1 h with p := hp }
theorem flag_okm {m : Mc} (h : m.ok = true) (k : Int) (hk : k = 1 ∨ k = 2 ∨ k = 4) : ({ m with fl := bits .or .i64 m.fl k } : Mc).ok = true := okm.2 { okm.1 h with fl := or_flag (okm.1 h).fl k hk }
theorem through_ok {s : St} (h : s.m.ok = true) (q : Int) : (s.through q).m.ok = true := flag_okm h 2 (.inr (.inl rfl))
structure Kpt (m : Mc) (s : St) : Prop where
 ok : s.m.ok = true
 k : s.m.k = m.k
 t : s.m.t = m.t
theorem Kpt.arrive {m : Mc} {s : St} (h : Kpt m s) {x : M3} (hx : x.ok = true) : Kpt m (s.arrive x) := by
 unfold St.arrive
 by_cases h1 : x.k = 1
 ·rw [if_pos h1]
  have hp := port_okm h.ok (beat_ok s.m.p x.v)
  split
  ·exact ⟨through_ok (s := (s.port (s.m.p.beat x.v).1).sends ⟨x.t + 8, 2, (s.m.p.beat x.v).2.1⟩) hp _, h.k, h.t⟩
  ·exact ⟨hp, h.k, h.t⟩
 rw [if_neg h1]
 by_cases h2 : x.k = 2
 ·rw [if_pos h2]
  have hp := port_okm h.ok (answer_ok s.m.p x.v x.t)
  split
  ·exact ⟨through_ok (s := s.port (s.m.p.answer x.v x.t).1) hp _, h.k, h.t⟩
  ·exact ⟨hp, h.k, h.t⟩
 rw [if_neg h2]
 by_cases h3 : x.k = 3
 ·rw [if_pos h3]
  refine ⟨?_, h.k, h.t⟩
  have hb : bok x.v = true := by
   simp only [M3.ok, Bool.and_eq_true] at hx
   have := hx.2
   rwa [if_neg (by omega), if_pos h3] at this
  have hk := okm.1 h.ok
  exact okm.2 { hk with fl := or_flag hk.fl 4 (.inr (.inr rfl)), ky := hb }
 ·rw [if_neg h3]; exact h
theorem Kpt.beats {m : Mc} {s : St} (h : Kpt m s) (fin : Int) : Kpt m (s.beats fin) := ⟨port_okm h.ok (send_ok s.m.p fin), h.k, h.t⟩
def sentOk (fin : Int) (x : M3) : Prop := x.t ≤ fin + 8 ∧ x.k ≠ 3
theorem arrive_o {s : St} {x : M3} {fin : Int} (h : ∀ y ∈ s.o, sentOk fin y) (hx : x.t ≤ fin) : ∀ y ∈ (s.arrive x).o, sentOk fin y := by
 have key : ∀ y ∈ s.o ++ [(⟨x.t + 8, 2, (s.m.p.beat x.v).2.1⟩ : M3)], sentOk fin y := fun y hy => by
  rcases List.mem_append.1 hy with hy | hy
  ·exact h y hy
  ·rw [List.mem_singleton] at hy
   subst hy
   exact ⟨by show x.t + 8 ≤ fin + 8; omega, by show (2 : Int) ≠ 3; omega⟩
 unfold St.arrive
 by_cases h1 : x.k = 1
 ·rw [if_pos h1]
  split <;> exact key
 rw [if_neg h1]
 by_cases h2 : x.k = 2
 ·rw [if_pos h2]
  split <;> exact h
 rw [if_neg h2]
 split <;> exact h
theorem send_in (s : Sr) (fin : Int) (h0 : 0 ≤ fin) : (s.send fin).2.1 ≤ fin := by
 unfold Sr.send
 split
 ·split
  ·rename_i h; exact h.2
  ·show (-1 : Int) ≤ fin; omega
 ·show (-1 : Int) ≤ fin; omega
theorem beats_o {s : St} {fin : Int} (h0 : 0 ≤ fin) (h : ∀ y ∈ s.o, sentOk fin y) : ∀ y ∈ (s.beats fin).o, sentOk fin y := fun y hy => by
 have hy' : y ∈ s.o ++ [(⟨(s.m.p.send fin).2.1 + 8, 1, (s.m.p.send fin).2.2⟩ : M3)] := hy
 rcases List.mem_append.1 hy' with hy | hy
 ·exact h y hy
 ·rw [List.mem_singleton] at hy
  subst hy
  have := send_in s.m.p fin h0
  exact ⟨by show (s.m.p.send fin).2.1 + 8 ≤ fin + 8; omega, by show (1 : Int) ≠ 3; omega⟩
theorem arrive_u {s : St} (x : M3) : (s.arrive x).u = s.u := by
 unfold St.arrive
 repeat' split
 all_goals rfl
theorem inbox_at {l : List M3} (h : inboxOk l = true) {i : Nat} (hi : i < l.length) : (M3.at' l i).ok = true := by
 simp only [inboxOk, Bool.and_eq_true, fitsTo, List.all_eq_true, List.mem_range] at h
 have := h.1 i hi
 simp only [fits, Bool.and_eq_true] at this
 exact this.1
structure Amid (m : Mc) (l : List M3) (fin : Int) (s : St) : Prop where
 k : Kpt m s
 o : ∀ y ∈ s.o, sentOk fin y
 u0 : 0 ≤ s.u
 u1 : s.u ≤ l.length
theorem Amid.taken {m : Mc} {l : List M3} {fin : Int} {s : St} (h : Amid m l fin s) (hl : inboxOk l = true) (ht : s.takes l fin = true) : Amid m l fin (s.taken l) := by
 simp only [St.takes, Bool.and_eq_true, decide_eq_true_eq] at ht
 have h1 := ht.1.1
 have h0 := h.u0
 have hlt : s.u.toNat < l.length := by omega
 have hk := h.k.arrive (inbox_at hl hlt)
 exact ⟨⟨hk.ok, hk.k, hk.t⟩, arrive_o h.o ht.1.2, by show 0 ≤ s.u + 1; omega, by show s.u + 1 ≤ l.length; omega⟩
theorem Amid.beats {m : Mc} {l : List M3} {fin : Int} {s : St} (h : Amid m l fin s) (h0 : 0 ≤ fin) : Amid m l fin (s.beats fin) :=
 ⟨h.k.beats fin, beats_o h0 h.o, h.u0, h.u1⟩
theorem events_all {m : Mc} {l : List M3} {fin : Int} (hl : inboxOk l = true) (hf : 0 ≤ fin) : ∀ (n : Nat) (s : St), Amid m l fin s → s.meas l ≤ n →
  Amid m l fin (s.events l fin n) ∧ (s.events l fin n).takes l fin = false ∧ (s.events l fin n).idle fin = true := by
 intro n
 induction n with
 | zero =>
  intro s h hn
  have e : s.events l fin 0 = s := rfl
  rw [e]
  refine ⟨h, ?_, ?_⟩
  ·cases ht : s.takes l fin with
   | false => rfl
   | true => have := meas_taken ht h.u0; omega
  ·cases hi : s.idle fin with
   | true => rfl
   | false => have := meas_beats (l := l) hi; omega
 | succ n ih =>
  intro s h hn
  cases ht : s.takes l fin with
  | true =>
   obtain ⟨e, hm⟩ := events_take ht h.u0 hn
   rw [e]
   exact ih _ (h.taken hl ht) hm
  | false =>
   cases hi : s.idle fin with
   | true => rw [events_done ht hi]; exact ⟨h, ht, hi⟩
   | false =>
    obtain ⟨e, hm⟩ := events_beat ht hi hn
    rw [e]
    exact ih _ (h.beats hf) hm
theorem line_cost {k : Int} (h : (line k).2.1 ≠ 0) : 1 ≤ (line k).2.2 ∧ (line k).2.2 ≤ 4 := by
 unfold line at h ⊢
 by_cases hk : 0 ≤ k ∧ k < 31
 ·rw [if_pos hk] at h ⊢
  have all : ∀ a : Fin 31, 1 ≤ (ops.getD a.val ([], 0, 0)).2.2 ∧ (ops.getD a.val ([], 0, 0)).2.2 ≤ 4 := by decide +kernel
  exact all ⟨k.toNat, by omega⟩
 ·rw [if_neg hk] at h; exact absurd rfl h
theorem exec_costs (m : Mc) : 1 ≤ m.exec.2.1 ∧ m.exec.2.1 ≤ 4 := by
 unfold Mc.exec
 split
 ·exact ⟨by show (1 : Int) ≤ 1; omega, by show (1 : Int) ≤ 4; omega⟩
 split
 ·exact ⟨by show (1 : Int) ≤ 1; omega, by show (1 : Int) ≤ 4; omega⟩
 ·rename_i h; exact line_cost h
theorem turn_cost (m : Mc) : 1 ≤ m.turn.2.1 ∧ m.turn.2.1 ≤ 5 := by
 unfold Mc.turn
 split
 ·have := exec_costs m.call.1
  exact ⟨this.1, by show m.call.1.exec.2.1 ≤ 5; omega⟩
 ·exact ⟨by show (1 : Int) ≤ 5; omega, by show (5 : Int) ≤ 5; omega⟩
theorem turn_like {m : Mc} (h : m.ok = true) : Like m m.turn.1 := by
 have h1 := call_like h
 unfold Mc.turn
 split
 ·have h2 := exec_like h1.1
  exact ⟨h2.1, h2.2.1.trans h1.2.1, h2.2.2.trans h1.2.2⟩
 ·exact h1
structure Stepd (m : Mc) (l : List M3) : Prop where
 ok : (m.stepped l).m.ok = true
 k : (m.stepped l).m.k = m.fin
 c : (m.stepped l).m.t.c = m.fin
 o : ∀ y ∈ (m.stepped l).o, sentOk m.fin y
 u0 : 0 ≤ (m.stepped l).u
 u1 : (m.stepped l).u ≤ l.length
 nx : (m.stepped l).u < l.length → m.fin < (M3.at' l (m.stepped l).u.toNat).t
 lo : m.k < m.fin
 hi : m.fin ≤ m.k + 5
theorem stepped_done {m : Mc} {l : List M3} (h : m.ok = true) (hl : inboxOk l = true) (hf : m.fin ≤ 999999900) : Stepd m l := by
 have hc := turn_cost m
 have hL := turn_like h
 have hk0 : m.k = m.t.c := (okm.1 h).k
 have htc := Tm.ok_true (okm.1 h).t
 have h0 : 0 ≤ m.fin := by unfold Mc.fin; omega
 have hA : Amid m.turn.1 l m.fin (St.first m) := ⟨⟨hL.1, rfl, rfl⟩, (fun y hy => by cases hy), Int.le_refl _, (by show (0 : Int) ≤ l.length; omega)⟩
 obtain ⟨hA', ht, hi⟩ := events_all hl h0 ((St.first m).meas l) (St.first m) hA (Nat.le_refl _)
 obtain ⟨s, hs⟩ : ∃ s, (St.first m).events l m.fin ((St.first m).meas l) = s := ⟨_, rfl⟩
 rw [hs] at hA' ht hi
 have e : m.stepped l = s.closed m.turn.2.1 m.fin := by unfold Mc.stepped St.evs; rw [hs]
 have hsk : s.m.t.c = m.k := by rw [hA'.k.t, hL.2.2, hk0]
 have hfe : m.fin = m.k + m.turn.2.1 := rfl
 have hmay : s.m.t.may m.turn.2.1 = true := Tm.may_mk (okm.1 hA'.k.ok).t (by omega) (by omega) (by omega)
 have hcc : (s.m.t.after m.turn.2.1).1.c = m.fin := by rw [Tm.after_yes hmay]; show s.m.t.c + m.turn.2.1 = m.fin; omega
 have hso := okm.1 hA'.k.ok
 rw [show Stepd m l = Stepd m l from rfl]
 refine ⟨?_, ?_, ?_, ?_, ?_, ?_, ?_, by omega, by omega⟩
 all_goals rw [e]
 ·unfold St.closed
  refine okm.2 { hso with t := Tm.after_ok hmay, k := hcc.symm, fl := ?_ }
  show inn (if 0 < (s.m.t.after m.turn.2.1).2 then bits .or .i64 s.m.fl 1 else s.m.fl) 0 7 = true
  split
  ·exact or_flag hso.fl 1 (.inl rfl)
  ·exact hso.fl
 ·rfl
 ·exact hcc
 ·exact hA'.o
 ·exact hA'.u0
 ·exact hA'.u1
 ·intro hu
  have hu' : s.u < l.length := hu
  show m.fin < (M3.at' l s.u.toNat).t
  simp only [St.takes, Bool.and_eq_false_iff, decide_eq_false_iff_not] at ht
  simp only [St.idle, Bool.or_eq_true, beq_iff_eq, decide_eq_true_eq] at hi
  rcases ht with (ht | ht) | ht
  ·omega
  ·omega
  ·exfalso
   simp only [Bool.or_eq_false_iff, beq_eq_false_iff_ne, ne_eq, decide_eq_false_iff_not] at ht
   rcases hi with hi | hi
   ·exact ht.1.1 hi
   ·exact ht.1.2 hi
theorem stepOf_yes {m : Mc} {l : List M3} (h : m.ok = true) (hl : inboxOk l = true) (hf : m.fin ≤ 999999900) : stepOf m l = (m.stepped l, true) := by
 unfold stepOf
 rw [if_pos (by simp [h, hl, hf, (stepped_done h hl hf).ok])]
theorem stepOf_no {m : Mc} {l : List M3} (h : ¬ (m.ok = true ∧ inboxOk l = true ∧ m.fin ≤ 999999900)) : stepOf m l = (St.nul, false) := by
 unfold stepOf
 rw [if_neg]
 simp only [Bool.and_eq_true, decide_eq_true_eq]
 rintro ⟨⟨⟨h1, h2⟩, h3⟩, _⟩
 exact h ⟨h1, h2, h3⟩
end Go.Proofs.YtghmkacamabndaaGreatDoor.Mem
namespace Go.Proofs.YtghmkacamabndaaGreatDoor.Reg
open Go.RowKit Base

def waitsBut (ops : Array Oper) (s t : Nat) : Bool := (List.range ops.size).all fun i => i == t || (wider ops ops.size [s]).contains i
def hasDep (ops : Array Oper) (j i : Nat) : Bool := match ops[j]? with
 | some o => (deps o).contains i
 | none => false
def twoT (ops : Array Oper) (s1 s2 k1 : Nat) (E1 : Value → World → Prop) (E2 : World → Prop) (vals : List Value) (j : Nat) (f : Nat → Value) (W : World) : Prop :=
 if j = s1 then E1 (f k1) W else if j = s2 then E2 W else knownT ops vals j f W
def twoR (s1 s2 k1 : Nat) (E1 : Value → World → Prop) (i : Nat) (f : Nat → Value) (W W' : World) : Prop :=
 if i = s1 then True else if i = s2 then E1 (f k1) W' else Below W.heap.size W W'
section
variable {P : Program} {ops : Array Oper} {Q : Exit → Act → World → Prop} {s1 s2 k1 : Nat} {a0 a : Act} {L : Nat → Bool} {w w' : World} {i : Nat} {o : Oper} {v : Value} {vals : List Value} {E1 : Value → World → Prop} {E2 : World → Prop}
theorem mono_two {n : Nat} (hds : dstOk ops n = true) (hk1 : (ops[s1]?).bind (·.dst) = some k1) (hdep : hasDep ops s2 s1 = true) (hne : s1 ≠ s2)
  (hE1 : ∀ v W W', E1 v W → Below W.heap.size W W' → E1 v W') (hE2 : ∀ W W', E2 W → Below W.heap.size W W' → E2 W') : MonoF ops (twoT ops s1 s2 k1 E1 E2 vals) (twoR s1 s2 k1 E1) := by
 intro L i j oi oj f f' w w' hi hj hLi hLj hd hf hT hR
 unfold twoT at hT ⊢
 unfold twoR at hR
 by_cases j1 : j = s1
 ·rw [if_pos j1] at hT ⊢
  have i1 : i ≠ s1 := fun e => by rw [e, ← j1, hLj] at hLi; cases hLi
  rw [if_neg i1] at hR
  by_cases i2 : i = s2
  ·rw [if_pos i2] at hR; exact hR
  ·rw [if_neg i2] at hR
   have hk : f' k1 = f k1 := hf k1 (fun e => by
    refine i1 (dst_one hds (by rw [hi]; exact e) hk1))
   rw [hk]; exact hE1 _ _ _ hT hR
 ·rw [if_neg j1] at hT ⊢
  by_cases j2 : j = s2
  ·rw [if_pos j2] at hT ⊢
   have i1 : i ≠ s1 := fun e => by
    have h1 := hdep
    unfold hasDep at h1
    rw [← j2, hj] at h1
    have := hd s1 (List.contains_iff_mem.1 h1)
    rw [← e, hLi] at this; cases this
   have i2 : i ≠ s2 := fun e => by rw [e, ← j2, hLj] at hLi; cases hLi
   rw [if_neg i1, if_neg i2] at hR
   exact hE2 _ _ hT hR
  ·rw [if_neg j2] at hT ⊢
   intro k hk
   rw [hf k (fun e => ?_)]
   ·exact hT k hk
   ·have : i = j := dst_one hds (by rw [hi]; exact e) hk
    rw [this, hLj] at hLi; cases hLi
theorem InvS.val2 {G : Bool → World → Prop} (h : InvS ops s1 G (twoT ops s1 s2 k1 E1 E2 vals) a0 L a w) (hr : ∀ d ∈ deps o, L d = true) (j k : Nat) {oj : Oper} (hj : ops[j]? = some oj) (hk : oj.dst = some k) (hd : (deps o).contains j = true) (h1 : j ≠ s1) (h2 : j ≠ s2) : a.eval (.tmp k) = vals.getD j undef := by
 have := h.get hr j hj hd
 unfold twoT at this
 rw [if_neg h1, if_neg h2] at this
 exact this k (by rw [hj]; exact hk)
theorem region_two {id : Nat} (hm : P.follows .mixedOrders = true) (hac : acyc ops = true) (s1 s2 k1 : Nat) (hs1 : s1 < ops.size) (hk1 : (ops[s1]?).bind (·.dst) = some k1) (hn2 : (ops[s2]?).bind (·.dst) = none) (hall : waitsBut ops s1 s2 = true) (hdep : hasDep ops s2 s1 = true) (hne : s1 ≠ s2) (hds : dstOk ops a0.tmps.size = true)
  (G : World → Prop) (E1 : Value → World → Prop) (E2 : World → Prop) (hE1 : ∀ v W W', E1 v W → Below W.heap.size W W' → E1 v W') (hE2 : ∀ W W', E2 W → Below W.heap.size W W' → E2 W') (vals : List Value) (hG : G w.drew)
  (step : ∀ (L : Nat → Bool) (i : Nat) (o : Oper) (a : Act) (w : World), i ≠ s1 → i ≠ s2 → ops[i]? = some o → InvS ops s1 (ge G fun _ => True) (twoT ops s1 s2 k1 E1 E2 vals) a0 L a w → G w → (∀ d ∈ deps o, L d = true) →
   wpOp P ops Q i (fun a' w' => ∃ v, a' = a.put o.dst v ∧ v = vals.getD i undef ∧ G w' ∧ Below w.heap.size w w') a w)
  (first : ∀ (L : Nat → Bool) (o : Oper) (a : Act) (w : World), ops[s1]? = some o → InvS ops s1 (ge G fun _ => True) (twoT ops s1 s2 k1 E1 E2 vals) a0 L a w → G w → (∀ d ∈ deps o, L d = true) →
   wpOp P ops Q s1 (fun a' w' => ∃ v, a' = a.put o.dst v ∧ E1 v w') a w)
  (second : ∀ (L : Nat → Bool) (o : Oper) (a : Act) (w : World), ops[s2]? = some o → InvS ops s1 (ge G fun _ => True) (twoT ops s1 s2 k1 E1 E2 vals) a0 L a w → E1 (a.tmps.getD k1 undef) w → (∀ d ∈ deps o, L d = true) →
   wpOp P ops Q s2 (fun a' w' => a' = a.put o.dst undef ∧ E1 (a.tmps.getD k1 undef) w' ∧ E2 w') a w)
  (done : ∀ a w, InvS ops s1 (ge G fun _ => True) (twoT ops s1 s2 k1 E1 E2 vals) a0 (fun _ => true) a w → E1 (a.tmps.getD k1 undef) w → E2 w → Q .normal a w)
  (h2s : s2 < ops.size) : (Code.region id ops true).wp P Q a0 w := by
 refine region_genS hm hac s1 hs1 (ge G fun _ => True) (twoT ops s1 s2 k1 E1 E2 vals) (twoR s1 s2 k1 E1) (mono_two hds hk1 hdep hne hE1 hE2) (by simpa [ge] using hG) ?_ ?_
 ·intro L i o a w hi hI hL hd
  have hil : i < ops.size := (Array.getElem?_eq_some_iff.1 hi).1
  by_cases i2 : i = s2
  ·subst i2
   have hd1 : L s1 = true := hd s1 (by
    have h1 := hdep
    unfold hasDep at h1
    rw [hi] at h1
    exact List.contains_iff_mem.1 h1)
   obtain ⟨o1, ho1⟩ : ∃ o1, ops[s1]? = some o1 := ⟨_, Array.getElem?_eq_getElem hs1⟩
   have hT := hI.told s1 o1 ho1 hd1
   unfold twoT at hT
   rw [if_pos rfl] at hT
   have hnd : o.dst = none := by rw [hi] at hn2; exact hn2
   refine wpOp_mono ?_ (second L o a w hi hI hT hd)
   rintro a' w' ⟨rfl, he1, he2⟩
   refine ⟨undef, rfl, ?_, by simp [ge, hd1], ?_⟩
   ·unfold twoT
    rw [if_neg (Ne.symm hne), if_pos rfl]; exact he2
   ·unfold twoR
    rw [if_neg (Ne.symm hne), if_pos rfl, hnd]; exact he1
  ·have hLs : L s1 = false := by
    cases hq : L s1 with
    | false => rfl
    | true =>
     have h1 := List.all_eq_true.1 hall i (List.mem_range.2 hil)
     rw [Bool.or_eq_true] at h1
     rcases h1 with h1 | h1
     ·exact absurd (by simpa using h1) i2
     ·have := wider_listed (L := L) hI.closed ops.size [s1] (fun j hj => by simp at hj; rw [hj]; exact hq) i (List.contains_iff_mem.1 h1)
      rw [this] at hL; cases hL
   have hg : G w := by have := hI.g; simpa [ge, hLs] using this
   by_cases i1 : i = s1
   ·subst i1
    refine wpOp_mono ?_ (first L o a w hi hI hg hd)
    rintro a' w' ⟨v, rfl, he⟩
    refine ⟨v, rfl, ?_, by simp [ge], ?_⟩
    ·unfold twoT
     rw [if_pos rfl]
     have hk' : o.dst = some k1 := by rw [hi] at hk1; exact hk1
     rw [hk']
     show E1 ((a.put (some k1) v).tmps.getD k1 undef) w'
     rw [getD_put_same _ _ _ (by rw [hI.size]; exact dst_lt hds (i := i) (by rw [hi]; exact hk'))]
     exact he
    ·unfold twoR
     rw [if_pos rfl]; trivial
   ·refine wpOp_mono ?_ (step L i o a w i1 i2 hi hI hg hd)
    rintro a' w' ⟨v, rfl, hv, he, hb⟩
    refine ⟨v, rfl, ?_, by simpa [ge, hLs, Ne.symm i1] using he, ?_⟩
    ·unfold twoT
     rw [if_neg i1, if_neg i2]
     intro k hk
     rw [hi] at hk
     have hk' : o.dst = some k := hk
     rw [hk']
     show (a.put (some k) v).tmps.getD k undef = _
     rw [getD_put_same _ _ _ (by rw [hI.size]; exact dst_lt hds (i := i) (by rw [hi]; exact hk')), hv]
    ·unfold twoR
     rw [if_neg i1, if_neg i2]; exact hb
 ·intro a w hI
  obtain ⟨o1, ho1⟩ : ∃ o1, ops[s1]? = some o1 := ⟨_, Array.getElem?_eq_getElem hs1⟩
  obtain ⟨o2, ho2⟩ : ∃ o2, ops[s2]? = some o2 := ⟨_, Array.getElem?_eq_getElem h2s⟩
  have hT1 := hI.told s1 o1 ho1 rfl
  have hT2 := hI.told s2 o2 ho2 rfl
  unfold twoT at hT1 hT2
  rw [if_pos rfl] at hT1
  rw [if_neg (Ne.symm hne), if_pos rfl] at hT2
  exact done a w hI hT1 hT2
end
end Go.Proofs.YtghmkacamabndaaGreatDoor.Reg
