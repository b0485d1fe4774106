/-
  What FnExactRunTo leans on: part 9.
-/
import Derived.Lib.SmallJoins
import Derived.ChangeSlices
import Derived.ProofKit
import Derived.OpenShut
import Derived.ChangeVars
import Derived.ChangeArms
import Derived.Lib.LaidTab
import Derived.Deep.DeepHandedRow
import Derived.Test.YtghmkacamabndaaGreatDoorRunP1
import Derived.Test.YtghmkacamabndaaGreatDoorRunP2
import Derived.Test.YtghmkacamabndaaGreatDoorRunP3
import Derived.Test.YtghmkacamabndaaGreatDoorRunP4
import Derived.Test.YtghmkacamabndaaGreatDoorRunP5
import Derived.Test.YtghmkacamabndaaGreatDoorRunP6
import Derived.Test.YtghmkacamabndaaGreatDoorRunP7
import Derived.Test.YtghmkacamabndaaGreatDoorRunP8
set_option linter.unusedVariables false
set_option linter.unusedSimpArgs false
set_option maxRecDepth 20000
namespace Go.Proofs.YtghmkacamabndaaGreatDoor.Mem
open Go.ChangeShapes Go.WideShapes Go.RowKit Base Num Slc Rw Tmr Srl Rom RomOf Opl Reg

def fnums : List FuncId := [189, 190, 191, 192, 193, 194, 195, 197, 198, 199, 201, 202, 204, 206, 207, 208, 210, 212, 214, 215, 217, 218, 219, 220, 221, 223, 224, 225, 226, 227, 228]
def fval (f : FuncId) : Value := .func (.func f) #[] #[]
def fvals : Array Value := (fnums.map fval).toArray
theorem built_ops : Tryz.prog.built 167 (fnums.zipIdx.map fun x => (x.2, fval x.1)) = some fvals := by kernel_rfl
theorem und_ops : Tryz.prog.underlying 167 = some (.array 31 166) := by kernel_rfl
theorem info_ops : (Tryz.prog.info? 167).map (·.size) = some 31 := by kernel_rfl
theorem fsize : fvals.size = 31 := rfl
theorem fone : fvals.all (·.oneCell') = true := by kernel_rfl
section
variable {ops : Array Oper} {rest : List Oper} {o : Oper} {a : Act} {w : World} {Q : Exit → Act → World → Prop}
theorem al_ops (hgd : o.guard = none) (ho : o.op = .alloc 167)
  (h : ∀ w' cs, cs.size = 31 → Row w' w.heap.size cs 167 → Below w.heap.size w w' → wpList Tryz.prog ops Q rest (a.put o.dst (.pointer (some ⟨w.heap.size, 0, none⟩))) w') : wpList Tryz.prog ops Q (o :: rest) a w :=
 wpList_plain hgd fun _ hK => by
  have e : (execOp a.eval o).run Tryz.prog w = .ok (.value (.pointer (some ⟨w.heap.size, 0, none⟩))) (w.alloc (.cells (Array.replicate 31 .nilFunc) 167)) := by
   unfold execOp
   rw [ho]
   kernel_rfl
  unfold Oper.wp
  rw [e]
  exact hK _ _ (h _ _ (by simp) (Row.new _ _ _) ((Below.refl _ _).alloc (Nat.le_refl _) _))
set_option maxRecDepth 100000 in
theorem bd_ops (hgd : o.guard = none) (ho : o.op = .build 167 ((fnums.zipIdx.map fun x => (x.2, Operand.func x.1)).toArray)) (h : wpList Tryz.prog ops Q rest (a.put o.dst (.agg fvals)) w) : wpList Tryz.prog ops Q (o :: rest) a w :=
 wpList_plain hgd fun _ hK => build_op (parts := fnums.zipIdx.map fun x => (x.2, Operand.func x.1)) (vals := fnums.zipIdx.map fun x => (x.2, fval x.1)) ho rfl built_ops (hK _ _ h)
end
set_option maxRecDepth 100000 in
theorem operations_impl (w : World) : Calls Tryz.prog 159 #[] w fun e w' => e = .returned (.agg fvals) ∧ Below w.heap.size w w' := by
 go_enter Tryz.func159, Tryz.ntmps159
 go_wp2_with (first
  | (refine al_ops rfl rfl ?_; intro w1 cs hcs r1 hb1; have l1 := r1.lt)
  | (refine bd_ops rfl rfl ?_)
  | (refine st_row rfl _ _ _ rfl rfl rfl r1 info_ops (hcs.trans fsize.symm) fone ?_; intro w2 r2 o2 s2))
 refine ret_row rfl rfl r2 und_ops rfl info_ops rfl ?_
 exact ⟨rfl, below_onto hb1 o2 (Nat.le_refl _)⟩
def Does (f : FuncId) (k : Nat) : Prop := ∀ (base : Nat) (w : World) (g : Nat) (x y : Value) (m : Mc) (n : Int), DSt base w g x y m n (-1) → m.ok = true → bok n = true →
 Calls Tryz.prog f #[.pointer (some ⟨g, 0, none⟩)] w fun e w' => e = .returned (.tuple #[]) ∧ Done base w w' g (m.does n k).1 n (m.does n k).2
structure Stands (k : Nat) (f : FuncId) (fn : Func) : Prop where
 at_ : ∀ w, (Instr.index 167 (.agg fvals) (.int .i64 (k : Int))).run Tryz.prog w = .ok (fval f) w
 func : Tryz.prog.funcs[f]? = some fn
 nm : (fn.name == "runtime.NumGoroutine") = false
 body : fn.body.isNone = false
 does : Does f k
theorem ops_at (k : Nat) (hk : k < 31) : ∃ f fn, Stands k f fn := by
 match k with
 | 0 => exact ⟨189, Tryz.f189, fun w => by kernel_rfl, Tryz.func189, by kernel_rfl, by kernel_rfl, fun base w g x y m n h h1 h2 => nop_impl h h1 h2⟩
 | 1 => exact ⟨190, Tryz.f190, fun w => by kernel_rfl, Tryz.func190, by kernel_rfl, by kernel_rfl, fun base w g x y m n h h1 h2 => lda_impl h h1 h2⟩
 | 2 => exact ⟨191, Tryz.f191, fun w => by kernel_rfl, Tryz.func191, by kernel_rfl, by kernel_rfl, fun base w g x y m n h h1 h2 => ldb_impl h h1 h2⟩
 | 3 => exact ⟨192, Tryz.f192, fun w => by kernel_rfl, Tryz.func192, by kernel_rfl, by kernel_rfl, fun base w g x y m n h h1 h2 => mab_impl h h1 h2⟩
 | 4 => exact ⟨193, Tryz.f193, fun w => by kernel_rfl, Tryz.func193, by kernel_rfl, by kernel_rfl, fun base w g x y m n h h1 h2 => mba_impl h h1 h2⟩
 | 5 => exact ⟨194, Tryz.f194, fun w => by kernel_rfl, Tryz.func194, by kernel_rfl, by kernel_rfl, fun base w g x y m n h h1 h2 => get_impl h h1 h2⟩
 | 6 => exact ⟨195, Tryz.f195, fun w => by kernel_rfl, Tryz.func195, by kernel_rfl, by kernel_rfl, fun base w g x y m n h h1 h2 => put_impl h h1 h2⟩
 | 7 => exact ⟨197, Tryz.f197, fun w => by kernel_rfl, Tryz.func197, by kernel_rfl, by kernel_rfl, fun base w g x y m n h h1 h2 => gib_impl h h1 h2⟩
 | 8 => exact ⟨198, Tryz.f198, fun w => by kernel_rfl, Tryz.func198, by kernel_rfl, by kernel_rfl, fun base w g x y m n h h1 h2 => pib_impl h h1 h2⟩
 | 9 => exact ⟨199, Tryz.f199, fun w => by kernel_rfl, Tryz.func199, by kernel_rfl, by kernel_rfl, fun base w g x y m n h h1 h2 => add_impl h h1 h2⟩
 | 10 => exact ⟨201, Tryz.f201, fun w => by kernel_rfl, Tryz.func201, by kernel_rfl, by kernel_rfl, fun base w g x y m n h h1 h2 => adb_impl h h1 h2⟩
 | 11 => exact ⟨202, Tryz.f202, fun w => by kernel_rfl, Tryz.func202, by kernel_rfl, by kernel_rfl, fun base w g x y m n h h1 h2 => sub_impl h h1 h2⟩
 | 12 => exact ⟨204, Tryz.f204, fun w => by kernel_rfl, Tryz.func204, by kernel_rfl, by kernel_rfl, fun base w g x y m n h h1 h2 => cmp_impl h h1 h2⟩
 | 13 => exact ⟨206, Tryz.f206, fun w => by kernel_rfl, Tryz.func206, by kernel_rfl, by kernel_rfl, fun base w g x y m n h h1 h2 => and_impl h h1 h2⟩
 | 14 => exact ⟨207, Tryz.f207, fun w => by kernel_rfl, Tryz.func207, by kernel_rfl, by kernel_rfl, fun base w g x y m n h h1 h2 => xor_impl h h1 h2⟩
 | 15 => exact ⟨208, Tryz.f208, fun w => by kernel_rfl, Tryz.func208, by kernel_rfl, by kernel_rfl, fun base w g x y m n h h1 h2 => rol_impl h h1 h2⟩
 | 16 => exact ⟨210, Tryz.f210, fun w => by kernel_rfl, Tryz.func210, by kernel_rfl, by kernel_rfl, fun base w g x y m n h h1 h2 => ror_impl h h1 h2⟩
 | 17 => exact ⟨212, Tryz.f212, fun w => by kernel_rfl, Tryz.func212, by kernel_rfl, by kernel_rfl, fun base w g x y m n h h1 h2 => inb_impl h h1 h2⟩
 | 18 => exact ⟨214, Tryz.f214, fun w => by kernel_rfl, Tryz.func214, by kernel_rfl, by kernel_rfl, fun base w g x y m n h h1 h2 => deb_impl h h1 h2⟩
 | 19 => exact ⟨215, Tryz.f215, fun w => by kernel_rfl, Tryz.func215, by kernel_rfl, by kernel_rfl, fun base w g x y m n h h1 h2 => jmp_impl h h1 h2⟩
 | 20 => exact ⟨217, Tryz.f217, fun w => by kernel_rfl, Tryz.func217, by kernel_rfl, by kernel_rfl, fun base w g x y m n h h1 h2 => jpz_impl h h1 h2⟩
 | 21 => exact ⟨218, Tryz.f218, fun w => by kernel_rfl, Tryz.func218, by kernel_rfl, by kernel_rfl, fun base w g x y m n h h1 h2 => jnz_impl h h1 h2⟩
 | 22 => exact ⟨219, Tryz.f219, fun w => by kernel_rfl, Tryz.func219, by kernel_rfl, by kernel_rfl, fun base w g x y m n h h1 h2 => jpc_impl h h1 h2⟩
 | 23 => exact ⟨220, Tryz.f220, fun w => by kernel_rfl, Tryz.func220, by kernel_rfl, by kernel_rfl, fun base w g x y m n h h1 h2 => cal_impl h h1 h2⟩
 | 24 => exact ⟨221, Tryz.f221, fun w => by kernel_rfl, Tryz.func221, by kernel_rfl, by kernel_rfl, fun base w g x y m n h h1 h2 => ret_impl h h1 h2⟩
 | 25 => exact ⟨223, Tryz.f223, fun w => by kernel_rfl, Tryz.func223, by kernel_rfl, by kernel_rfl, fun base w g x y m n h h1 h2 => psh_impl h h1 h2⟩
 | 26 => exact ⟨224, Tryz.f224, fun w => by kernel_rfl, Tryz.func224, by kernel_rfl, by kernel_rfl, fun base w g x y m n h h1 h2 => pop_impl h h1 h2⟩
 | 27 => exact ⟨225, Tryz.f225, fun w => by kernel_rfl, Tryz.func225, by kernel_rfl, by kernel_rfl, fun base w g x y m n h h1 h2 => eni_impl h h1 h2⟩
 | 28 => exact ⟨226, Tryz.f226, fun w => by kernel_rfl, Tryz.func226, by kernel_rfl, by kernel_rfl, fun base w g x y m n h h1 h2 => dis_impl h h1 h2⟩
 | 29 => exact ⟨227, Tryz.f227, fun w => by kernel_rfl, Tryz.func227, by kernel_rfl, by kernel_rfl, fun base w g x y m n h h1 h2 => rti_impl h h1 h2⟩
 | 30 => exact ⟨228, Tryz.f228, fun w => by kernel_rfl, Tryz.func228, by kernel_rfl, by kernel_rfl, fun base w g x y m n h h1 h2 => hlt_impl h h1 h2⟩
 | k + 31 => omega
section
variable {ops : Array Oper} {rest : List Oper} {o : Oper} {a : Act} {w : World} {Q : Exit → Act → World → Prop} {x y : Operand} {k : Nat} {f : FuncId} {fn : Func}
theorem ix_ops (hgd : o.guard = none) (ho : o.op = .index 167 x y) (hx : a.eval x = .agg fvals) (hy : a.eval y = .int .i64 (k : Int)) (hs : Stands k f fn)
  (h : wpList Tryz.prog ops Q rest (a.put o.dst (fval f)) w) : wpList Tryz.prog ops Q (o :: rest) a w :=
 wpList_plain hgd fun _ hK => by
  unfold Oper.wp execOp
  simp only [ho, hx, hy, Sem.run_bind, Result.andThen_ok, hs.at_ w]
  exact hK _ _ h
theorem call_dyn {tys : Array TypeId} (hgd : o.guard = none) (ho : o.op = .call { callee := .value x, args := #[y], argTypes := tys }) (hx : a.eval x = fval f) (hs : Stands k f fn)
  (h : Calls Tryz.prog f #[a.eval y] w fun e w' => ∃ v, e = .returned v ∧ wpList Tryz.prog ops Q rest (a.put o.dst v) w') : wpList Tryz.prog ops Q (o :: rest) a w :=
 wpList_plain hgd fun _ hK => by
  unfold Oper.wp execOp
  have hn' : ¬ fn.name = "runtime.NumGoroutine" := by simpa using hs.nm
  have hb' : ¬ fn.body = none := fun e => by have := hs.body; simp [e] at this
  have e : (do let d ← resolve a.eval { callee := .value x, args := #[y], argTypes := tys } o.type; invoke d.target d.args : Sem Next).run Tryz.prog w = .ok (.enter f #[a.eval y]) w := by
   simp [resolve, hx, fval, Deferred.ofValue, invoke, callFunc, hs.func, hn', hb']
  rw [ho]
  show o.upon Tryz.prog a _ Q ((do let d ← resolve a.eval { callee := .value x, args := #[y], argTypes := tys } o.type; invoke d.target d.args : Sem Next).run Tryz.prog w)
  rw [e, Oper.upon_enter]
  refine h.mono ?_
  rintro e w' ⟨v, rfl, hk⟩
  exact hK _ _ hk
end
end Go.Proofs.YtghmkacamabndaaGreatDoor.Mem
namespace Go.Proofs.YtghmkacamabndaaGreatDoor.Mem
open Go.ChangeShapes Go.WideShapes Go.RowKit Base Num Slc Rw Tmr Srl Rom RomOf Opl Reg

theorem built_de (x y : Value) (m : Mc) : Tryz.prog.built 164 [(0, m.val x y), (2, .int .i64 (-1))] = some (dcells x y m 0 (-1)) := by kernel_rfl
theorem OpsAt.onto {w w' : World} {g : Nat} (h : OpsAt w) (ho : Onto g w w') (hg : g ≠ 0) : OpsAt w' := by
 have h0 := h.lt
 obtain ⟨t, fz, h⟩ := h
 exact ⟨t, fz, by rw [ho.block 0 (fun e => hg e.symm) h0]; exact h⟩
theorem dall_one {x y : Value} (hx : x.oneCell' = true) (hy : y.oneCell' = true) (m : Mc) (n o : Int) : (dcells x y m n o).all (·.oneCell') = true := by
 unfold Value.oneCell' at hx hy
 simp only [dcells, List.all_toArray, List.all_cons, List.all_nil, Value.oneCell', hx, hy, Bool.and_true]
section
variable {ops : Array Oper} {rest : List Oper} {o : Oper} {a : Act} {w : World} {Q : Exit → Act → World → Prop} {p q : Operand} {g k : Nat} {x y : Value} {m : Mc}
theorem al_de (hgd : o.guard = none) (ho : o.op = .alloc 164)
  (h : ∀ w', DRow w' w.heap.size nil64 nil64 Mc.nul 0 0 → Below w.heap.size w w' → wpList Tryz.prog ops Q rest (a.put o.dst (.pointer (some ⟨w.heap.size, 0, none⟩))) w') : wpList Tryz.prog ops Q (o :: rest) a w :=
 wpList_plain hgd fun _ hK => by
  have e : (execOp a.eval o).run Tryz.prog w = .ok (.value (.pointer (some ⟨w.heap.size, 0, none⟩))) (w.alloc (.cells (dcells nil64 nil64 Mc.nul 0 0) 164)) := by
   unfold execOp
   rw [ho]
   kernel_rfl
  unfold Oper.wp
  rw [e]
  exact hK _ _ (h _ (Row.new _ _ _) ((Below.refl _ _).alloc (Nat.le_refl _) _))
theorem bd_de (hgd : o.guard = none) (ho : o.op = .build 164 #[(0, p), (2, .const (.int .i64 (-1)))]) (hp : a.eval p = m.val x y) (h : wpList Tryz.prog ops Q rest (a.put o.dst (.agg (dcells x y m 0 (-1)))) w) : wpList Tryz.prog ops Q (o :: rest) a w :=
 wpList_plain hgd fun _ hK => build_op (parts := [(0, p), (2, .const (.int .i64 (-1)))]) (vals := [(0, m.val x y), (2, .int .i64 (-1))]) ho (by simp only [List.map_cons, List.map_nil, hp]; rfl) (built_de x y m) (hK _ _ h)
theorem st_de {x0 y0 : Value} {m0 : Mc} {n0 o0 n1 o1 : Int} (hgd : o.guard = none) (ho : o.op = .store 164 p q) (hx : a.eval p = .pointer (some ⟨g, 0, none⟩)) (hy : a.eval q = .agg (dcells x y m n1 o1)) (hr : DRow w g x0 y0 m0 n0 o0) (h1 : x.oneCell' = true) (h2 : y.oneCell' = true)
  (h : ∀ w', DRow w' g x y m n1 o1 → Onto g w w' → w'.heap.size = w.heap.size → wpList Tryz.prog ops Q rest (a.put o.dst undef) w') : wpList Tryz.prog ops Q (o :: rest) a w :=
 st_row hgd _ p q ho hx hy hr info_de rfl (dall_one h1 h2 m _ _) h
theorem ret_mc3 {fn : Func} {R : Ending → World → Prop} {q u u2 : Tmp} {v v2 : Value} (h : fn.results = #[.cell q 30, .tmp u, .tmp u2]) (hp : a.tmps.getD q undef = .pointer (some ⟨g, 0, none⟩)) (hr : MRow w g x y m) (hde : a.defers = []) (hv : a.tmps.getD u undef = v) (hv2 : a.tmps.getD u2 undef = v2)
  (hR : R (.returned (.tuple #[m.val x y, v, v2])) w) : bodyPost Tryz.prog fn R .ret a w := ret_row_tmp2 h hp hr Tryz.underlying30 rfl info_mc hde hv hv2 hR
end
def Ans (base : Nat) (w' : World) (e : Ending) (r : Mc × Int × Int) : Prop := ∃ v, e = .returned (.tuple #[v, .int .i64 r.2.1, .int .i64 r.2.2]) ∧ MOwn base w' v r.1
theorem Ans.mk {base b : Nat} {w' : World} {x y : Value} {m : Mc} {c o : Int} (h1 : Own b w' x m.rom) (h2 : Own b w' y m.ram) (h3 : ∀ k, x.ownBlock = some k → y.ownBlock ≠ some k) (hb : base ≤ b) : Ans base w' (.returned (.tuple #[m.val x y, .int .i64 c, .int .i64 o])) (m, c, o) :=
 ⟨_, rfl, x, y, rfl, h1.mono hb, h2.mono hb, h3⟩

set_option maxHeartbeats 2000000 in
theorem executed_no (v : Value) (m : Mc) (w : World) (hm : MSl w v m) (hok : m.ok = false) :
  Calls Tryz.prog 113 #[v] w fun e w' => Ans w.heap.size w' e (Mc.nul, 0, -1) ∧ Below w.heap.size w w' := by
 obtain ⟨vr, va, hv, hr, ha⟩ := hm
 go_enter Tryz.func113, Tryz.ntmps113
 go_wp2_with (first
   | (refine box_m rfl rfl hv ?_; intro w0 r0 hB0)
   | (refine al_mc rfl rfl ?_; intro w1 z1 hB1; have r1 := r0.below hB1; have hB2 := hB0.trans (hB1.mono hB0.size); have l0 := r0.lt; have lz := z1.lt)
   | (refine ld_mc rfl rfl rfl r1 ?_)
   | (go_at_call 20; refine (machineOk_impl _ m _ ⟨vr, va, rfl, hr.below hB2, ha.below hB2⟩).mono ?_; rintro e w2 ⟨rfl, hb2⟩; rw [hok]; have hB3 := hB2.trans (hb2.mono hB2.size); have z2 := z1.below hb2; replace r1 := r1.below hb2)
   | (refine bd_nul rfl rfl ?_)
   | (refine st_mc rfl rfl rfl rfl z2 rfl rfl ?_; intro w6 r6 o6 s6))
 refine ret_mc3 rfl rfl r6 rfl rfl rfl ?_
 exact ⟨Ans.mk (Own.nil w.heap.size _) (Own.nil _ _) (by simp [Value.ownBlock]) (Nat.le_refl _), below_onto hB3 o6 (by omega)⟩
set_option maxHeartbeats 2000000 in
theorem executed_idle (v : Value) (m : Mc) (w : World) (hm : MSl w v m) (hok : m.ok = true) (hi : (m.h || m.s) = true) :
  Calls Tryz.prog 113 #[v] w fun e w' => Ans w.heap.size w' e (m, 1, -1) ∧ Below w.heap.size w w' := by
 obtain ⟨vr, va, hv, hr, ha⟩ := hm
 have hR := Mc.right hok
 have hR1 := hR.rom
 have hR2 : Hid (m.ram.length = 64) := hR.ram
 cases hh : m.h
 ·have hs : m.s = true := by simpa [hh] using hi
  go_enter Tryz.func113, Tryz.ntmps113
  go_wp2_with (first
   | (refine box_m rfl rfl hv ?_; intro w0 r0 hB0)
   | (refine al_mc rfl rfl ?_; intro w1 z1 hB1; have r1 := r0.below hB1; have hB2 := hB0.trans (hB1.mono hB0.size); have l0 := r0.lt; have lz := z1.lt)
   | (refine ld_mc rfl rfl rfl r1 ?_)
   | (go_at_call 20; refine (machineOk_impl _ m _ ⟨vr, va, rfl, hr.below hB2, ha.below hB2⟩).mono ?_; rintro e w2 ⟨rfl, hb2⟩; rw [hok]; have hB3 := hB2.trans (hb2.mono hB2.size); have z2 := z1.below hb2; replace r1 := r1.below hb2))
  go_at_call 83
  refine (machineCopy_impl _ m _ ⟨vr, va, rfl, hr.below hB3, ha.below hB3⟩ (by omega) (by have := hR2.out; omega) (by omega) (by have := hR2.out; omega)).mono ?_
  rintro e w4 ⟨v4, rfl, ⟨x4, y4, rfl, ho4, hp4, ha4⟩, hb4⟩
  have hB4 := hB3.trans (hb4.mono hB3.size)
  have z4 := z2.below hb4
  have s34 := z2.lt
  have r4 := r1.below hb4
  have lr4 := r4.lt
  have lz4 := z4.lt
  have sB3 := hB3.size
  have sb4 := hb4.size
  have hxl := ho4.lt
  have hyl := hp4.lt
  clear z1 z2 r1
  go_wp2_with (first
   | (refine al_mc rfl rfl ?_; intro w5 z5 hB5; have lz5 := z5.lt; have r5 := r4.below hB5; have z5' := z4.below hB5; have hp5 := hp4.below hB5; have ho5 := ho4.below hB5)
   | (refine st_mc rfl rfl rfl rfl z5 (one_own ho4) (one_own hp4) ?_; intro w6 c6 o6 s6; have hp6 := hp5.onto o6 (fun e => by have := hyl _ e; omega); have ho6 := ho5.onto o6 (fun e => by have := hxl _ e; omega); have z6 := z5'.onto o6 (by omega); have r6 := r5.onto o6 (by omega); have hB6 := below_onto (hB4.trans (hB5.mono hB4.size)) o6 (by have := hB4.size; omega); have kh := (cw r6).h; have ks := (cw r6).s; have kp := (cw r6).pc; clear z5 z5' r5 hp5 ho5; rw [hh] at kh; rw [hs] at ks)
   | (refine ld_mc rfl rfl rfl c6 ?_)
   | (refine st_mc rfl rfl rfl rfl z6 (one_own ho6) (one_own hp6) ?_; intro w7 c7 o7 s7))
  refine ret_mc3 rfl rfl c7 rfl rfl rfl ?_
  exact ⟨Ans.mk (ho6.onto o7 (fun e => by have := hxl _ e; omega)) (hp6.onto o7 (fun e => by have := hyl _ e; omega)) ha4 (by omega), below_onto hB6 o7 (by omega)⟩
 ·go_enter Tryz.func113, Tryz.ntmps113
  go_wp2_with (first
   | (refine box_m rfl rfl hv ?_; intro w0 r0 hB0)
   | (refine al_mc rfl rfl ?_; intro w1 z1 hB1; have r1 := r0.below hB1; have hB2 := hB0.trans (hB1.mono hB0.size); have l0 := r0.lt; have lz := z1.lt)
   | (refine ld_mc rfl rfl rfl r1 ?_)
   | (go_at_call 20; refine (machineOk_impl _ m _ ⟨vr, va, rfl, hr.below hB2, ha.below hB2⟩).mono ?_; rintro e w2 ⟨rfl, hb2⟩; rw [hok]; have hB3 := hB2.trans (hb2.mono hB2.size); have z2 := z1.below hb2; replace r1 := r1.below hb2))
  go_at_call 83
  refine (machineCopy_impl _ m _ ⟨vr, va, rfl, hr.below hB3, ha.below hB3⟩ (by omega) (by have := hR2.out; omega) (by omega) (by have := hR2.out; omega)).mono ?_
  rintro e w4 ⟨v4, rfl, ⟨x4, y4, rfl, ho4, hp4, ha4⟩, hb4⟩
  have hB4 := hB3.trans (hb4.mono hB3.size)
  have z4 := z2.below hb4
  have s34 := z2.lt
  have r4 := r1.below hb4
  have lr4 := r4.lt
  have lz4 := z4.lt
  have sB3 := hB3.size
  have sb4 := hb4.size
  have hxl := ho4.lt
  have hyl := hp4.lt
  clear z1 z2 r1
  go_wp2_with (first
   | (refine al_mc rfl rfl ?_; intro w5 z5 hB5; have lz5 := z5.lt; have r5 := r4.below hB5; have z5' := z4.below hB5; have hp5 := hp4.below hB5; have ho5 := ho4.below hB5)
   | (refine st_mc rfl rfl rfl rfl z5 (one_own ho4) (one_own hp4) ?_; intro w6 c6 o6 s6; have hp6 := hp5.onto o6 (fun e => by have := hyl _ e; omega); have ho6 := ho5.onto o6 (fun e => by have := hxl _ e; omega); have z6 := z5'.onto o6 (by omega); have r6 := r5.onto o6 (by omega); have hB6 := below_onto (hB4.trans (hB5.mono hB4.size)) o6 (by have := hB4.size; omega); have kh := (cw r6).h; have ks := (cw r6).s; have kp := (cw r6).pc; clear z5 z5' r5 hp5 ho5; rw [hh] at kh)
   | (refine ld_mc rfl rfl rfl c6 ?_)
   | (refine st_mc rfl rfl rfl rfl z6 (one_own ho6) (one_own hp6) ?_; intro w7 c7 o7 s7))
  refine ret_mc3 rfl rfl c7 rfl rfl rfl ?_
  exact ⟨Ans.mk (ho6.onto o7 (fun e => by have := hxl _ e; omega)) (hp6.onto o7 (fun e => by have := hyl _ e; omega)) ha4 (by omega), below_onto hB6 o7 (by omega)⟩
set_option maxHeartbeats 2000000 in
theorem executed_stuck (v : Value) (m : Mc) (w : World) (hm : MSl w v m) (ho : OpsAt w) (hok : m.ok = true) (hi : (m.h || m.s) = false) (hz : m.size' = 0) :
  Calls Tryz.prog 113 #[v] w fun e w' => Ans w.heap.size w' e ({ m with s := true }, 1, -1) ∧ Below w.heap.size w w' := by
 obtain ⟨vr, va, hv, hr, ha⟩ := hm
 have hR := Mc.right hok
 have hR1 := hR.rom
 have hR2 : Hid (m.ram.length = 64) := hR.ram
 have hh : m.h = false := by simp at hi; exact hi.1
 have hs : m.s = false := by simp at hi; exact hi.2
 have hcd : m.readAt m.pc = m.code := readAt_ok hok (okm.1 hok).pc
 have hz' : (line m.code).2.1 = 0 := hz
 clear hz
 ·go_enter Tryz.func113, Tryz.ntmps113
  go_wp2_with (first
   | (refine box_m rfl rfl hv ?_; intro w0 r0 hB0)
   | (refine al_mc rfl rfl ?_; intro w1 z1 hB1; have r1 := r0.below hB1; have hB2 := hB0.trans (hB1.mono hB0.size); have l0 := r0.lt; have lz := z1.lt)
   | (refine ld_mc rfl rfl rfl r1 ?_)
   | (go_at_call 20; refine (machineOk_impl _ m _ ⟨vr, va, rfl, hr.below hB2, ha.below hB2⟩).mono ?_; rintro e w2 ⟨rfl, hb2⟩; rw [hok]; have hB3 := hB2.trans (hb2.mono hB2.size); have z2 := z1.below hb2; replace r1 := r1.below hb2))
  go_at_call 83
  refine (machineCopy_impl _ m _ ⟨vr, va, rfl, hr.below hB3, ha.below hB3⟩ (by omega) (by have := hR2.out; omega) (by omega) (by have := hR2.out; omega)).mono ?_
  rintro e w4 ⟨v4, rfl, ⟨x4, y4, rfl, ho4, hp4, ha4⟩, hb4⟩
  have hB4 := hB3.trans (hb4.mono hB3.size)
  have z4 := z2.below hb4
  have s34 := z2.lt
  have r4 := r1.below hb4
  have lr4 := r4.lt
  have lz4 := z4.lt
  have sB3 := hB3.size
  have sb4 := hb4.size
  have hxl := ho4.lt
  have hyl := hp4.lt
  clear z1 z2 r1
  go_wp2_with (first
   | (refine al_mc rfl rfl ?_; intro w5 z5 hB5; have lz5 := z5.lt; have r5 := r4.below hB5; have z5' := z4.below hB5; have hp5 := hp4.below hB5; have ho5 := ho4.below hB5)
   | (refine st_mc rfl rfl rfl rfl z5 (one_own ho4) (one_own hp4) ?_; intro w6 c6 o6 s6; have hp6 := hp5.onto o6 (fun e => by have := hyl _ e; omega); have ho6 := ho5.onto o6 (fun e => by have := hxl _ e; omega); have z6 := z5'.onto o6 (by omega); have r6 := r5.onto o6 (by omega); have hB6 := below_onto (hB4.trans (hB5.mono hB4.size)) o6 (by have := hB4.size; omega); have kh := (cw r6).h; have ks := (cw r6).s; have kp := (cw r6).pc; clear z5 z5' r5 hp5 ho5; rw [hh] at kh; rw [hs] at ks)
   | (refine ld_mc rfl rfl rfl r6 ?_)
   | (go_at_call 156; refine (readAt_impl _ m _ _ ⟨vr, va, rfl, hr.below hB6, ha.below hB6⟩).mono ?_; rintro e w7 ⟨rfl, hb7⟩; rw [hcd]; have hB7 := hB6.trans (hb7.mono hB6.size); have z7 := z6.below hb7; have c7 := c6.below hb7; have hp7 := hp6.below hb7; have ho7 := ho6.below hb7; clear kh ks kp)
   | (go_at_call 157; refine (sizeOf_impl _ _ (ho.below hB7)).mono ?_; rintro e w8 ⟨rfl, hb8⟩; rw [hz']; have hB8 := hB7.trans (hb8.mono hB7.size); have z8 := z7.below hb8; have c8 := c7.below hb8; have hp8 := hp7.below hb8; have ho8 := ho7.below hb8)
   | (refine st_yes (m' := { m with s := true }) rfl rfl rfl rfl c8 rfl rfl ?_; intro w9 c9 o9 s9; have z9 := z8.onto o9 (by omega); have hp9 := hp8.onto o9 (fun e => by have := hyl _ e; omega); have ho9 := ho8.onto o9 (fun e => by have := hxl _ e; omega); have hB9 := below_onto hB8 o9 (by omega))
   | (refine ld_mc rfl rfl rfl c9 ?_)
   | (refine st_mc rfl rfl rfl rfl z9 (one_own ho9) (one_own hp9) ?_; intro w10 c10 o10 s10))
  refine ret_mc3 rfl rfl c10 rfl rfl rfl ?_
  exact ⟨Ans.mk (ho9.onto o10 (fun e => by have := hxl _ e; omega)) (hp9.onto o10 (fun e => by have := hyl _ e; omega)) ha4 (by omega), below_onto hB9 o10 (by omega)⟩
section
variable {op : Oper} {a : Act} {w : World} {K : Act → World → Prop} {Q : Exit → Act → World → Prop} {p q : Operand} {g : Nat} {x y x0 y0 : Value} {m m0 : Mc}
theorem sm_op (ho : op.op = .store 30 p q) (hx : a.eval p = .pointer (some ⟨g, 0, none⟩)) (hy : a.eval q = m.val x y) (hr : MRow w g x0 y0 m0) (h1 : x.oneCell' = true) (h2 : y.oneCell' = true)
  (h : ∀ w', MRow w' g x y m → Onto g w w' → K (a.put op.dst undef) w') : op.wp Tryz.prog a w K Q :=
 wp_store_row _ p q ho g _ hx hy _ _ hr.row info_mc rfl (all_one h1 h2 m)
  (h _ (Row.of (setRow_heap w g _ _ _ _ hr.row)) ⟨rfl, rfl, rfl, by simp, fun k hk _ => setRow_other w g k _ hk⟩)
end
structure Gx (w : World) (base g g2 : Nat) (x y : Value) (m : Mc) (n o : Int) (b : Bool) (W : World) : Prop where
 d : DSt base W g x y m n o
 t : OpsAt W
 bel : Below w.heap.size w W
 res : if b = true then MRow W g2 x y m else MRow W g2 nil64 nil64 Mc.nul
theorem Gx.below {w W W' : World} {base g g2 : Nat} {x y : Value} {m : Mc} {n o : Int} {b : Bool} (h : Gx w base g g2 x y m n o b W) (hb : Below W.heap.size W W') : Gx w base g g2 x y m n o b W' :=
 ⟨h.d.below hb, h.t.below hb, h.bel.trans (hb.mono h.bel.size), by have := h.res; cases b <;> exact Row.below this hb⟩
theorem Gx.drew {w W : World} {base g g2 : Nat} {x y : Value} {m : Mc} {n o : Int} {b : Bool} (h : Gx w base g g2 x y m n o b W) : Gx w base g g2 x y m n o b W.drew :=
 h.below (below_drewN (Below.refl _ _) 1)
theorem Gx.lay {w W W' : World} {base g g2 : Nat} {x y : Value} {m : Mc} {n o : Int} {b : Bool} (h : Gx w base g g2 x y m n o b W) (hr : MRow W' g2 x y m) (ho : Onto g2 W W') (h1 : g2 < base) (h2 : w.heap.size ≤ g2) (h3 : 0 < w.heap.size) : Gx w base g g2 x y m n o true W' := by
 have hb := h.d.hb
 exact ⟨{ h.d with row := h.d.row.onto ho (by omega), hx := h.d.hx.onto ho (fun e => by have := (h.d.hx.lt _ e).1; omega), hy := h.d.hy.onto ho (fun e => by have := (h.d.hy.lt _ e).1; omega) }, OpsAt.onto h.t ho (by omega), below_onto h.bel ho h2, by simpa using hr⟩
set_option maxRecDepth 100000 in
set_option maxHeartbeats 4000000 in
theorem executed_one (v : Value) (m : Mc) (w : World) (hm : MSl w v m) (ho : OpsAt w) (hok : m.ok = true) (hi : (m.h || m.s) = false) (k : Nat) (hk : k < 31) (hcode : m.code = (k : Int)) (hsz : (line (k : Int)).2.1 = 1) :
  Calls Tryz.prog 113 #[v] w fun e w' => Ans w.heap.size w' e ((m.onw.does m.opnd k).1, (line (k : Int)).2.2, (m.onw.does m.opnd k).2) ∧ Below w.heap.size w w' := by
 obtain ⟨vr, va, hv, hr, ha⟩ := hm
 have hR := Mc.right hok
 have hR1 := hR.rom
 have hR2 : Hid (m.ram.length = 64) := hR.ram
 have hh : m.h = false := by simp at hi; exact hi.1
 have hs : m.s = false := by simp at hi; exact hi.2
 have hcd : m.readAt m.pc = (k : Int) := (readAt_ok hok (okm.1 hok).pc).trans hcode
 have HO : Hid (m.onw = { m with pc := addB m.pc 1 }) := show m.onw = { m with pc := addB m.pc 1 } by
  unfold Mc.onw Mc.size'; rw [hcode, hsz, add_one (okm.1 hok).pc]
 have HD : Hid (m.onw.does m.opnd k = m.onw.does 0 k) := does_one _ _ _ k hk (by rw [hsz]; decide)
 have h0 := ho.lt
 obtain ⟨f, fn, hst⟩ := ops_at k hk
 clear hcode
 ·go_enter Tryz.func113, Tryz.ntmps113
  go_wp2_with (first
   | (refine box_m rfl rfl hv ?_; intro w0 r0 hB0)
   | (refine al_mc rfl rfl ?_; intro w1 z1 hB1; have r1 := r0.below hB1; have hB2 := hB0.trans (hB1.mono hB0.size); have l0 := r0.lt; have lz := z1.lt)
   | (refine ld_mc rfl rfl rfl r1 ?_)
   | (go_at_call 20; refine (machineOk_impl _ m _ ⟨vr, va, rfl, hr.below hB2, ha.below hB2⟩).mono ?_; rintro e w2 ⟨rfl, hb2⟩; rw [hok]; have hB3 := hB2.trans (hb2.mono hB2.size); have z2 := z1.below hb2; replace r1 := r1.below hb2))
  go_at_call 83
  refine (machineCopy_impl _ m _ ⟨vr, va, rfl, hr.below hB3, ha.below hB3⟩ (by omega) (by have := hR2.out; omega) (by omega) (by have := hR2.out; omega)).mono ?_
  rintro e w4 ⟨v4, rfl, ⟨x4, y4, rfl, ho4, hp4, ha4⟩, hb4⟩
  have hB4 := hB3.trans (hb4.mono hB3.size)
  have z4 := z2.below hb4
  have s34 := z2.lt
  have r4 := r1.below hb4
  have lr4 := r4.lt
  have lz4 := z4.lt
  have sB3 := hB3.size
  have sb4 := hb4.size
  have hxl := ho4.lt
  have hyl := hp4.lt
  clear z1 z2 r1
  go_wp2_with (first
   | (refine al_mc rfl rfl ?_; intro w5 z5 hB5; have lz5 := z5.lt; have r5 := r4.below hB5; have z5' := z4.below hB5; have hp5 := hp4.below hB5; have ho5 := ho4.below hB5)
   | (refine st_mc rfl rfl rfl rfl z5 (one_own ho4) (one_own hp4) ?_; intro w6 c6 o6 s6; have hp6 := hp5.onto o6 (fun e => by have := hyl _ e; omega); have ho6 := ho5.onto o6 (fun e => by have := hxl _ e; omega); have z6 := z5'.onto o6 (by omega); have r6 := r5.onto o6 (by omega); have hB6 := below_onto (hB4.trans (hB5.mono hB4.size)) o6 (by have := hB4.size; omega); have kh := (cw r6).h; have ks := (cw r6).s; have kp := (cw r6).pc; clear z5 z5' r5 hp5 ho5; rw [hh] at kh; rw [hs] at ks)
   | (refine ld_mc rfl rfl rfl r6 ?_)
   | (go_at_call 156; refine (readAt_impl _ m _ _ ⟨vr, va, rfl, hr.below hB6, ha.below hB6⟩).mono ?_; rintro e w7 ⟨rfl, hb7⟩; rw [hcd]; have hB7 := hB6.trans (hb7.mono hB6.size); have z7 := z6.below hb7; have c7 := c6.below hb7; have q7 := r6.below hb7; have hp7 := hp6.below hb7; have ho7 := ho6.below hb7; clear kh ks kp)
   | (go_at_call 157; refine (sizeOf_impl _ _ (ho.below hB7)).mono ?_; rintro e w8 ⟨rfl, hb8⟩; rw [hsz]; have hB8 := hB7.trans (hb8.mono hB7.size); have z8 := z7.below hb8; have c8 := c7.below hb8; have q8 := q7.below hb8; have hp8 := hp7.below hb8; have ho8 := ho7.below hb8; have l8 := c8.lt)
   | (refine ld_mc rfl rfl rfl c8 ?_)
   | (refine bd_de rfl rfl rfl ?_)
   | (refine al_de rfl rfl ?_; intro w9 d9 hb9; have hB9 := hB8.trans (hb9.mono hB8.size); have z9 := z8.below hb9; have q9 := q8.below hb9; have hp9 := hp8.below hb9; have ho9 := ho8.below hb9; have l9 := d9.lt)
   | (refine st_de rfl rfl rfl rfl d9 (one_own ho9) (one_own hp9) ?_; intro w10 d10 o10 s10; have z10 := z9.onto o10 (by omega); have q10 := q9.onto o10 (by omega); have kp := (cw q10).pc
      have D10 : DSt w2.heap.size w10 w8.heap.size x4 y4 m 0 (-1) := ⟨d10, ho9.onto o10 (fun e => by have := hxl _ e; omega), hp9.onto o10 (fun e => by have := hyl _ e; omega), ha4, fun e => by have := hxl _ e; omega, fun e => by have := hyl _ e; omega, by omega⟩
      have hB10 := below_onto hB9 o10 (by omega))
   | (go_at_call 158; refine (placeBehind_impl _ _ _).mono ?_; rintro e w11 ⟨rfl, rfl⟩)
   | (refine st_dn (m' := { m with pc := addB m.pc 1 }) (n' := 0) (o' := -1) rfl rfl rfl rfl d10 rfl rfl ?_; intro w12 d12 o12 s12; have z12 := z10.onto o12 (by omega); have D12 := D10.set d12 o12 rfl rfl; have hB12 := below_onto hB10 o12 (by omega))
   | (go_at_call 159; refine (operations_impl _).mono ?_; rintro e w13 ⟨rfl, hb13⟩; have z13 := z12.below hb13; have D13 := D12.below hb13; have hB13 := hB12.trans (hb13.mono hB12.size))
   | (refine ix_ops rfl rfl rfl rfl hst ?_)
   | (refine call_dyn rfl rfl rfl hst ?_; refine (hst.does _ _ _ _ _ _ _ D13 (ok_pc hok (addB_ok _ _)) rfl).mono ?_; rintro e w14 ⟨rfl, x14, y14, D14, o14⟩; refine ⟨_, rfl, ?_⟩
      rw [← HO.out, ← HD.out] at D14
      have z14 := z13.onto o14 (by omega)
      have hB14 := below_onto hB13 o14 (by omega)
      have t14 : OpsAt w14 := OpsAt.below ho hB14))
  have hGx : Gx w w2.heap.size w8.heap.size w0.heap.size x14 y14 (m.onw.does m.opnd k).1 0 (m.onw.does m.opnd k).2 false w14 := ⟨D14, t14, hB14, z14⟩
  obtain ⟨M, HM⟩ : ∃ M, Hid (M = (m.onw.does m.opnd k).1) := ⟨_, show _ = _ from rfl⟩
  obtain ⟨O, HQ⟩ : ∃ O, Hid (O = (m.onw.does m.opnd k).2) := ⟨_, show _ = _ from rfl⟩
  rw [← HM.out, ← HQ.out] at hGx
  have hs0 := hB0.size
  have hs1 := hb2.size
  refine region_known (by kernel_rfl) (by kernel_rfl) 6 (by decide) (by kernel_rfl) (Gx w w2.heap.size w8.heap.size w0.heap.size x14 y14 M 0 O)
   [.pointer (some ⟨w8.heap.size, 0, none⟩), M.val x14 y14, .int .i64 (k : Int), .int .i64 (line (k : Int)).2.2, .pointer (some ⟨w8.heap.size, 26, none⟩), .int .i64 O, undef, .int .i64 (line (k : Int)).2.2, .int .i64 O] hGx.drew ?step ?done
  case step =>
   intro L ix o' A W hi hI hL hd
   have hin : ix < 9 := by
    by_cases hl : ix < 9
    ·exact hl
    ·simp [hl] at hi
   have hg := hI.g
   rcases ix with _ | _ | _ | _ | _ | _ | _ | _ | _ | ix
   ·cases hi; exact at_op rfl rfl (one_op (x := .tmp 8) (hI.old 8 (by kernel_rfl)) rfl (by kernel_rfl) ⟨_, rfl, rfl, by simpa using hg⟩)
   ·cases hi
    have e0 : A.eval (.tmp 52) = .pointer (some ⟨w8.heap.size, 0, none⟩) := hI.val hd 0 52 rfl rfl (by kernel_rfl)
    exact at_op rfl rfl (lm_op rfl e0 hg.d.row ⟨_, rfl, rfl, by simpa using hg⟩)
   ·cases hi; exact at_op rfl rfl (move_op rfl ⟨_, rfl, hI.old 6 (by kernel_rfl), by simpa using hg⟩)
   ·cases hi
    have e0 : A.eval (.tmp 54) = .int .i64 (k : Int) := hI.val hd 2 54 rfl rfl (by kernel_rfl)
    refine at_op rfl rfl (call_op rfl Tryz.func160 (by kernel_rfl) (by kernel_rfl) ?_)
    simp only [List.map_cons, List.map_nil, e0]
    refine (costOf_impl _ _ hg.t).mono ?_
    rintro e W1 ⟨rfl, hb⟩
    exact ⟨_, rfl, _, rfl, rfl, by simpa using hg.below hb⟩
   ·cases hi; exact at_op rfl rfl (one_op (x := .tmp 8) (hI.old 8 (by kernel_rfl)) rfl (by kernel_rfl) ⟨_, rfl, rfl, by simpa using hg⟩)
   ·cases hi
    have e0 : A.eval (.tmp 56) = .pointer (some ⟨w8.heap.size, 26, none⟩) := hI.val hd 4 56 rfl rfl (by kernel_rfl)
    exact at_op rfl rfl (load_op rfl Tryz.underlying2 e0 (dw hg.d.row).o ⟨_, rfl, rfl, by simpa using hg⟩)
   ·cases hi
    have e0 : A.eval (.tmp 2) = .pointer (some ⟨w0.heap.size, 0, none⟩) := hI.old 2 (by kernel_rfl)
    have e1 : A.eval (.tmp 53) = M.val x14 y14 := hI.val hd 1 53 rfl rfl (by kernel_rfl)
    have hres : MRow W w0.heap.size nil64 nil64 Mc.nul := by have := hg.res; simpa [hL] using this
    refine at_op rfl rfl (sm_op rfl e0 e1 hres (one_own hg.d.hx) (one_own hg.d.hy) (fun W1 hr hon => ⟨_, rfl, rfl, ?_⟩))
    have := hg.lay hr hon (by omega) (by omega) h0
    simpa using this
   ·cases hi; exact at_op rfl rfl (assign_op rfl ⟨_, rfl, hI.val hd 3 55 rfl rfl (by kernel_rfl), by simpa using hg⟩)
   ·cases hi; exact at_op rfl rfl (assign_op rfl ⟨_, rfl, hI.val hd 5 57 rfl rfl (by kernel_rfl), by simpa using hg⟩)
   omega
  case done =>
   intro A W hI
   have hg := hI.g
   have hres : MRow W w0.heap.size x14 y14 M := by have := hg.res; simpa using this
   have a2 : A.tmps.getD 2 undef = .pointer (some ⟨w0.heap.size, 0, none⟩) := hI.old 2 (by kernel_rfl)
   have a3 : A.tmps.getD 3 undef = .int .i64 (line (k : Int)).2.2 := hI.last 7 3 rfl
   have a4 : A.tmps.getD 4 undef = .int .i64 O := hI.last 8 4 rfl
   go_wp2_with fail
   refine ret_mc3 rfl a2 hres hI.defers a3 a4 ?_
   rw [← HM.out, ← HQ.out]
   exact ⟨Ans.mk hg.d.hx hg.d.hy hg.d.ap (by omega), hg.bel⟩
set_option maxRecDepth 100000 in
set_option maxHeartbeats 4000000 in
theorem executed_two (v : Value) (m : Mc) (w : World) (hm : MSl w v m) (ho : OpsAt w) (hok : m.ok = true) (hi : (m.h || m.s) = false) (k : Nat) (hk : k < 31) (hcode : m.code = (k : Int)) (hsz : (line (k : Int)).2.1 = 2) :
  Calls Tryz.prog 113 #[v] w fun e w' => Ans w.heap.size w' e ((m.onw.does m.opnd k).1, (line (k : Int)).2.2, (m.onw.does m.opnd k).2) ∧ Below w.heap.size w w' := by
 obtain ⟨vr, va, hv, hr, ha⟩ := hm
 have hR := Mc.right hok
 have hR1 := hR.rom
 have hR2 : Hid (m.ram.length = 64) := hR.ram
 have hh : m.h = false := by simp at hi; exact hi.1
 have hs : m.s = false := by simp at hi; exact hi.2
 have hcd : m.readAt m.pc = (k : Int) := (readAt_ok hok (okm.1 hok).pc).trans hcode
 have HO : Hid (m.onw = { m with pc := addB m.pc 2 }) := show m.onw = { m with pc := addB m.pc 2 } by
  unfold Mc.onw Mc.size'; rw [hcode, hsz]
  have h2 : bok 2 = true := rfl
  simp [addB, (okm.1 hok).pc, h2]
 have HN : Hid (m.readAt (addB m.pc 1) = m.opnd) := show m.readAt (addB m.pc 1) = m.opnd by rw [readAt_ok hok (addB_ok _ _), add_one (okm.1 hok).pc]; rfl
 have h0 := ho.lt
 obtain ⟨f, fn, hst⟩ := ops_at k hk
 clear hcode
 ·go_enter Tryz.func113, Tryz.ntmps113
  go_wp2_with (first
   | (refine box_m rfl rfl hv ?_; intro w0 r0 hB0)
   | (refine al_mc rfl rfl ?_; intro w1 z1 hB1; have r1 := r0.below hB1; have hB2 := hB0.trans (hB1.mono hB0.size); have l0 := r0.lt; have lz := z1.lt)
   | (refine ld_mc rfl rfl rfl r1 ?_)
   | (go_at_call 20; refine (machineOk_impl _ m _ ⟨vr, va, rfl, hr.below hB2, ha.below hB2⟩).mono ?_; rintro e w2 ⟨rfl, hb2⟩; rw [hok]; have hB3 := hB2.trans (hb2.mono hB2.size); have z2 := z1.below hb2; replace r1 := r1.below hb2))
  go_at_call 83
  refine (machineCopy_impl _ m _ ⟨vr, va, rfl, hr.below hB3, ha.below hB3⟩ (by omega) (by have := hR2.out; omega) (by omega) (by have := hR2.out; omega)).mono ?_
  rintro e w4 ⟨v4, rfl, ⟨x4, y4, rfl, ho4, hp4, ha4⟩, hb4⟩
  have hB4 := hB3.trans (hb4.mono hB3.size)
  have z4 := z2.below hb4
  have s34 := z2.lt
  have r4 := r1.below hb4
  have lr4 := r4.lt
  have lz4 := z4.lt
  have sB3 := hB3.size
  have sb4 := hb4.size
  have hxl := ho4.lt
  have hyl := hp4.lt
  clear z1 z2 r1
  go_wp2_with (first
   | (refine al_mc rfl rfl ?_; intro w5 z5 hB5; have lz5 := z5.lt; have r5 := r4.below hB5; have z5' := z4.below hB5; have hp5 := hp4.below hB5; have ho5 := ho4.below hB5)
   | (refine st_mc rfl rfl rfl rfl z5 (one_own ho4) (one_own hp4) ?_; intro w6 c6 o6 s6; have hp6 := hp5.onto o6 (fun e => by have := hyl _ e; omega); have ho6 := ho5.onto o6 (fun e => by have := hxl _ e; omega); have z6 := z5'.onto o6 (by omega); have r6 := r5.onto o6 (by omega); have hB6 := below_onto (hB4.trans (hB5.mono hB4.size)) o6 (by have := hB4.size; omega); have kh := (cw r6).h; have ks := (cw r6).s; have kp := (cw r6).pc; clear z5 z5' r5 hp5 ho5; rw [hh] at kh; rw [hs] at ks)
   | (refine ld_mc rfl rfl rfl r6 ?_)
   | (go_at_call 156; refine (readAt_impl _ m _ _ ⟨vr, va, rfl, hr.below hB6, ha.below hB6⟩).mono ?_; rintro e w7 ⟨rfl, hb7⟩; rw [hcd]; have hB7 := hB6.trans (hb7.mono hB6.size); have z7 := z6.below hb7; have c7 := c6.below hb7; have q7 := r6.below hb7; have hp7 := hp6.below hb7; have ho7 := ho6.below hb7; clear kh ks kp)
   | (go_at_call 157; refine (sizeOf_impl _ _ (ho.below hB7)).mono ?_; rintro e w8 ⟨rfl, hb8⟩; rw [hsz]; have hB8 := hB7.trans (hb8.mono hB7.size); have z8 := z7.below hb8; have c8 := c7.below hb8; have q8 := q7.below hb8; have hp8 := hp7.below hb8; have ho8 := ho7.below hb8; have l8 := c8.lt)
   | (refine ld_mc rfl rfl rfl c8 ?_)
   | (refine bd_de rfl rfl rfl ?_)
   | (refine al_de rfl rfl ?_; intro w9 d9 hb9; have hB9 := hB8.trans (hb9.mono hB8.size); have z9 := z8.below hb9; have q9 := q8.below hb9; have hp9 := hp8.below hb9; have ho9 := ho8.below hb9; have l9 := d9.lt)
   | (refine st_de rfl rfl rfl rfl d9 (one_own ho9) (one_own hp9) ?_; intro w10 d10 o10 s10; have z10 := z9.onto o10 (by omega); have q10 := q9.onto o10 (by omega); have kp := (cw q10).pc
      have D10 : DSt w2.heap.size w10 w8.heap.size x4 y4 m 0 (-1) := ⟨d10, ho9.onto o10 (fun e => by have := hxl _ e; omega), hp9.onto o10 (fun e => by have := hyl _ e; omega), ha4, fun e => by have := hxl _ e; omega, fun e => by have := hyl _ e; omega, by omega⟩
      have hB10 := below_onto hB9 o10 (by omega)))
  obtain ⟨N, HNN⟩ : ∃ N, Hid (N = m.opnd) := ⟨_, show _ = _ from rfl⟩
  refine region_last (by kernel_rfl) (by kernel_rfl) 6 (by decide) (by kernel_rfl) (by kernel_rfl) (fun W => DSt w2.heap.size W w8.heap.size x4 y4 m 0 (-1) ∧ MRow W w.heap.size vr va m ∧ MRow W w0.heap.size nil64 nil64 Mc.nul ∧ Below w.heap.size w W) (fun W => DSt w2.heap.size W w8.heap.size x4 y4 m m.opnd (-1) ∧ MRow W w.heap.size vr va m ∧ MRow W w0.heap.size nil64 nil64 Mc.nul ∧ Below w.heap.size w W)
   [m.val vr va, .pointer (some ⟨w.heap.size, 4, none⟩), .int .i64 m.pc, .int .i64 (addB m.pc 1), .int .i64 m.opnd, .pointer (some ⟨w8.heap.size, 25, none⟩), undef] ⟨D10.drew, q10.drewN 1, z10.drewN 1, below_drewN hB10 1⟩ ?step ?last ?done
  case step =>
   intro L ix o' A W hne hi hI hg hd
   have hin : ix < 7 := by
    by_cases hl : ix < 7
    ·exact hl
    ·simp [hl] at hi
   rcases ix with _ | _ | _ | _ | _ | _ | _ | ix
   ·cases hi
    have e0 : A.eval (.tmp 1) = .pointer (some ⟨w.heap.size, 0, none⟩) := hI.old 1 (by kernel_rfl)
    exact at_op rfl rfl (wp_load_row _ _ rfl _ e0 _ _ _ _ hg.2.1.row Tryz.underlying30 rfl info_mc ⟨_, rfl, rfl, hg⟩)
   ·cases hi; exact at_op rfl rfl (one_op (x := .tmp 1) (hI.old 1 (by kernel_rfl)) rfl (by kernel_rfl) ⟨_, rfl, rfl, hg⟩)
   ·cases hi
    have e0 : A.eval (.tmp 37) = .pointer (some ⟨w.heap.size, 4, none⟩) := hI.val hd 1 37 rfl rfl (by kernel_rfl)
    exact at_op rfl rfl (load_op rfl Tryz.underlying2 e0 (cw hg.2.1).pc ⟨_, rfl, rfl, hg⟩)
   ·cases hi
    have e0 : A.eval (.tmp 38) = .int .i64 m.pc := hI.val hd 2 38 rfl rfl (by kernel_rfl)
    refine at_op rfl rfl (call_op rfl Tryz.func158 (by kernel_rfl) (by kernel_rfl) ?_)
    simp only [List.map_cons, List.map_nil, e0]
    refine (placeBehind_impl _ _ _).mono ?_
    rintro e W1 ⟨rfl, rfl⟩
    exact ⟨_, rfl, _, rfl, rfl, hg⟩
   ·cases hi
    have e0 : A.eval (.tmp 36) = m.val vr va := hI.val hd 0 36 rfl rfl (by kernel_rfl)
    have e1 : A.eval (.tmp 39) = .int .i64 (addB m.pc 1) := hI.val hd 3 39 rfl rfl (by kernel_rfl)
    refine at_op rfl rfl (call_op rfl Tryz.func156 (by kernel_rfl) (by kernel_rfl) ?_)
    simp only [List.map_cons, List.map_nil, e0, e1]
    refine (readAt_impl _ m _ _ ⟨vr, va, rfl, hr.below hg.2.2.2, ha.below hg.2.2.2⟩).mono ?_
    rintro e W1 ⟨rfl, hb⟩
    rw [HN.out]
    exact ⟨_, rfl, _, rfl, rfl, hg.1.below hb, hg.2.1.below hb, hg.2.2.1.below hb, hg.2.2.2.trans (hb.mono hg.2.2.2.size)⟩
   ·cases hi; exact at_op rfl rfl (one_op (x := .tmp 8) (hI.old 8 (by kernel_rfl)) rfl (by kernel_rfl) ⟨_, rfl, rfl, hg⟩)
   ·exact absurd rfl hne
   omega
  case last =>
   intro L o' A W hi hI hg hd
   cases hi
   have e0 : A.eval (.tmp 41) = .pointer (some ⟨w8.heap.size, 25, none⟩) := hI.val hd 5 41 rfl rfl (by kernel_rfl)
   have e1 : A.eval (.tmp 40) = .int .i64 m.opnd := hI.val hd 4 40 rfl rfl (by kernel_rfl)
   exact at_op rfl rfl (sd_op (m' := m) (n' := m.opnd) (o' := -1) rfl e0 e1 hg.1.row rfl rfl (fun W1 hr1 hon => ⟨_, rfl, rfl, hg.1.set hr1 hon rfl rfl, hg.2.1.onto hon (by omega), hg.2.2.1.onto hon (by omega), below_onto hg.2.2.2 hon (by omega)⟩))
  case done =>
  intro A W hI hE
  have t36 : A.tmps.getD 36 undef = m.val vr va := hI.last 0 36 rfl
  have t37 : A.tmps.getD 37 undef = .pointer (some ⟨w.heap.size, 4, none⟩) := hI.last 1 37 rfl
  have t38 : A.tmps.getD 38 undef = .int .i64 m.pc := hI.last 2 38 rfl
  have t39 : A.tmps.getD 39 undef = .int .i64 (addB m.pc 1) := hI.last 3 39 rfl
  have t40 : A.tmps.getD 40 undef = .int .i64 m.opnd := hI.last 4 40 rfl
  have t41 : A.tmps.getD 41 undef = .pointer (some ⟨w8.heap.size, 25, none⟩) := hI.last 5 41 rfl
  have hA := hI.frame [36, 37, 38, 39, 40, 41] (by kernel_rfl)
  rw [hA]
  clear hA hI
  simp only [putAll, List.foldl_cons, List.foldl_nil, t36, t37, t38, t39, t40, t41]
  clear t36 t37 t38 t39 t40 t41
  obtain ⟨D11, q11, z11, hB11⟩ := hE
  have d11 := D11.row
  have kp' := (cw q11).pc
  rw [← HNN.out] at D11 d11
  rw [← HNN.out]
  go_wp2_with (first
   | (go_at_call 158; refine (placeBehind_impl _ _ _).mono ?_; rintro e w11 ⟨rfl, rfl⟩)
   | (refine st_dn (m' := { m with pc := addB m.pc 2 }) (n' := N) (o' := -1) rfl rfl rfl rfl d11 rfl rfl ?_; intro w12 d12 o12 s12; have z12 := z11.onto o12 (by omega); have D12 := D11.set d12 o12 rfl rfl; have hB12 := below_onto hB11 o12 (by omega))
   | (go_at_call 159; refine (operations_impl _).mono ?_; rintro e w13 ⟨rfl, hb13⟩; have z13 := z12.below hb13; have D13 := D12.below hb13; have hB13 := hB12.trans (hb13.mono hB12.size))
   | (refine ix_ops rfl rfl rfl rfl hst ?_)
   | (refine call_dyn rfl rfl rfl hst ?_; refine (hst.does _ _ _ _ _ _ _ D13 (ok_pc hok (addB_ok _ _)) (by rw [HNN.out]; exact opnd_ok hok)).mono ?_; rintro e w14 ⟨rfl, x14, y14, D14, o14⟩; refine ⟨_, rfl, ?_⟩
      rw [← HO.out, HNN.out] at D14
      have z14 := z13.onto o14 (by omega)
      have hB14 := below_onto hB13 o14 (by omega)
      have t14 : OpsAt w14 := OpsAt.below ho hB14))
  have hGx : Gx w w2.heap.size w8.heap.size w0.heap.size x14 y14 (m.onw.does m.opnd k).1 m.opnd (m.onw.does m.opnd k).2 false w14 := ⟨D14, t14, hB14, z14⟩
  obtain ⟨M, HM⟩ : ∃ M, Hid (M = (m.onw.does m.opnd k).1) := ⟨_, show _ = _ from rfl⟩
  obtain ⟨O, HQ⟩ : ∃ O, Hid (O = (m.onw.does m.opnd k).2) := ⟨_, show _ = _ from rfl⟩
  rw [← HM.out, ← HQ.out] at hGx
  have hs0 := hB0.size
  have hs1 := hb2.size
  refine region_known (by kernel_rfl) (by kernel_rfl) 6 (by decide) (by kernel_rfl) (Gx w w2.heap.size w8.heap.size w0.heap.size x14 y14 M m.opnd O)
   [.pointer (some ⟨w8.heap.size, 0, none⟩), M.val x14 y14, .int .i64 (k : Int), .int .i64 (line (k : Int)).2.2, .pointer (some ⟨w8.heap.size, 26, none⟩), .int .i64 O, undef, .int .i64 (line (k : Int)).2.2, .int .i64 O] hGx.drew ?step ?done
  case step =>
   intro L ix o' A W hi hI hL hd
   have hin : ix < 9 := by
    by_cases hl : ix < 9
    ·exact hl
    ·simp [hl] at hi
   have hg := hI.g
   rcases ix with _ | _ | _ | _ | _ | _ | _ | _ | _ | ix
   ·cases hi; exact at_op rfl rfl (one_op (x := .tmp 8) (hI.old 8 (by kernel_rfl)) rfl (by kernel_rfl) ⟨_, rfl, rfl, by simpa using hg⟩)
   ·cases hi
    have e0 : A.eval (.tmp 52) = .pointer (some ⟨w8.heap.size, 0, none⟩) := hI.val hd 0 52 rfl rfl (by kernel_rfl)
    exact at_op rfl rfl (lm_op rfl e0 hg.d.row ⟨_, rfl, rfl, by simpa using hg⟩)
   ·cases hi; exact at_op rfl rfl (move_op rfl ⟨_, rfl, hI.old 6 (by kernel_rfl), by simpa using hg⟩)
   ·cases hi
    have e0 : A.eval (.tmp 54) = .int .i64 (k : Int) := hI.val hd 2 54 rfl rfl (by kernel_rfl)
    refine at_op rfl rfl (call_op rfl Tryz.func160 (by kernel_rfl) (by kernel_rfl) ?_)
    simp only [List.map_cons, List.map_nil, e0]
    refine (costOf_impl _ _ hg.t).mono ?_
    rintro e W1 ⟨rfl, hb⟩
    exact ⟨_, rfl, _, rfl, rfl, by simpa using hg.below hb⟩
   ·cases hi; exact at_op rfl rfl (one_op (x := .tmp 8) (hI.old 8 (by kernel_rfl)) rfl (by kernel_rfl) ⟨_, rfl, rfl, by simpa using hg⟩)
   ·cases hi
    have e0 : A.eval (.tmp 56) = .pointer (some ⟨w8.heap.size, 26, none⟩) := hI.val hd 4 56 rfl rfl (by kernel_rfl)
    exact at_op rfl rfl (load_op rfl Tryz.underlying2 e0 (dw hg.d.row).o ⟨_, rfl, rfl, by simpa using hg⟩)
   ·cases hi
    have e0 : A.eval (.tmp 2) = .pointer (some ⟨w0.heap.size, 0, none⟩) := hI.old 2 (by kernel_rfl)
    have e1 : A.eval (.tmp 53) = M.val x14 y14 := hI.val hd 1 53 rfl rfl (by kernel_rfl)
    have hres : MRow W w0.heap.size nil64 nil64 Mc.nul := by have := hg.res; simpa [hL] using this
    refine at_op rfl rfl (sm_op rfl e0 e1 hres (one_own hg.d.hx) (one_own hg.d.hy) (fun W1 hr hon => ⟨_, rfl, rfl, ?_⟩))
    have := hg.lay hr hon (by omega) (by omega) h0
    simpa using this
   ·cases hi; exact at_op rfl rfl (assign_op rfl ⟨_, rfl, hI.val hd 3 55 rfl rfl (by kernel_rfl), by simpa using hg⟩)
   ·cases hi; exact at_op rfl rfl (assign_op rfl ⟨_, rfl, hI.val hd 5 57 rfl rfl (by kernel_rfl), by simpa using hg⟩)
   omega
  case done =>
   intro A W hI
   have hg := hI.g
   have hres : MRow W w0.heap.size x14 y14 M := by have := hg.res; simpa using this
   have a2 : A.tmps.getD 2 undef = .pointer (some ⟨w0.heap.size, 0, none⟩) := hI.old 2 (by kernel_rfl)
   have a3 : A.tmps.getD 3 undef = .int .i64 (line (k : Int)).2.2 := hI.last 7 3 rfl
   have a4 : A.tmps.getD 4 undef = .int .i64 O := hI.last 8 4 rfl
   go_wp2_with fail
   refine ret_mc3 rfl a2 hres hI.defers a3 a4 ?_
   rw [← HM.out, ← HQ.out]
   exact ⟨Ans.mk hg.d.hx hg.d.hy hg.d.ap (by omega), hg.bel⟩
theorem executed_impl (v : Value) (m : Mc) (w : World) (hm : MSl w v m) (ho : OpsAt w) :
  Calls Tryz.prog 113 #[v] w fun e w' => Ans w.heap.size w' e m.execd ∧ Below w.heap.size w w' := by
 unfold Mc.execd
 cases hok : m.ok
 ·exact executed_no v m w hm hok
 rw [if_pos rfl]
 unfold Mc.exec
 cases hi : (m.h || m.s)
 ·rw [if_neg (by decide)]
  by_cases hz : m.size' = 0
  ·rw [if_pos hz]; exact executed_stuck v m w hm ho hok hi hz
  ·rw [if_neg hz]
   have hc : 0 ≤ m.code ∧ m.code < 31 := by
    by_cases h : 0 ≤ m.code ∧ m.code < 31
    ·exact h
    ·exact absurd (by unfold Mc.size'; rw [size_no _ h]) hz
   obtain ⟨k, hk⟩ : ∃ k : Nat, m.code = (k : Int) := ⟨m.code.toNat, by omega⟩
   have hk31 : k < 31 := by omega
   rw [hk, Int.toNat_natCast]
   rcases size_in k hk31 with h1 | h1
   ·exact executed_one v m w hm ho hok hi k hk31 hk h1
   ·exact executed_two v m w hm ho hok hi k hk31 hk h1
 ·rw [if_pos rfl]; exact executed_idle v m w hm hok hi
end Go.Proofs.YtghmkacamabndaaGreatDoor.Mem
namespace Go.Proofs.YtghmkacamabndaaGreatDoor.Mem
open Go.ChangeShapes Go.WideShapes Go.RowKit Base Num Slc Rw Tmr Srl Rom RomOf Opl

theorem executed_impl' {m M : Mc} {C O : Int} (h : m.execd = (M, C, O)) (v : Value) (w : World) (hm : MSl w v m) (ho : OpsAt w) :
  Calls Tryz.prog 113 #[v] w fun e w' => ∃ v', e = .returned (.tuple #[v', .int .i64 C, .int .i64 O]) ∧ MOwn w.heap.size w' v' M ∧ Below w.heap.size w w' := by
 have := executed_impl v m w hm ho
 rw [h] at this
 refine this.mono ?_
 rintro e w' ⟨⟨v', rfl, hv'⟩, hb⟩
 exact ⟨v', rfl, hv', hb⟩
end Go.Proofs.YtghmkacamabndaaGreatDoor.Mem
namespace Go.Proofs.YtghmkacamabndaaGreatDoor.Mem
open Go.ChangeShapes Go.WideShapes Go.RowKit Base Num Slc Slf Rw Tmr Srl Rom Opl Reg

theorem call_told (m : Mc) : m.call.2 = -1 ∨ 0 ≤ m.call.2 := by
 unfold Mc.call
 split
 ·exact .inl rfl
 split
 ·exact .inl rfl
 ·rcases pend_in m.fl m.ms with h | h | h | h
  ·exact .inl h
  all_goals (refine .inr ?_; show 0 ≤ Mem.pend m.fl m.ms; omega)
theorem outs_told {q n : Int} (h : 0 ≤ n) : outs q n = -1 ∨ 0 ≤ outs q n := by
 unfold outs
 split
 ·exact .inr h
 ·exact .inl rfl
theorem does_told {m : Mc} (h : m.ok = true) (n : Int) (k : Nat) : (m.does n k).2 = -1 ∨ 0 ≤ (m.does n k).2 := by
 have ha := (bok_iff.1 (okm.1 h).a).1
 have hp := (bok_iff.1 (okm.1 h).pc).1
 unfold Mc.does
 split <;> first | exact .inl rfl | exact outs_told ha | exact outs_told hp
theorem exec_told {m : Mc} (h : m.ok = true) : m.exec.2.2 = -1 ∨ 0 ≤ m.exec.2.2 := by
 unfold Mc.exec
 split
 ·exact .inl rfl
 split
 ·exact .inl rfl
 ·exact does_told (onw_ok h) _ _
section
variable {op : Oper} {a : Act} {w : World} {Q : Exit → Act → World → Prop} {p : Operand} {ops : Array Oper} {rest : List Oper}
theorem ret_g {fn : Func} {R : Ending → World → Prop} {q : Tmp} {g : Nat} {x y vo ve vi : Value} {s : St} {co fin : Int} (h : fn.results = #[.cell q 86]) (hp : a.tmps.getD q undef = .pointer (some ⟨g, 0, none⟩)) (hr : GRow w g x y vo ve vi s co fin) (hde : a.defers = []) (hR : R (.returned (gval x y vo ve vi s co fin)) w) :
  bodyPost Tryz.prog fn R .ret a w := ret_row h hp hr Tryz.underlying86 rfl info_g hde hR
end
theorem stepOver_impl (v x y : Value) (m : Mc) (C K : Int) (w : World) (hv : v = m.val x y) (hx : x.oneCell' = true) (hy : y.oneCell' = true) (hk : m.k = K) (h0 : 0 ≤ K ∧ K ≤ 1000000000) (hC : 0 ≤ C ∧ C ≤ 5) :
  Calls Tryz.prog 111 #[v, .int .i64 C] w fun e w' => e = .returned (gval x y nil64 nil64 nil64 ⟨m, [], [], 0⟩ C (K + C)) ∧ Below w.heap.size w w' := by
 have HK : Hid (m.k = K) := hk
 clear hk
 go_enter Tryz.func111, Tryz.ntmps111
 go_wp2_with (first
  | (refine box_m rfl rfl hv ?_; intro w0 r0 hb0; have ck : w0.cell? ⟨w.heap.size, 24, none⟩ = some (.int .i64 K) := by rw [← HK.out]; exact (cw r0).k)
  | (refine al_g rfl rfl ?_; intro w1 z1 hb1; have r1 := r0.below hb1; have lr := r0.lt; have ck1 : w1.cell? ⟨w.heap.size, 24, none⟩ = some (.int .i64 K) := by rw [hb1.cell (p := ⟨w.heap.size, 24, none⟩) lr]; exact ck)
  | (refine ld_mc rfl rfl rfl r1 ?_)
  | (refine bd_s1 rfl rfl rfl ?_)
  | (refine bd_g rfl rfl rfl rfl rfl ?_)
  | (refine st_g rfl rfl rfl rfl z1 hx hy rfl rfl rfl ?_; rintro w2 z2 o2 -; have hB := below_onto (below_more hb0 hb1) o2 (by omega)))
 refine ret_g rfl rfl z2 rfl ?_
 exact ⟨rfl, hB⟩
theorem new_bb {w2 w3 w4 : World} (hb : Below w2.heap.size w2 w3) (ho : Onto w2.heap.size w3 w4) : Below w2.heap.size w2 w4 := below_onto hb ho (Nat.le_refl _)
def Bgn (base : Nat) (w w' : World) (e : Ending) (m : Mc) : Prop := ∃ x y vo ve, e = .returned (gval x y vo ve nil64 (St.first m) m.turn.2.1 m.fin) ∧ So base w' x y vo ve (St.first m) ∧ Below w.heap.size w w'
set_option maxHeartbeats 2000000 in
theorem begun_impl (v : Value) (m : Mc) (w : World) (hm : MSl w v m) (hok : m.ok = true) (ho : OpsAt w) :
  Calls Tryz.prog 51 #[v] w fun e w' => Bgn w.heap.size w w' e m := by
 have hL := turn_like hok
 have hcst := turn_cost m
 have hkk : 0 ≤ m.k ∧ m.k ≤ 1000000000 := by
  have h1 := (okm.1 hok).k
  have h2 := (Tm.ok_true (okm.1 hok).t).1
  omega
 obtain ⟨M1, I, hC⟩ : ∃ M1 I, m.call = (M1, I) := ⟨_, _, rfl⟩
 have hct := call_told m
 rw [hC] at hct
 have HC : Hid (m.called = (M1, I)) := show _ = _ by unfold Mc.called; rw [if_pos hok, hC]
 obtain ⟨x, y, hv, hr, ha⟩ := hm
 by_cases hI : I = -1
 ·have HC1 : Hid (I = -1) := hI
  subst hI
  have hok1 : M1.ok = true := by
   have := (call_like hok).1
   rw [hC] at this; exact this
  obtain ⟨M2, C, U, hR⟩ : ∃ M2 C U, M1.exec = (M2, C, U) := ⟨_, _, _, rfl⟩
  have hU := exec_told hok1
  rw [hR] at hU
  have HR : Hid (M1.execd = (M2, C, U)) := show _ = _ by unfold Mc.execd; rw [if_pos hok1, hR]
  obtain ⟨K, hK⟩ : ∃ K, m.k = K := ⟨_, rfl⟩
  have HU : Hid (U = -1 ∨ 0 ≤ U) := hU
  by_cases hU1 : U = -1
  ·subst hU1
   have ht : m.turn = (M2, C, []) := by unfold Mc.turn; rw [hC]; simp only []; rw [if_pos (by decide), hR]; simp only []; rw [if_neg (by decide)]
   rw [ht] at hL hcst
   simp only [] at hcst
   have HF : Hid (St.first m = ⟨M2, [], [], 0⟩ ∧ m.turn.2.1 = C ∧ m.fin = m.k + C) := by
    refine ⟨?_, ?_, ?_⟩
    ·unfold St.first; rw [ht]
    ·rw [ht]
    ·unfold Mc.fin; rw [ht]
   have HKK : Hid (M2.k = m.k) := show _ = _ from hL.2.1
   skip
   clear hL hC hct ht hR hU hok1 HC1
   rw [hK] at HF HKK hkk
   clear hK
   go_enter Tryz.func51, Tryz.ntmps51
   go_wp2_with (first
    | (refine box_m rfl rfl hv ?_; intro w0 r0 hb0; have hr0 := hr.below hb0; have ha0 := ha.below hb0; have oo0 := ho.below hb0)
    | (refine al_g rfl rfl ?_; intro w1 z1 hb1; have r1 := r0.below hb1; have hr1 := hr0.below hb1; have ha1 := ha0.below hb1; have oo1 := oo0.below hb1; have hB1 := below_more hb0 hb1; have s0 := hb0.size; have s1 := hb1.size; have lz1 := z1.lt)
    | (refine ld_mc rfl rfl rfl r1 ?_)
    | (go_at_call 110; refine (interrupted_impl' HC.out _ _ ⟨x, y, rfl, hr1, ha1⟩).mono ?_; rintro e w2 ⟨v2, rfl, ⟨x2, y2, rfl, hx2, hy2, ap2⟩, hb2⟩; have s2 := hb2.size; have z2 := z1.below hb2; have hB2 := below_more hB1 hb2; have oo2 := oo1.below hb2)
    | (refine al_mc rfl rfl ?_; intro w3 q3 hb3; have z3 := z2.below hb3; have hx3 := hx2.below hb3; have hy3 := hy2.below hb3; have hB3 := below_more hB2 hb3; have s3 := hb3.size; have lq3 := q3.lt; have oo3 := oo2.below hb3)
    | (refine st_mc rfl rfl rfl rfl q3 (one_own hx3) (one_own hy3) ?_; rintro w4 q4 o4 -; have z4 := z3.onto o4 (by omega); have b34 := new_bb hb3 o4; have hx4 := hx2.below b34; have hy4 := hy2.below b34; have hB4 := below_onto hB3 o4 (by omega); have s4 := o4.size; have oo4 := oo2.below b34)
    | (refine ld_mc rfl rfl rfl q4 ?_)
    | (go_at_call 113; refine (executed_impl' HR.out _ _ ⟨x2, y2, rfl, hx4.sl, hy4.sl⟩ oo4).mono ?_; rintro e w5 ⟨v5, rfl, ⟨x5, y5, rfl, hx5, hy5, ap5⟩, hb5⟩; have s5 := hb5.size; have O5 : Ow w.heap.size w5 x5 y5 M2 := ⟨hx5.mono (by omega), hy5.mono (by omega), ap5, by omega⟩; have z5 := z4.below hb5; have hB5 := below_more hB4 hb5)
    | (refine al_mc rfl rfl ?_; intro w6 q6 hb6; have z6 := z5.below hb6; have O6 := O5.below hb6; have hB6 := below_more hB5 hb6; have s6 := hb6.size; have lq6 := q6.lt)
    | (refine st_mc rfl rfl rfl rfl q6 (one_own O6.hx) (one_own O6.hy) ?_; rintro w7 q7 o7 -; have z7 := z6.onto o7 (by omega); have O7 := O6.at o7 (own_not_row O6.hx q6 (by decide)) (own_not_row O6.hy q6 (by decide)); have hB7 := below_onto hB6 o7 (by omega); have s7 := o7.size)
    | (refine ld_mc rfl rfl rfl q7 ?_)
    | (go_at_call 111; refine (stepOver_impl _ x5 y5 M2 C K _ rfl (one_own O7.hx) (one_own O7.hy) HKK.out hkk (by omega)).mono ?_; rintro e w8 ⟨rfl, hb8⟩; have z8 := z7.below hb8; have O8 := O7.below hb8; have hB8 := below_more hB7 hb8; have s8 := hb8.size)
    | (refine al_g rfl rfl ?_; intro w9 g9 hb9; have z9 := z8.below hb9; have O9 := O8.below hb9; have hB9 := below_more hB8 hb9; have s9 := hb9.size; have lg9 := g9.lt)
    | (refine st_g rfl rfl rfl rfl g9 (one_own O9.hx) (one_own O9.hy) rfl rfl rfl ?_; rintro wa ga oa -; have za := z9.onto oa (by omega); have Oa := O9.at oa (own_not_row O9.hx g9 (by decide)) (own_not_row O9.hy g9 (by decide)); have hBa := below_onto hB9 oa (by omega); have sa := oa.size; have kf := (gc ga).fin; have Ya : So w.heap.size wa x5 y5 nil64 nil64 ⟨M2, [], [], 0⟩ := ⟨Oa, OwnF.nil _ _ _, OwnF.nil _ _ _⟩)
    | (refine ld_g rfl rfl rfl ga ?_)
    | (refine st_g rfl rfl rfl rfl za (one_own Ya.ow.hx) (one_own Ya.ow.hy) rfl rfl rfl ?_; rintro wc zc oc -; have Yc := Ya.row oc za plain_g (by decide); have hBc := below_onto hBa oc (by omega)))
   refine ret_g rfl rfl zc rfl ?_
   unfold Bgn
   rw [HF.out.1, HF.out.2.1, HF.out.2.2]
   exact ⟨x5, y5, nil64, nil64, rfl, Yc, hBc⟩
  ·have hU0 : 0 ≤ U := hU.resolve_left hU1
   have ht : m.turn = (M2, C, [⟨m.k + C, 1, U⟩]) := by unfold Mc.turn; rw [hC]; simp only []; rw [if_pos (by decide), hR]; simp only []; rw [if_pos hU0]
   rw [ht] at hL hcst
   simp only [] at hcst
   have HF : Hid (St.first m = ⟨M2, [], [⟨m.k + C, 1, U⟩], 0⟩ ∧ m.turn.2.1 = C ∧ m.fin = m.k + C) := by
    refine ⟨?_, ?_, ?_⟩
    ·unfold St.first; rw [ht]
    ·rw [ht]
    ·unfold Mc.fin; rw [ht]
   have HKK : Hid (M2.k = m.k) := show _ = _ from hL.2.1
   have bU : (U == -1) = false := by simp; omega
   clear hL hC hct ht hR hU hok1 HC1
   rw [hK] at HF HKK hkk
   clear hK
   go_enter Tryz.func51, Tryz.ntmps51
   go_wp2_with (first
    | (refine box_m rfl rfl hv ?_; intro w0 r0 hb0; have hr0 := hr.below hb0; have ha0 := ha.below hb0; have oo0 := ho.below hb0)
    | (refine al_g rfl rfl ?_; intro w1 z1 hb1; have r1 := r0.below hb1; have hr1 := hr0.below hb1; have ha1 := ha0.below hb1; have oo1 := oo0.below hb1; have hB1 := below_more hb0 hb1; have s0 := hb0.size; have s1 := hb1.size; have lz1 := z1.lt)
    | (refine ld_mc rfl rfl rfl r1 ?_)
    | (go_at_call 110; refine (interrupted_impl' HC.out _ _ ⟨x, y, rfl, hr1, ha1⟩).mono ?_; rintro e w2 ⟨v2, rfl, ⟨x2, y2, rfl, hx2, hy2, ap2⟩, hb2⟩; have s2 := hb2.size; have z2 := z1.below hb2; have hB2 := below_more hB1 hb2; have oo2 := oo1.below hb2)
    | (refine al_mc rfl rfl ?_; intro w3 q3 hb3; have z3 := z2.below hb3; have hx3 := hx2.below hb3; have hy3 := hy2.below hb3; have hB3 := below_more hB2 hb3; have s3 := hb3.size; have lq3 := q3.lt; have oo3 := oo2.below hb3)
    | (refine st_mc rfl rfl rfl rfl q3 (one_own hx3) (one_own hy3) ?_; rintro w4 q4 o4 -; have z4 := z3.onto o4 (by omega); have b34 := new_bb hb3 o4; have hx4 := hx2.below b34; have hy4 := hy2.below b34; have hB4 := below_onto hB3 o4 (by omega); have s4 := o4.size; have oo4 := oo2.below b34)
    | (refine ld_mc rfl rfl rfl q4 ?_)
    | (go_at_call 113; refine (executed_impl' HR.out _ _ ⟨x2, y2, rfl, hx4.sl, hy4.sl⟩ oo4).mono ?_; rintro e w5 ⟨v5, rfl, ⟨x5, y5, rfl, hx5, hy5, ap5⟩, hb5⟩; have s5 := hb5.size; have O5 : Ow w.heap.size w5 x5 y5 M2 := ⟨hx5.mono (by omega), hy5.mono (by omega), ap5, by omega⟩; have z5 := z4.below hb5; have hB5 := below_more hB4 hb5)
    | (refine al_mc rfl rfl ?_; intro w6 q6 hb6; have z6 := z5.below hb6; have O6 := O5.below hb6; have hB6 := below_more hB5 hb6; have s6 := hb6.size; have lq6 := q6.lt)
    | (refine st_mc rfl rfl rfl rfl q6 (one_own O6.hx) (one_own O6.hy) ?_; rintro w7 q7 o7 -; have z7 := z6.onto o7 (by omega); have O7 := O6.at o7 (own_not_row O6.hx q6 (by decide)) (own_not_row O6.hy q6 (by decide)); have hB7 := below_onto hB6 o7 (by omega); have s7 := o7.size)
    | (refine ld_mc rfl rfl rfl q7 ?_)
    | (go_at_call 111; refine (stepOver_impl _ x5 y5 M2 C K _ rfl (one_own O7.hx) (one_own O7.hy) HKK.out hkk (by omega)).mono ?_; rintro e w8 ⟨rfl, hb8⟩; have z8 := z7.below hb8; have O8 := O7.below hb8; have hB8 := below_more hB7 hb8; have s8 := hb8.size)
    | (refine al_g rfl rfl ?_; intro w9 g9 hb9; have z9 := z8.below hb9; have O9 := O8.below hb9; have hB9 := below_more hB8 hb9; have s9 := hb9.size; have lg9 := g9.lt)
    | (refine st_g rfl rfl rfl rfl g9 (one_own O9.hx) (one_own O9.hy) rfl rfl rfl ?_; rintro wa ga oa -; have za := z9.onto oa (by omega); have Oa := O9.at oa (own_not_row O9.hx g9 (by decide)) (own_not_row O9.hy g9 (by decide)); have hBa := below_onto hB9 oa (by omega); have sa := oa.size; have kf := (gc ga).fin; have Ya : So w.heap.size wa x5 y5 nil64 nil64 ⟨M2, [], [], 0⟩ := ⟨Oa, OwnF.nil _ _ _, OwnF.nil _ _ _⟩)
    | (go_at_call 112; refine (tell_impl (K + C) 1 U ga Ya (by simp)).mono ?_; rintro e wb ⟨rfl, vo8, ve8, gb, Yb, Mb⟩; have zb := Mb.row za plain_g (by omega); have hBb : Below w.heap.size w wb := hBa.trans (Mb.below (by omega) hBa.size); have sb := Mb.size)
    | (refine ld_g rfl rfl rfl gb ?_)
    | (refine st_g rfl rfl rfl rfl zb (one_own Yb.ow.hx) (one_own Yb.ow.hy) (Yb.o.one okM) (Yb.e.one okE) rfl ?_; rintro wc zc oc -; have Yc := Yb.row oc zb plain_g (by decide); have hBc := below_onto hBb oc (by omega)))
   refine ret_g rfl rfl zc rfl ?_
   unfold Bgn
   rw [HF.out.1, HF.out.2.1, HF.out.2.2]
   exact ⟨x5, y5, vo8, ve8, rfl, Yc, hBc⟩
 ·have hI0 : 0 ≤ I := hct.resolve_left hI
  have ht : m.turn = (M1, 5, [⟨m.k + 5, 2, I⟩]) := by unfold Mc.turn; rw [hC]; simp only []; rw [if_neg (by omega)]
  have HF : Hid (St.first m = ⟨M1, [], [⟨m.k + 5, 2, I⟩], 0⟩ ∧ m.turn.2.1 = 5 ∧ m.fin = m.k + 5) := by
   refine ⟨?_, ?_, ?_⟩
   ·unfold St.first; rw [ht]
   ·rw [ht]
   ·unfold Mc.fin; rw [ht]
  have HKK : Hid (M1.k = m.k) := show _ = _ by rw [ht] at hL; exact hL.2.1
  have bI : (I == -1) = false := by simpa using hI
  clear hL hcst hC hct ht hI
  obtain ⟨K, hK⟩ : ∃ K, m.k = K := ⟨_, rfl⟩
  rw [hK] at HF HKK hkk
  clear hK
  go_enter Tryz.func51, Tryz.ntmps51
  go_wp2_with (first
   | (refine box_m rfl rfl hv ?_; intro w0 r0 hb0; have hr0 := hr.below hb0; have ha0 := ha.below hb0)
   | (refine al_g rfl rfl ?_; intro w1 z1 hb1; have r1 := r0.below hb1; have hr1 := hr0.below hb1; have ha1 := ha0.below hb1; have hB1 := below_more hb0 hb1; have s0 := hb0.size; have s1 := hb1.size; have lz1 := z1.lt)
   | (refine ld_mc rfl rfl rfl r1 ?_)
   | (go_at_call 110; refine (interrupted_impl' HC.out _ _ ⟨x, y, rfl, hr1, ha1⟩).mono ?_; rintro e w2 ⟨v2, rfl, ⟨x2, y2, rfl, hx2, hy2, ap2⟩, hb2⟩; have s2 := hb2.size; have O2 : Ow w.heap.size w2 x2 y2 M1 := ⟨hx2.mono (by omega), hy2.mono (by omega), ap2, by omega⟩; have z2 := z1.below hb2; have hB2 := below_more hB1 hb2)
   | (refine al_mc rfl rfl ?_; intro w3 q3 hb3; have z3 := z2.below hb3; have O3 := O2.below hb3; have hB3 := below_more hB2 hb3; have s3 := hb3.size; have lq3 := q3.lt)
   | (refine st_mc rfl rfl rfl rfl q3 (one_own O3.hx) (one_own O3.hy) ?_; rintro w4 q4 o4 -; have z4 := z3.onto o4 (by omega); have O4 := O3.at o4 (own_not_row O3.hx q3 (by decide)) (own_not_row O3.hy q3 (by decide)); have hB4 := below_onto hB3 o4 (by omega); have s4 := o4.size)
   | (refine ld_mc rfl rfl rfl q4 ?_)
   | (go_at_call 111; refine (stepOver_impl _ x2 y2 M1 5 K _ rfl (one_own O4.hx) (one_own O4.hy) HKK.out hkk (by decide)).mono ?_; rintro e w5 ⟨rfl, hb5⟩; have z5 := z4.below hb5; have O5 := O4.below hb5; have hB5 := below_more hB4 hb5; have s5 := hb5.size)
   | (refine al_g rfl rfl ?_; intro w6 g6 hb6; have z6 := z5.below hb6; have O6 := O5.below hb6; have hB6 := below_more hB5 hb6; have s6 := hb6.size; have lg6 := g6.lt)
   | (refine st_g rfl rfl rfl rfl g6 (one_own O6.hx) (one_own O6.hy) rfl rfl rfl ?_; rintro w7 g7 o7 -; have z7 := z6.onto o7 (by omega); have O7 := O6.at o7 (own_not_row O6.hx g6 (by decide)) (own_not_row O6.hy g6 (by decide)); have hB7 := below_onto hB6 o7 (by omega); have s7 := o7.size; have kf := (gc g7).fin; have Y7 : So w.heap.size w7 x2 y2 nil64 nil64 ⟨M1, [], [], 0⟩ := ⟨O7, OwnF.nil _ _ _, OwnF.nil _ _ _⟩)
   | (go_at_call 112; refine (tell_impl (K + 5) 2 I g7 Y7 (by simp)).mono ?_; rintro e w8 ⟨rfl, vo8, ve8, g8, Y8, M8⟩; have z8 := M8.row z7 plain_g (by omega); have hB8 : Below w.heap.size w w8 := hB7.trans (M8.below (by omega) hB7.size); have s8 := M8.size)
   | (refine ld_g rfl rfl rfl g8 ?_)
   | (refine st_g rfl rfl rfl rfl z8 (one_own Y8.ow.hx) (one_own Y8.ow.hy) (Y8.o.one okM) (Y8.e.one okE) rfl ?_; rintro w9 z9 o9 -; have Y9 := Y8.row o9 z8 plain_g (by decide); have hB9 := below_onto hB8 o9 (by omega)))
  refine ret_g rfl rfl z9 rfl ?_
  unfold Bgn
  rw [HF.out.1, HF.out.2.1, HF.out.2.2]
  exact ⟨x2, y2, vo8, ve8, rfl, Y9, hB9⟩
end Go.Proofs.YtghmkacamabndaaGreatDoor.Mem
namespace Go.Proofs.YtghmkacamabndaaGreatDoor.Mem
open Go.ChangeShapes Go.WideShapes Go.RowKit Base Num Slc Rw Tmr Srl Rom RomOf Ex Reg

def Te (s0 : Nat) (m : Mc) (xr xa vr va : Value) (j : Nat) (f : Nat → Value) (W : World) : Prop :=
 if j = 0 then f s0 = m.val xr xa
 else if j = 1 then f (s0 + 1) = m.val vr va
 else if j = 2 then MSl W (f (s0 + 2)) m
 else if j = 3 then f (s0 + 3) = .bool true
 else if j = 4 then f (s0 + 4) = .bool false
 else True
theorem mono_e {ops : Array Oper} {s0 : Nat} {m : Mc} {xr xa vr va : Value} (hS : supOk ops [[s0], [s0 + 1], [s0 + 2], [s0 + 3], [s0 + 4]] = true) : Mono ops (Te s0 m xr xa vr va) (fun _ W W' => Below W.heap.size W W') := by
 refine mono_sup hS (fun j f f' W hf hT => ?_) (fun i j f W W' hij hT hR => ?_)
 ·rcases j with _ | _ | _ | _ | _ | j
  ·exact (hf s0 (by simp)).trans hT
  ·exact (hf (s0 + 1) (by simp)).trans hT
  ·show MSl W (f' (s0 + 2)) m
   rw [hf (s0 + 2) (by simp)]; exact hT
  ·exact (hf (s0 + 3) (by simp)).trans hT
  ·exact (hf (s0 + 4) (by simp)).trans hT
  ·simp [Te]
 ·rcases j with _ | _ | _ | _ | _ | j
  ·exact hT
  ·exact hT
  ·exact MSl.below (show MSl W (f (s0 + 2)) m from hT) hR
  ·exact hT
  ·exact hT
  ·simp [Te]
structure Ge (w : World) (m : Mc) (g gx : Nat) (xr xa vr va : Value) (W : World) : Prop where
 arg : Row W g (m.cells vr va) 69
 x : MRow W gx xr xa m
 ar : Sl W vr m.rom
 aa : Sl W va m.ram
 xr : Sl W xr m.rom
 xa : Sl W xa m.ram
 bel : Below w.heap.size w W
theorem Ge.below {w W W' : World} {m : Mc} {g gx : Nat} {xr xa vr va : Value} (h : Ge w m g gx xr xa vr va W) (hb : Below W.heap.size W W') : Ge w m g gx xr xa vr va W' :=
 ⟨h.arg.below hb, h.x.below hb, h.ar.below hb, h.aa.below hb, h.xr.below hb, h.xa.below hb, below_more h.bel hb⟩
theorem Ge.drew {w W : World} {m : Mc} {g gx : Nat} {xr xa vr va : Value} (h : Ge w m g gx xr xa vr va W) : Ge w m g gx xr xa vr va W.drew := h.below (drew_below (n := 1) rfl)
end Go.Proofs.YtghmkacamabndaaGreatDoor.Mem
namespace Go.Proofs.YtghmkacamabndaaGreatDoor.Mem
open Go.ChangeShapes Go.WideShapes Go.RowKit Base Num Slc Rw Tmr Srl Rom RomOf Ex Reg Opl

end Go.Proofs.YtghmkacamabndaaGreatDoor.Mem
namespace Go.Proofs.YtghmkacamabndaaGreatDoor.Mem
open Go.ChangeShapes Go.WideShapes Go.RowKit Base Num Slc Rw Tmr Srl Rom Opl

def St.join (s x : St) : St := ⟨x.m, s.o ++ x.o, s.e ++ x.e, s.u + x.u⟩
def St.goes (l : List M3) (til : Int) : Nat → St → St
 | 0, s => s
 | n + 1, s => if s.m.k < til then (if (stepOf s.m (l.drop s.u.toNat)).2 then St.goes l til n (s.join (stepOf s.m (l.drop s.u.toNat)).1) else s) else s
def St.ran (l : List M3) (til : Int) (s : St) : St := s.goes l til (til - s.m.k).toNat
def St.at0 (m : Mc) : St := ⟨m, [], [], 0⟩
def runTo (m : Mc) (l : List M3) (til : Int) : St × Bool := if m.ok && inboxOk l && inn til 0 100000 then ((St.at0 m).ran l til, true) else (St.nul, false)

theorem at_drop (l : List M3) (n i : Nat) : M3.at' (l.drop n) i = M3.at' l (n + i) := by
 unfold M3.at'
 simp [List.getD_eq_getElem?_getD, List.getElem?_drop]
theorem inbox_drop {l : List M3} (h : inboxOk l = true) (n : Nat) : inboxOk (l.drop n) = true := by
 obtain ⟨h1, h2, h3⟩ := fits_all.1 h
 refine fits_all.2 ⟨fun i hi => ?_, fun i hi => ?_, by simp; omega⟩
 ·rw [at_drop]; exact h1 _ (by simp at hi; omega)
 ·rw [at_drop, at_drop]; exact h2 (n + i) (by simp at hi; omega)
structure Few (s : St) : Prop where
 o : s.o.length + (if s.m.p.x = 0 then 0 else 1) ≤ 2 * s.u.toNat + 1
 e : s.e.length ≤ s.u.toNat + 1
 u : 0 ≤ s.u
theorem arr_few (s : St) (m : M3) : (s.arrive m).o.length ≤ s.o.length + 1 ∧ (s.arrive m).e.length ≤ s.e.length + 1 ∧ (s.arrive m).u = s.u := by
 unfold St.arrive
 repeat' split
 all_goals simp [St.through, St.sends, St.port]
theorem Few.taken {s : St} (h : Few s) (l : List M3) : Few (s.taken l) := by
 have h1 := arr_few s (M3.at' l s.u.toNat)
 have h2 := h.o
 have h3 := h.e
 have h4 := h.u
 have ho : (s.taken l).o.length = (s.arrive (M3.at' l s.u.toNat)).o.length := rfl
 have he : (s.taken l).e.length = (s.arrive (M3.at' l s.u.toNat)).e.length := rfl
 have hu : (s.taken l).u = s.u + 1 := rfl
 have hx : (if (s.taken l).m.p.x = 0 then 0 else 1) ≤ 1 := by split <;> omega
 refine ⟨?_, ?_, by omega⟩
 ·rw [hu, ho]; omega
 ·rw [hu, he]; omega
theorem Few.beats {s : St} (h : Few s) {fin : Int} (hi : s.idle fin = false) : Few (s.beats fin) := by
 have hx := beats_x hi
 have h0 := h.o
 simp only [St.idle, Bool.or_eq_false_iff, beq_eq_false_iff_ne, ne_eq] at hi
 rw [if_neg hi.1] at h0
 have ho : (s.beats fin).o.length = s.o.length + 1 := by simp [St.beats, St.sends, St.port]
 have hu : (s.beats fin).u = s.u := rfl
 exact ⟨by rw [hx, if_pos rfl, ho, hu]; omega, h.e, h.u⟩
theorem events_few (l : List M3) (fin : Int) : ∀ (n : Nat) (s : St), Few s → Few (s.events l fin n) := by
 intro n
 induction n with
 | zero => intro s h; exact h
 | succ n ih =>
  intro s h
  unfold St.events
  split
  ·exact ih _ (h.taken l)
  split
  ·exact h
  ·rename_i h1
   exact ih _ (h.beats (by simpa using h1))
theorem stepped_few (m : Mc) (l : List M3) : (m.stepped l).o.length ≤ 2 * (m.stepped l).u.toNat + 1 ∧ (m.stepped l).e.length ≤ (m.stepped l).u.toNat + 1 := by
 have h0 : Few (St.first m) := by
  refine ⟨?_, ?_, Int.le_refl _⟩
  ·show 0 + (if m.turn.1.p.x = 0 then 0 else 1) ≤ 2 * (0 : Int).toNat + 1
   split <;> simp
  ·show m.turn.2.2.length ≤ (0 : Int).toNat + 1
   unfold Mc.turn
   split
   ·show (if _ then _ else _ : List M3).length ≤ _
    split <;> simp
   ·simp
 have h := events_few l m.fin ((St.first m).meas l) (St.first m) h0
 have ho := h.o
 exact ⟨by show ((St.first m).events l m.fin ((St.first m).meas l)).o.length ≤ 2 * ((St.first m).events l m.fin ((St.first m).meas l)).u.toNat + 1; omega, h.e⟩
structure Along (l : List M3) (k0 til : Int) (s : St) : Prop where
 ok : s.m.ok = true
 u0 : 0 ≤ s.u
 u1 : s.u ≤ l.length
 k : k0 ≤ s.m.k
 hi : s.m.k < til + 5 ∨ s.m.k = k0
 o : (s.o.length : Int) ≤ 2 * s.u + (s.m.k - k0)
 e : (s.e.length : Int) ≤ s.u + (s.m.k - k0)
section
variable {l : List M3} {k0 til : Int} {s : St}
def St.on (l : List M3) (s : St) : St := s.join (s.m.stepped (l.drop s.u.toNat))
theorem Along.more (h : Along l k0 til s) (hl : inboxOk l = true) (ht : til ≤ 100000) (hk : s.m.k < til) :
  stepOf s.m (l.drop s.u.toNat) = (s.m.stepped (l.drop s.u.toNat), true) ∧ Along l k0 til (s.on l) ∧ s.m.k < (s.on l).m.k := by
 have hc := turn_cost s.m
 have hf : s.m.fin ≤ 999999900 := by unfold Mc.fin; omega
 have hd := inbox_drop hl s.u.toNat
 have hS := stepped_done h.ok hd hf
 have hfew := stepped_few s.m (l.drop s.u.toNat)
 have e := stepOf_yes h.ok hd hf
 have e1 : (s.on l).m = (s.m.stepped (l.drop s.u.toNat)).m := rfl
 have e2 : (s.on l).u = s.u + (s.m.stepped (l.drop s.u.toNat)).u := rfl
 have e3 : (s.on l).o.length = s.o.length + (s.m.stepped (l.drop s.u.toNat)).o.length := List.length_append
 have e4 : (s.on l).e.length = s.e.length + (s.m.stepped (l.drop s.u.toNat)).e.length := List.length_append
 have h0 := hS.u0
 have h1 := hS.u1
 have h2 := hS.k
 have h3 := hS.lo
 have h4 := hS.hi
 have h5 := h.u0
 have h6 := h.u1
 have h7 := h.k
 have h8 := h.o
 have h9 := h.e
 simp only [List.length_drop] at h1
 refine ⟨e, ⟨?_, ?_, ?_, ?_, ?_, ?_, ?_⟩, ?_⟩
 ·rw [e1]; exact hS.ok
 ·rw [e2]; omega
 ·rw [e2]; omega
 ·rw [e1, h2]; omega
 ·rw [e1, h2]; omega
 ·rw [e1, h2, e2, e3]; omega
 ·rw [e1, h2, e2, e4]; omega
 ·rw [e1, h2]; omega
theorem goes_stop (h : ¬ s.m.k < til) : ∀ n, s.goes l til n = s
 | 0 => rfl
 | n + 1 => by unfold St.goes; rw [if_neg h]
theorem goes_on (hl : inboxOk l = true) (ht : til ≤ 100000) (h : Along l k0 til s) (hk : s.m.k < til) (n : Nat) : s.goes l til (n + 1) = (s.on l).goes l til n := by
 obtain ⟨e, -, -⟩ := h.more hl ht hk
 rw [St.goes, if_pos hk, e]
 rfl
theorem goes_any (hl : inboxOk l = true) (ht : til ≤ 100000) : ∀ (n k : Nat) (s : St), Along l k0 til s → (til - s.m.k).toNat ≤ n → (til - s.m.k).toNat ≤ k → s.goes l til n = s.goes l til k := by
 intro n
 induction n with
 | zero => intro k s h hn hk; rw [goes_stop (by omega), goes_stop (by omega)]
 | succ n ih =>
  intro k s h hn hk
  by_cases hlt : s.m.k < til
  ·obtain ⟨-, ha, hm⟩ := h.more hl ht hlt
   obtain ⟨k', rfl⟩ : ∃ k', k = k' + 1 := ⟨k - 1, by omega⟩
   rw [goes_on hl ht h hlt, goes_on hl ht h hlt]
   exact ih k' _ ha (by omega) (by omega)
  ·rw [goes_stop hlt, goes_stop hlt]
theorem ran_stop (h : ¬ s.m.k < til) : s.ran l til = s := goes_stop h _
theorem ran_on (hl : inboxOk l = true) (ht : til ≤ 100000) (h : Along l k0 til s) (hk : s.m.k < til) : s.ran l til = (s.on l).ran l til := by
 obtain ⟨-, ha, hm⟩ := h.more hl ht hk
 unfold St.ran
 obtain ⟨n, hn⟩ : ∃ n, (til - s.m.k).toNat = n + 1 := ⟨(til - s.m.k).toNat - 1, by omega⟩
 rw [hn, goes_on hl ht h hk]
 exact goes_any hl ht _ _ _ ha (by omega) (Nat.le_refl _)
theorem ran_all (hl : inboxOk l = true) (ht : til ≤ 100000) : ∀ (n : Nat) (s : St), (til - s.m.k).toNat ≤ n → Along l k0 til s → Along l k0 til (s.ran l til) ∧ til ≤ (s.ran l til).m.k ∧ s.u ≤ (s.ran l til).u := by
 intro n
 induction n with
 | zero => intro s hn h; rw [ran_stop (by omega)]; exact ⟨h, by omega, Int.le_refl _⟩
 | succ n ih =>
  intro s hn h
  by_cases hk : s.m.k < til
  ·obtain ⟨-, ha, hm⟩ := h.more hl ht hk
   rw [ran_on hl ht h hk]
   obtain ⟨h1, h2, h3⟩ := ih (s.on l) (by omega) ha
   have hS := (stepped_done h.ok (inbox_drop hl s.u.toNat) (by have := turn_cost s.m; unfold Mc.fin; omega)).u0
   have e2 : (s.on l).u = s.u + (s.m.stepped (l.drop s.u.toNat)).u := rfl
   exact ⟨h1, h2, by omega⟩
  ·rw [ran_stop hk]; exact ⟨h, by omega, Int.le_refl _⟩
theorem along_0 {m : Mc} (hm : m.ok = true) (l : List M3) (til : Int) : Along l m.k til (St.at0 m) :=
 ⟨hm, Int.le_refl _, by show (0 : Int) ≤ l.length; omega, Int.le_refl _, .inr rfl, by show (0 : Int) ≤ 2 * 0 + (m.k - m.k); omega, by show (0 : Int) ≤ 0 + (m.k - m.k); omega⟩
end
theorem runTo_yes {m : Mc} {l : List M3} {til : Int} (h : m.ok = true) (hl : inboxOk l = true) (ht : inn til 0 100000 = true) : runTo m l til = ((St.at0 m).ran l til, true) := by
 unfold runTo
 rw [if_pos (by simp [h, hl, ht])]
theorem runTo_no {m : Mc} {l : List M3} {til : Int} (h : ¬ (m.ok = true ∧ inboxOk l = true ∧ inn til 0 100000 = true)) : runTo m l til = (St.nul, false) := by
 unfold runTo
 rw [if_neg]
 simp only [Bool.and_eq_true]
 rintro ⟨⟨h1, h2⟩, h3⟩
 exact h ⟨h1, h2, h3⟩
end Go.Proofs.YtghmkacamabndaaGreatDoor.Mem
namespace Go.Proofs.YtghmkacamabndaaGreatDoor.Reg
open Go.RowKit Base Rw

structure Keeps (T : TypeId) (K : Value → World → Prop) : Prop where
 b : ∀ v W W', K v W → Below W.heap.size W W' → K v W'
 o : ∀ v W W' g cs, K v W → Row W g cs T → Onto g W W' → K v W'
theorem keeps_is (T : TypeId) (v : Value) : Keeps T (KIs v) := ⟨fun _ _ _ h _ => h, fun _ _ _ _ _ h _ _ => h⟩
theorem keeps_any (T : TypeId) : Keeps T KAny := ⟨fun _ _ _ _ _ => trivial, fun _ _ _ _ _ _ _ _ => trivial⟩
theorem kinds_keep {T : TypeId} {l : List (Value → World → Prop)} (h : ∀ K ∈ l, Keeps T K) (j : Nat) : Keeps T (kinds l j) := by
 have key : kinds l j = KAny ∨ ∃ K ∈ l, kinds l j = K := by
  cases e : l[j]? with
  | none => left; funext v w; simp [kinds, List.getD_eq_getElem?_getD, e]
  | some K => right; exact ⟨K, List.mem_of_getElem? e, by funext v w; simp [kinds, List.getD_eq_getElem?_getD, e]⟩
 rcases key with e | ⟨K, hK, e⟩
 ·rw [e]; exact keeps_any T
 ·rw [e]; exact h K hK
def tAt (w0 : World) (T : TypeId) (ka n : Nat) (f : Nat → Value) (W : World) : Prop := ∃ b cs, f ka = .pointer (some ⟨b, 0, none⟩) ∧ w0.heap.size ≤ b ∧ Row W b cs T ∧ cs.size = n
def tIs (w0 : World) (T : TypeId) (ka n : Nat) (E : Array Value → World → Prop) (f : Nat → Value) (W : World) : Prop := ∃ b cs, f ka = .pointer (some ⟨b, 0, none⟩) ∧ w0.heap.size ≤ b ∧ Row W b cs T ∧ cs.size = n ∧ E cs W
def tT (ops : Array Oper) (w0 : World) (T : TypeId) (sa ss ka n : Nat) (E : Array Value → World → Prop) (l : List (Value → World → Prop)) (j : Nat) (f : Nat → Value) (W : World) : Prop :=
 if j = sa then tAt w0 T ka n f W else if j = ss then tIs w0 T ka n E f W else ∀ k, (ops[j]?).bind (·.dst) = some k → kinds l j (f k) W
def tR (w0 : World) (T : TypeId) (ss ka n : Nat) (E : Array Value → World → Prop) (i : Nat) (f : Nat → Value) (W W' : World) : Prop :=
 if i = ss then tIs w0 T ka n E f W' ∧ ∃ g cs, Row W g cs T ∧ Onto g W W' else Below W.heap.size W W'
section
variable {P : Program} {ops : Array Oper} {Q : Exit → Act → World → Prop} {sa ss ka n : Nat} {T : TypeId} {E : Array Value → World → Prop} {a0 a : Act} {L : Nat → Bool} {w w' w0 : World} {i : Nat} {o : Oper} {v : Value} {l : List (Value → World → Prop)}
theorem mono_t {m : Nat} (hds : dstOk ops m = true) (hka : (ops[sa]?).bind (·.dst) = some ka) (hdep : hasDep ops ss sa = true) (hne : sa ≠ ss) (hl : ∀ K ∈ l, Keeps T K) (hE : ∀ cs W W', E cs W → Below W.heap.size W W' → E cs W') : MonoF ops (tT ops w0 T sa ss ka n E l) (tR w0 T ss ka n E) := by
 intro L i j oi oj f f' w w' hi hj hLi hLj hd hf hT hR
 unfold tT at hT ⊢
 unfold tR at hR
 have hk : i ≠ sa → f' ka = f ka := fun i1 => hf ka (fun e => i1 (dst_one hds (by rw [hi]; exact e) hka))
 by_cases j1 : j = sa
 ·rw [if_pos j1] at hT ⊢
  have i1 : i ≠ sa := fun e => by rw [e, ← j1, hLj] at hLi; cases hLi
  by_cases i2 : i = ss
  ·rw [if_pos i2] at hR
   obtain ⟨⟨b, cs, e, hb, hr, hn, _⟩, _⟩ := hR
   exact ⟨b, cs, e, hb, hr, hn⟩
  ·rw [if_neg i2] at hR
   obtain ⟨b, cs, e, hb, hr, hn⟩ := hT
   exact ⟨b, cs, (hk i1).trans e, hb, hr.below hR, hn⟩
 ·rw [if_neg j1] at hT ⊢
  by_cases j2 : j = ss
  ·rw [if_pos j2] at hT ⊢
   have i1 : i ≠ sa := fun e => by
    have h1 := hdep
    unfold hasDep at h1
    rw [← j2, hj] at h1
    have := hd sa (List.contains_iff_mem.1 h1)
    rw [← e, hLi] at this; cases this
   have i2 : i ≠ ss := fun e => by rw [e, ← j2, hLj] at hLi; cases hLi
   rw [if_neg i2] at hR
   obtain ⟨b, cs, e, hb, hr, hn, he⟩ := hT
   exact ⟨b, cs, (hk i1).trans e, hb, hr.below hR, hn, hE _ _ _ he hR⟩
  ·rw [if_neg j2] at hT ⊢
   intro k hk
   have e1 : f' k = f k := hf k (fun e => by
    have : i = j := dst_one hds (by rw [hi]; exact e) hk
    rw [this, hLj] at hLi; cases hLi)
   rw [e1]
   have hK := kinds_keep hl j
   by_cases i2 : i = ss
   ·rw [if_pos i2] at hR
    obtain ⟨_, g, cs, hr, ho⟩ := hR
    exact hK.o _ _ _ _ _ (hT k hk) hr ho
   ·rw [if_neg i2] at hR
    exact hK.b _ _ _ (hT k hk) hR
theorem InvG.valT {G : World → Prop} (h : InvG ops G (tT ops w0 T sa ss ka n E l) a0 L a w) (hr : ∀ d ∈ deps o, L d = true) (j k : Nat) {oj : Oper} (hj : ops[j]? = some oj) (hk : oj.dst = some k) (hd : (deps o).contains j = true) (h1 : j ≠ sa) (h2 : j ≠ ss) : kinds l j (a.eval (.tmp k)) w := by
 have := h.get hr j hj hd
 unfold tT at this
 rw [if_neg h1, if_neg h2] at this
 exact this k (by rw [hj]; exact hk)
theorem InvG.lastT {G : World → Prop} (h : InvG ops G (tT ops w0 T sa ss ka n E l) a0 (fun _ => true) a w) (j k : Nat) (hj : (ops[j]?).bind (·.dst) = some k) (h1 : j ≠ sa) (h2 : j ≠ ss) : kinds l j (a.tmps.getD k undef) w := by
 cases hq : ops[j]? with
 | none => simp [hq] at hj
 | some oj =>
  have := h.told j oj hq rfl
  unfold tT at this
  rw [if_neg h1, if_neg h2] at this
  exact this k hj
theorem region_vart {id : Nat} (hm : P.follows .mixedOrders = true) (hac : acyc ops = true) (sa ss ka : Nat) (hsa : sa < ops.size) (hss : ss < ops.size) (hka : (ops[sa]?).bind (·.dst) = some ka) (hn2 : (ops[ss]?).bind (·.dst) = none) (hdep : hasDep ops ss sa = true) (hne : sa ≠ ss) (hds : dstOk ops a0.tmps.size = true)
  (T : TypeId) (cs0 : Array Value) (E : Array Value → World → Prop) (hE : ∀ cs W W', E cs W → Below W.heap.size W W' → E cs W') (l : List (Value → World → Prop)) (hl : ∀ K ∈ l, Keeps T K)
  (step : ∀ (L : Nat → Bool) (i : Nat) (o : Oper) (a : Act) (W : World), i ≠ sa → i ≠ ss → ops[i]? = some o → InvG ops (fun W => Below w.heap.size w W) (tT ops w T sa ss ka cs0.size E l) a0 L a W → Below w.heap.size w W → (∀ d ∈ deps o, L d = true) →
   wpOp P ops Q i (fun a' W' => ∃ v, a' = a.put o.dst v ∧ kinds l i v W' ∧ Below W.heap.size W W') a W)
  (alloc : ∀ (o : Oper) (a : Act) (W : World), ops[sa]? = some o → wpOp P ops Q sa (fun a' W' => a' = a.put o.dst (.pointer (some ⟨W.heap.size, 0, none⟩)) ∧ W' = W.alloc (.cells cs0 T)) a W)
  (store : ∀ (L : Nat → Bool) (o : Oper) (a : Act) (W : World) (b : Nat) (cs : Array Value), ops[ss]? = some o → InvG ops (fun W => Below w.heap.size w W) (tT ops w T sa ss ka cs0.size E l) a0 L a W → (∀ d ∈ deps o, L d = true) → a.eval (.tmp ka) = .pointer (some ⟨b, 0, none⟩) → Row W b cs T → cs.size = cs0.size →
   wpOp P ops Q ss (fun a' W' => a' = a.put o.dst undef ∧ ∃ csX, Row W' b csX T ∧ Onto b W W' ∧ csX.size = cs0.size ∧ E csX W') a W)
  (done : ∀ a W b cs, InvG ops (fun W => Below w.heap.size w W) (tT ops w T sa ss ka cs0.size E l) a0 (fun _ => true) a W → Below w.heap.size w W → a.tmps.getD ka undef = .pointer (some ⟨b, 0, none⟩) → Row W b cs T → E cs W → w.heap.size ≤ b → Q .normal a W) : (Code.region id ops true).wp P Q a0 w := by
 refine region_genF hm hac (fun W => Below w.heap.size w W) (tT ops w T sa ss ka cs0.size E l) (tR w T ss ka cs0.size E) (mono_t hds hka hdep hne hl hE) ((Below.refl _ w).drew) ?_ ?_
 ·intro L i o a W hi hI hL hd
  have hB : Below w.heap.size w W := hI.g
  by_cases i1 : i = sa
  ·subst i1
   have hk' : o.dst = some ka := by rw [hi] at hka; exact hka
   refine wpOp_mono ?_ (alloc o a W hi)
   rintro a' W' ⟨rfl, rfl⟩
   have hb1 : Below W.heap.size W (W.alloc (.cells cs0 T)) := (Below.refl _ _).alloc (Nat.le_refl _) _
   refine ⟨_, rfl, ?_, below_more hB hb1, ?_⟩
   ·unfold tT
    rw [if_pos rfl, hk']
    refine ⟨W.heap.size, cs0, ?_, hB.size, Row.new W cs0 T, rfl⟩
    show (a.put (some ka) _).tmps.getD ka undef = _
    rw [getD_put_same _ _ _ (by rw [hI.size]; exact dst_lt hds (i := i) (by rw [hi]; exact hk'))]
   ·unfold tR
    rw [if_neg hne]; exact hb1
  ·by_cases i2 : i = ss
   ·subst i2
    have hd1 : L sa = true := hd sa (by
     have h1 := hdep
     unfold hasDep at h1
     rw [hi] at h1
     exact List.contains_iff_mem.1 h1)
    obtain ⟨o1, ho1⟩ : ∃ o1, ops[sa]? = some o1 := ⟨_, Array.getElem?_eq_getElem hsa⟩
    have hT := hI.told sa o1 ho1 hd1
    unfold tT at hT
    rw [if_pos rfl] at hT
    obtain ⟨b, cs, e, hb, hr, hn⟩ := hT
    have hnd : o.dst = none := by rw [hi] at hn2; exact hn2
    refine wpOp_mono ?_ (store L o a W b cs hi hI hd e hr hn)
    rintro a' W' ⟨rfl, csX, hr', hon, hnX, hEX⟩
    have hv : tIs w T ka cs0.size E (at_ (a.put o.dst undef)) W' := by rw [hnd]; exact ⟨b, csX, e, hb, hr', hnX, hEX⟩
    refine ⟨undef, rfl, ?_, below_onto hB hon hb, ?_⟩
    ·unfold tT
     rw [if_neg (Ne.symm hne), if_pos rfl]; exact hv
    ·unfold tR
     rw [if_pos rfl]; exact ⟨hv, b, cs, hr, hon⟩
   ·refine wpOp_mono ?_ (step L i o a W i1 i2 hi hI hB hd)
    rintro a' W' ⟨v, rfl, hv, hb⟩
    refine ⟨v, rfl, ?_, below_more hB hb, ?_⟩
    ·unfold tT
     rw [if_neg i1, if_neg i2]
     intro k hk
     rw [hi] at hk
     have hk' : o.dst = some k := hk
     rw [hk']
     show kinds l i ((a.put (some k) v).tmps.getD k undef) W'
     rw [getD_put_same _ _ _ (by rw [hI.size]; exact dst_lt hds (i := i) (by rw [hi]; exact hk'))]
     exact hv
    ·unfold tR
     rw [if_neg i2]; exact hb
 ·intro a W hI
  obtain ⟨o2, ho2⟩ : ∃ o2, ops[ss]? = some o2 := ⟨_, Array.getElem?_eq_getElem hss⟩
  have hT2 := hI.told ss o2 ho2 rfl
  unfold tT at hT2
  rw [if_neg (Ne.symm hne), if_pos rfl] at hT2
  obtain ⟨b, cs, e, hb, hr, hn, he⟩ := hT2
  exact done a W b cs hI hI.g e hr he hb
end
end Go.Proofs.YtghmkacamabndaaGreatDoor.Reg
namespace Go.Proofs.YtghmkacamabndaaGreatDoor.Reg
open Go.RowKit Base Rw

structure InvL (ops : Array Oper) (J : (Nat → Bool) → (Nat → Value) → World → Prop) (a0 : Act) (L : Nat → Bool) (a : Act) (w : World) : Prop where
 j : J L (at_ a) w
 defers : a.defers = a0.defers
 size : a.tmps.size = a0.tmps.size
 rest : ∀ k, (∀ j, L j = true → (ops[j]?).bind (·.dst) ≠ some k) → a.tmps.getD k undef = a0.tmps.getD k undef
 closed : ∀ j o d, ops[j]? = some o → L j = true → d ∈ deps o → L d = true
section
variable {P : Program} {ops : Array Oper} {Q : Exit → Act → World → Prop} {J : (Nat → Bool) → (Nat → Value) → World → Prop} {a0 a : Act} {L : Nat → Bool} {w w' : World} {i : Nat} {o : Oper} {v : Value}
theorem InvL.next (h : InvL ops J a0 L a w) (ho : ops[i]? = some o) (hr : ∀ d ∈ deps o, L d = true) (hJ : J (fun j => L j || j == i) (at_ (a.put o.dst v)) w') : InvL ops J a0 (fun j => L j || j == i) (a.put o.dst v) w' where
 j := hJ
 defers := (put_defers _ _ _).trans h.defers
 size := (put_size _ _ _).trans h.size
 rest := fun k hk => by
  have hne : o.dst ≠ some k := fun e => hk i (by simp) (by rw [ho]; exact e)
  rw [getD_put _ _ _ _ hne]
  exact h.rest k (fun j hj => hk j (by simp [hj]))
 closed := fun j o' d hj hl hd' => by
  by_cases e : j = i
  ·subst e
   rw [ho] at hj; cases hj
   simp [hr d hd']
  ·have hl' : L j = true := by simpa [e] using hl
   simp [h.closed j o' d hj hl' hd']
theorem any_J (hac : acyc ops = true) (hJ : ∀ (L L' : Nat → Bool) f w, (∀ j, j < ops.size → L j = L' j) → J L f w → J L' f w)
  (step : ∀ (L : Nat → Bool) (i : Nat) (o : Oper) (a : Act) (w : World), ops[i]? = some o → InvL ops J a0 L a w → L i = false → (∀ d ∈ deps o, L d = true) →
   wpOp P ops Q i (fun a' w' => ∃ v, a' = a.put o.dst v ∧ J (fun j => L j || j == i) (at_ (a.put o.dst v)) w') a w)
  (done : ∀ a w, InvL ops J a0 (fun _ => true) a w → Q .normal a w) :
  ∀ (fuel : Nat) (listed : Array Bool) (a : Act) (w : World), listed.size = ops.size → left ops.size listed ≤ fuel → InvL ops J a0 (fun j => listed.getD j false) a w → wpAny P .any ops Q fuel listed a w := by
 have fin : ∀ (listed : Array Bool) (a : Act) (w : World), listed.size = ops.size → Region.ready .any ops listed = [] → InvL ops J a0 (fun j => listed.getD j false) a w → Q .normal a w := fun listed a w hs hr hI => by
  refine done a w ?_
  have hall := all_listed hac hr hs
  have hL : ∀ j, j < ops.size → listed.getD j false = true := fun j hjs => by
   have := hall j hjs
   have hjl : j < listed.size := by omega
   simpa [Array.getD_eq_getD_getElem?, Array.getElem?_eq_getElem hjl] using this
  exact ⟨hJ _ _ _ _ (fun j hj => by rw [hL j hj]) hI.j, hI.defers, hI.size, fun k hk => hI.rest k (fun j hj => hk j rfl), fun _ _ _ _ _ _ => rfl⟩
 intro fuel
 induction fuel with
 | zero =>
  intro listed a w hs hf hI
  have hr : Region.ready .any ops listed = [] := by
   refine List.eq_nil_iff_forall_not_mem.2 fun i hi => ?_
   obtain ⟨h1, h2, _⟩ := mem_ready.1 hi
   have h0 : left ops.size listed = 0 := by omega
   have := (List.countP_eq_zero.1 h0) i (List.mem_range.2 h1)
   simp [h2] at this
  exact ⟨hr, fin listed a w hs hr hI⟩
 | succ fuel ih =>
  intro listed a w hs hf hI
  refine ⟨fun hr => fin listed a w hs hr hI, fun i hi => ?_⟩
  obtain ⟨h1, h2, o, ho, h3⟩ := mem_ready.1 hi
  have hil : i < listed.size := by omega
  have hLi : listed.getD i false = false := by
   simpa [Array.getD_eq_getD_getElem?, Array.getElem?_eq_getElem hil] using h2
  refine wpOp_mono ?_ (step (fun j => listed.getD j false) i o a w ho hI hLi h3)
  rintro a' w' ⟨v, rfl, hJ'⟩
  refine ih _ _ _ (by simpa using hs) ?_ ?_
  ·have hlt : left ops.size (listed.setIfInBounds i true) < left ops.size listed := by
    refine countP_lt (x := i) (fun x hx => ?_) (List.mem_range.2 h1) (by simp [h2]) ?_
    ·by_cases hxi : x = i
     ·subst hxi; simp [h2]
     ·simpa [Array.getD_eq_getD_getElem?, Array.getElem?_setIfInBounds, Ne.symm hxi] using hx
    ·simp [Array.getD_eq_getD_getElem?, hil]
   omega
  ·have hI' := hI.next ho h3 hJ'
   have e : (fun j => (listed.setIfInBounds i true).getD j false) = fun j => listed.getD j false || j == i := by
    funext j
    by_cases hj : j = i
    ·subst hj; simp [Array.getD_eq_getD_getElem?, hil]
    ·simp [Array.getD_eq_getD_getElem?, Ne.symm hj, hj]
   rw [e]
   exact hI'
theorem region_J {id : Nat} (hm : P.follows .mixedOrders = true) (hac : acyc ops = true) (J : (Nat → Bool) → (Nat → Value) → World → Prop) (hJ : ∀ (L L' : Nat → Bool) f w, (∀ j, j < ops.size → L j = L' j) → J L f w → J L' f w) (h0 : J (fun _ => false) (at_ a0) w.drew)
  (step : ∀ (L : Nat → Bool) (i : Nat) (o : Oper) (a : Act) (w : World), ops[i]? = some o → InvL ops J a0 L a w → L i = false → (∀ d ∈ deps o, L d = true) →
   wpOp P ops Q i (fun a' w' => ∃ v, a' = a.put o.dst v ∧ J (fun j => L j || j == i) (at_ (a.put o.dst v)) w') a w)
  (done : ∀ a w, InvL ops J a0 (fun _ => true) a w → Q .normal a w) : (Code.region id ops true).wp P Q a0 w := by
 have e : ∀ j, (Array.replicate ops.size false).getD j false = false := fun j => by
  by_cases hj : j < ops.size
  ·simp [Array.getD_eq_getD_getElem?, hj]
  ·simp [Array.getD_eq_getD_getElem?, hj]
 exact wp_region_any hm (any_J hac hJ step done ops.size _ a0 w.drew (by simp) (by
  refine Nat.le_trans List.countP_le_length ?_
  simp) ⟨hJ _ _ _ _ (fun j _ => (e j).symm) h0, rfl, rfl, fun _ _ => rfl, fun j o d _ hl _ => by rw [e] at hl; cases hl⟩)
theorem InvL.old (h : InvL ops J a0 L a w) (k : Nat) (hk : (ops.all fun o => o.dst != some k) = true) : a.tmps.getD k undef = a0.tmps.getD k undef :=
 h.rest k fun j _ e => by
  cases hj : ops[j]? with
  | none => simp [hj] at e
  | some o =>
   have h1 := (Array.all_eq_true_iff_forall_mem.1 hk) o (Array.mem_of_getElem? hj)
   simp [hj] at e
   simp [e] at h1
theorem InvL.frame (h : InvL ops J a0 L a w) (ks : List Nat) (hks : dsts ops ks = true) : a = ⟨putAll (fun k => a.tmps.getD k undef) ks a0.tmps, a0.defers⟩ :=
 frame_of h.size h.defers fun k hk => h.rest k fun j _ => dsts_not hks hk j
end
def vT (ops : Array Oper) (w0 : World) (T : TypeId) (sa ss sc sp ka n : Nat) (E : Array Value → World → Prop) (l : List (Value → World → Prop)) (L : Nat → Bool) (j : Nat) (f : Nat → Value) (W : World) : Prop :=
 if j = sa then tAt w0 T ka n f W else if j = ss then tIs w0 T ka n E f W else if j = sp ∧ L sc = true then True else ∀ k, (ops[j]?).bind (·.dst) = some k → kinds l j (f k) W
def vJ (ops : Array Oper) (w0 : World) (T : TypeId) (sa ss sc sp ka n : Nat) (E : Array Value → World → Prop) (l : List (Value → World → Prop)) (L : Nat → Bool) (f : Nat → Value) (W : World) : Prop :=
 Below w0.heap.size w0 W ∧ ∀ j o, ops[j]? = some o → L j = true → vT ops w0 T sa ss sc sp ka n E l L j f W
def behind (ops : Array Oper) (sa sc : Nat) : Bool := (List.range ops.size).all fun j => decide (j ≤ sc) || j == sa || (wider ops ops.size [j]).contains sc
section
variable {P : Program} {ops : Array Oper} {Q : Exit → Act → World → Prop} {sa ss sc sp ka n : Nat} {T : TypeId} {E : Array Value → World → Prop} {a0 a : Act} {L : Nat → Bool} {w w' w0 : World} {i : Nat} {o : Oper} {v : Value} {l : List (Value → World → Prop)}
theorem InvL.val (h : InvL ops (vJ ops w0 T sa ss sc sp ka n E l) a0 L a w) (hr : ∀ d ∈ deps o, L d = true) (j k : Nat) {oj : Oper} (hj : ops[j]? = some oj) (hk : oj.dst = some k) (hd : (deps o).contains j = true) (h1 : j ≠ sa) (h2 : j ≠ ss) (h3 : j = sp → L sc = false) : kinds l j (a.eval (.tmp k)) w := by
 have := h.j.2 j oj hj (hr j (by simpa using hd))
 unfold vT at this
 rw [if_neg h1, if_neg h2, if_neg (fun e => by have := h3 e.1; rw [e.2] at this; cases this)] at this
 exact this k (by rw [hj]; exact hk)
theorem InvL.last (h : InvL ops (vJ ops w0 T sa ss sc sp ka n E l) a0 (fun _ => true) a w) (j k : Nat) (hj : (ops[j]?).bind (·.dst) = some k) (h1 : j ≠ sa) (h2 : j ≠ ss) (h3 : j ≠ sp) : kinds l j (a.tmps.getD k undef) w := by
 cases hq : ops[j]? with
 | none => simp [hq] at hj
 | some oj =>
  have := h.j.2 j oj hq rfl
  unfold vT at this
  rw [if_neg h1, if_neg h2, if_neg (fun e => h3 e.1)] at this
  exact this k hj
theorem region_tv {id : Nat} (hm : P.follows .mixedOrders = true) (hac : acyc ops = true) (sa ss sc sp ka : Nat) (hsa : sa < ops.size) (hss : ss < ops.size) (hka : (ops[sa]?).bind (·.dst) = some ka) (hn2 : (ops[ss]?).bind (·.dst) = none) (hdep : hasDep ops ss sa = true) (hdp : hasDep ops sc sp = true) (hne : sa ≠ ss) (hca : sc ≠ sa) (hcs : sc ≠ ss) (hcp : sc ≠ sp) (hpa : sp ≠ sa) (hps : sp ≠ ss) (hlt : sc < ss) (hbe : behind ops sa sc = true) (hds : dstOk ops a0.tmps.size = true)
  (T : TypeId) (cs0 : Array Value) (E : Array Value → World → Prop) (hE : ∀ cs W W', E cs W → Below W.heap.size W W' → E cs W') (l : List (Value → World → Prop)) (hl0 : ∀ K ∈ l, Keeps T K)
  (R : World → World → Prop) (hRr : ∀ W W' b cs, R W W' → Row W b cs T → Row W' b cs T) (hRk : ∀ j, j < sc → j ≠ sp → ∀ v W W', kinds l j v W → R W W' → kinds l j v W') (hRb : ∀ W W', Below w.heap.size w W → R W W' → Below w.heap.size w W')
  (step : ∀ (L : Nat → Bool) (i : Nat) (o : Oper) (a : Act) (W : World), i ≠ sa → i ≠ ss → i ≠ sc → ops[i]? = some o → InvL ops (vJ ops w T sa ss sc sp ka cs0.size E l) a0 L a W → Below w.heap.size w W → (∀ d ∈ deps o, L d = true) →
   wpOp P ops Q i (fun a' W' => ∃ v, a' = a.put o.dst v ∧ kinds l i v W' ∧ Below W.heap.size W W') a W)
  (turn : ∀ (L : Nat → Bool) (o : Oper) (a : Act) (W : World), ops[sc]? = some o → InvL ops (vJ ops w T sa ss sc sp ka cs0.size E l) a0 L a W → Below w.heap.size w W → L sc = false → (∀ d ∈ deps o, L d = true) →
   wpOp P ops Q sc (fun a' W' => ∃ v, a' = a.put o.dst v ∧ kinds l sc v W' ∧ R W W') a W)
  (alloc : ∀ (o : Oper) (a : Act) (W : World), ops[sa]? = some o → wpOp P ops Q sa (fun a' W' => a' = a.put o.dst (.pointer (some ⟨W.heap.size, 0, none⟩)) ∧ W' = W.alloc (.cells cs0 T)) a W)
  (store : ∀ (L : Nat → Bool) (o : Oper) (a : Act) (W : World) (b : Nat) (cs : Array Value), ops[ss]? = some o → InvL ops (vJ ops w T sa ss sc sp ka cs0.size E l) a0 L a W → (∀ d ∈ deps o, L d = true) → a.eval (.tmp ka) = .pointer (some ⟨b, 0, none⟩) → Row W b cs T → cs.size = cs0.size →
   wpOp P ops Q ss (fun a' W' => a' = a.put o.dst undef ∧ ∃ csX, Row W' b csX T ∧ Onto b W W' ∧ csX.size = cs0.size ∧ E csX W') a W)
  (done : ∀ a W b cs, InvL ops (vJ ops w T sa ss sc sp ka cs0.size E l) a0 (fun _ => true) a W → Below w.heap.size w W → a.tmps.getD ka undef = .pointer (some ⟨b, 0, none⟩) → Row W b cs T → E cs W → w.heap.size ≤ b → Q .normal a W) : (Code.region id ops true).wp P Q a0 w := by
 have lt_of : ∀ {j : Nat} {o : Oper}, ops[j]? = some o → j < ops.size := fun {j o} hj => by
  by_cases hl : j < ops.size
  ·exact hl
  ·have e : ops[j]? = none := by simp; omega
   rw [e] at hj; cases hj
 have scl : sc < ops.size := by
  by_cases hl : sc < ops.size
  ·exact hl
  ·have e : ops[sc]? = none := by simp; omega
   unfold hasDep at hdp
   rw [e] at hdp; cases hdp
 refine region_J hm hac (vJ ops w T sa ss sc sp ka cs0.size E l) ?_ ⟨(Below.refl _ w).drew, fun j o _ h => by cases h⟩ ?_ ?_
 ·rintro L L' f W hLL ⟨h1, h2⟩
  refine ⟨h1, fun j o hj hl => ?_⟩
  have := h2 j o hj (by rw [hLL j (lt_of hj)]; exact hl)
  unfold vT at this ⊢
  rwa [← hLL sc scl]
 ·intro L i o a W hi hI hL hd
  have hB : Below w.heap.size w W := hI.j.1
  -- what is told of the others when one that is not ss or sc has come
  have keepB : ∀ v W', i ≠ ss → i ≠ sc → Below W.heap.size W W' → vT ops w T sa ss sc sp ka cs0.size E l (fun j => L j || j == i) i (at_ (a.put o.dst v)) W' → vJ ops w T sa ss sc sp ka cs0.size E l (fun j => L j || j == i) (at_ (a.put o.dst v)) W' := fun v W' i2 i3 hb hT => by
   refine ⟨below_more hB hb, fun j oj hj hl => ?_⟩
   by_cases hji : j = i
   ·subst hji; exact hT
   have hlj : L j = true := by simpa [hji] using hl
   have h0 := hI.j.2 j oj hj hlj
   have hsc : (L sc || sc == i) = L sc := by simp [Ne.symm i3]
   have hf : ∀ k, (ops[j]?).bind (·.dst) = some k → at_ (a.put o.dst v) k = at_ a k := fun k hk => getD_put _ _ _ _ (fun e => hji (dst_one hds hk (by rw [hi]; exact e)))
   have hfa : i ≠ sa → at_ (a.put o.dst v) ka = at_ a ka := fun i1 => getD_put _ _ _ _ (fun e => i1 (dst_one hds (by rw [hi]; exact e) hka))
   have i1 : j = sa ∨ j = ss → i ≠ sa := fun e h => by
    rcases e with e | e
    ·exact hji (e.trans h.symm)
    ·have hq := hdep
     unfold hasDep at hq
     rw [← e, hj] at hq
     have := hI.closed j oj sa hj hlj (List.contains_iff_mem.1 hq)
     rw [← h, hL] at this; cases this
   unfold vT at h0 ⊢
   by_cases j1 : j = sa
   ·rw [if_pos j1] at h0 ⊢
    obtain ⟨b, cs, e, hb', hr, hn⟩ := h0
    exact ⟨b, cs, (hfa (i1 (.inl j1))).trans e, hb', hr.below hb, hn⟩
   rw [if_neg j1] at h0 ⊢
   by_cases j2 : j = ss
   ·rw [if_pos j2] at h0 ⊢
    obtain ⟨b, cs, e, hb', hr, hn, he⟩ := h0
    exact ⟨b, cs, (hfa (i1 (.inr j2))).trans e, hb', hr.below hb, hn, hE _ _ _ he hb⟩
   rw [if_neg j2] at h0 ⊢
   simp only [hsc]
   split at h0
   ·rename_i h; rw [if_pos h]; trivial
   ·rename_i h
    rw [if_neg h]
    intro k hk
    rw [hf k hk]
    exact (kinds_keep hl0 j).b _ _ _ (h0 k hk) hb
  by_cases i1 : i = sa
  ·subst i1
   have hk' : o.dst = some ka := by rw [hi] at hka; exact hka
   refine wpOp_mono ?_ (alloc o a W hi)
   rintro a' W' ⟨rfl, rfl⟩
   have hb1 : Below W.heap.size W (W.alloc (.cells cs0 T)) := (Below.refl _ _).alloc (Nat.le_refl _) _
   refine ⟨_, rfl, keepB _ _ hne (Ne.symm hca) hb1 ?_⟩
   unfold vT
   rw [if_pos rfl, hk']
   refine ⟨W.heap.size, cs0, ?_, hB.size, Row.new W cs0 T, rfl⟩
   show (a.put (some ka) _).tmps.getD ka undef = _
   rw [getD_put_same _ _ _ (by rw [hI.size]; exact dst_lt hds (i := i) (by rw [hi]; exact hk'))]
  by_cases i3 : i = sc
  ·subst i3
   refine wpOp_mono ?_ (turn L o a W hi hI hB hL hd)
   rintro a' W' ⟨v, rfl, hv, hR⟩
   refine ⟨v, rfl, hRb _ _ hB hR, fun j oj hj hlj' => ?_⟩
   unfold vT
   by_cases hji : j = i
   ·subst hji
    rw [if_neg hca, if_neg hcs, if_neg (fun e => hcp e.1)]
    intro k hk
    rw [hi] at hk
    have hk' : o.dst = some k := hk
    rw [hk']
    show kinds l j ((a.put (some k) v).tmps.getD k undef) W'
    rw [getD_put_same _ _ _ (by rw [hI.size]; exact dst_lt hds (i := j) (by rw [hi]; exact hk'))]
    exact hv
   have hlj : L j = true := by simpa [hji] using hlj'
   have h0 := hI.j.2 j oj hj hlj
   unfold vT at h0
   have beh : j = sa ∨ j < i := by
    have h1 := List.all_eq_true.1 hbe j (List.mem_range.2 (lt_of hj))
    simp only [Bool.or_eq_true, decide_eq_true_eq, beq_iff_eq] at h1
    rcases h1 with (h1 | h1) | h1
    ·exact .inr (by omega)
    ·exact .inl h1
    ·have := wider_listed hI.closed ops.size [j] (fun x hx => by rw [List.mem_singleton] at hx; rw [hx]; exact hlj) i (List.contains_iff_mem.1 h1)
     rw [hL] at this; cases this
   have hf : ∀ k, (ops[j]?).bind (·.dst) = some k → at_ (a.put o.dst v) k = at_ a k := fun k hk => getD_put _ _ _ _ (fun e => hji (dst_one hds hk (by rw [hi]; exact e)))
   by_cases j1 : j = sa
   ·rw [if_pos j1] at h0 ⊢
    obtain ⟨b, cs, e, hb', hr, hn⟩ := h0
    exact ⟨b, cs, (hf ka (by rw [j1]; exact hka)).trans e, hb', hRr _ _ _ _ hR hr, hn⟩
   have j3 : j < i := beh.resolve_left j1
   rw [if_neg j1] at h0 ⊢
   rw [if_neg (by omega)] at h0 ⊢
   by_cases j4 : j = sp
   ·rw [if_pos ⟨j4, by simp⟩]; trivial
   rw [if_neg (fun e => j4 e.1)] at h0 ⊢
   intro k hk
   rw [hf k hk]
   exact hRk j j3 j4 _ _ _ (h0 k hk) hR
  by_cases i2 : i = ss
  ·subst i2
   have hd1 : L sa = true := hd sa (by
    have h1 := hdep
    unfold hasDep at h1
    rw [hi] at h1
    exact List.contains_iff_mem.1 h1)
   obtain ⟨o1, ho1⟩ : ∃ o1, ops[sa]? = some o1 := ⟨_, Array.getElem?_eq_getElem hsa⟩
   have hT := hI.j.2 sa o1 ho1 hd1
   unfold vT at hT
   rw [if_pos rfl] at hT
   obtain ⟨b, cs, e, hb, hr, hn⟩ := hT
   have hnd : o.dst = none := by rw [hi] at hn2; exact hn2
   refine wpOp_mono ?_ (store L o a W b cs hi hI hd e hr hn)
   rintro a' W' ⟨rfl, csX, hr', hon, hnX, hEX⟩
   refine ⟨undef, rfl, below_onto hB hon hb, fun j oj hj hlj' => ?_⟩
   have hat : at_ (a.put o.dst undef) = at_ a := by rw [hnd]; rfl
   rw [hat]
   unfold vT
   by_cases hji : j = i
   ·rw [hji, if_neg (Ne.symm hne), if_pos rfl]
    exact ⟨b, csX, e, hb, hr', hnX, hEX⟩
   have hlj : L j = true := by simpa [hji] using hlj'
   have h0 := hI.j.2 j oj hj hlj
   unfold vT at h0
   have hsc : (L sc || sc == i) = L sc := by simp [hcs]
   by_cases j1 : j = sa
   ·rw [if_pos j1]
    exact ⟨b, csX, e, hb, hr', hnX⟩
   rw [if_neg j1, if_neg hji] at h0 ⊢
   simp only [hsc]
   split at h0
   ·rename_i h; rw [if_pos h]; trivial
   ·rename_i h
    rw [if_neg h]
    intro k hk
    exact (kinds_keep hl0 j).o _ _ _ _ _ (h0 k hk) hr hon
  ·refine wpOp_mono ?_ (step L i o a W i1 i2 i3 hi hI hB hd)
   rintro a' W' ⟨v, rfl, hv, hb⟩
   refine ⟨v, rfl, keepB v W' i2 i3 hb ?_⟩
   unfold vT
   rw [if_neg i1, if_neg i2]
   split
   ·trivial
   ·intro k hk
    rw [hi] at hk
    have hk' : o.dst = some k := hk
    rw [hk']
    show kinds l i ((a.put (some k) v).tmps.getD k undef) W'
    rw [getD_put_same _ _ _ (by rw [hI.size]; exact dst_lt hds (i := i) (by rw [hi]; exact hk'))]
    exact hv
 ·intro a W hI
  obtain ⟨o2, ho2⟩ : ∃ o2, ops[ss]? = some o2 := ⟨_, Array.getElem?_eq_getElem hss⟩
  have hT2 := hI.j.2 ss o2 ho2 rfl
  unfold vT at hT2
  rw [if_neg (Ne.symm hne), if_pos rfl] at hT2
  obtain ⟨b, cs, e, hb, hr, hn, he⟩ := hT2
  exact done a W b cs hI hI.j.1 e hr he hb
end
end Go.Proofs.YtghmkacamabndaaGreatDoor.Reg
namespace Go.Proofs.YtghmkacamabndaaGreatDoor.Mem
open Go.ChangeShapes Go.WideShapes Go.RowKit Base Num Slc Slf Rw Tmr Srl Rom Opl Reg

def dropV (v : Value) (k : Nat) : Value := match v with
 | .slice (some ⟨b, off, none⟩) n c => if k < c then .slice (some ⟨b, off + k * 3, none⟩) (n - k) (c - k) else .slice (some ⟨b, off, none⟩) 0 0
 | v => v
theorem dropV_own {v : Value} {k q : Nat} (h : (dropV v k).ownBlock = some q) : v.ownBlock = some q := by
 unfold dropV at h
 split at h
 ·split at h <;> exact h
 ·exact h
section
variable {v : Value} {l : List M3} {k : Nat} {w : World}
theorem dropV_sl (hk : k ≤ l.length) (hs : SlF fM w v l) : SlF fM w (dropV v k) (l.drop k) := by
 by_cases h0 : 0 < l.length
 ·obtain ⟨b, off, c, rfl, -, h2, h3⟩ := hs.shape h0
  unfold dropV
  by_cases hrc : k < c
  ·simp only [hrc, if_true]; exact hs.drop okM k hk hrc
  ·simp only [hrc, if_false]
   obtain rfl : k = l.length := by omega
   have : l.drop l.length = [] := List.drop_of_length_le (by omega)
   rw [this]
   exact ⟨_, 0, rfl, .inl rfl, Nat.le_refl _, by decide, by simp⟩
 ·have h0' : l = [] := List.eq_nil_of_length_eq_zero (by omega)
  subst h0'
  obtain rfl : k = 0 := by simpa using hk
  have e : dropV v 0 = v := by
   obtain ⟨a, c, rfl, -, h2, h3, h4⟩ := id hs
   unfold dropV
   split
   ·rename_i hh
    simp only [Value.slice.injEq] at hh
    obtain ⟨rfl, rfl, rfl⟩ := hh
    split
    ·simp
    ·have : c = 0 := by omega
     simp [this]
   ·rfl
  rw [e]; exact hs
variable {o : Oper} {a : Act} {K : Act → World → Prop} {Q : Exit → Act → World → Prop} {x y : Operand}
theorem dropV_op (ho : o.op = .slice 31 x (some y) none none) (hx : a.eval x = v) (hy : a.eval y = .int .i64 (k : Int)) (hk : k ≤ l.length) (hs : SlF fM w v l) (h : K (a.put o.dst (dropV v k)) w) : o.wp Tryz.prog a w K Q := by
 by_cases h0 : 0 < l.length
 ·obtain ⟨b, off, c, rfl, -, h2, h3⟩ := hs.shape h0
  unfold dropV at h
  by_cases hrc : k < c
  ·simp only [hrc, if_true] at h; exact fromF_op okM ho hx hy hk h2 hrc h
  ·simp only [hrc, if_false] at h
   obtain rfl : k = l.length := by omega
   obtain rfl : c = l.length := by omega
   exact endF_op okM ho hx hy h
 ·have h0' : l = [] := List.eq_nil_of_length_eq_zero (by omega)
  subst h0'
  obtain rfl : k = 0 := by simpa using hk
  have e : dropV v 0 = v := by
   obtain ⟨a', c, rfl, -, h2, h3, h4⟩ := id hs
   unfold dropV
   split
   ·rename_i hh
    simp only [Value.slice.injEq] at hh
    obtain ⟨rfl, rfl, rfl⟩ := hh
    split
    ·simp
    ·have : c = 0 := by omega
     simp [this]
   ·rfl
  rw [e] at h
  obtain ⟨ad, c, rfl, h1, h2, h3, h4⟩ := id hs
  exact from0_op okM (fun e => (h4 e).2) ho hx hy h
theorem alst_op (ho : o.op = .alloc 36) (h : K (a.put o.dst (.pointer (some ⟨w.heap.size, 0, none⟩))) (w.alloc (.cells (scells nil64 nil64 nil64 nil64 St.nul) 36))) : o.wp Tryz.prog a w K Q := by
 have e : (execOp a.eval o).run Tryz.prog w = .ok (.value (.pointer (some ⟨w.heap.size, 0, none⟩))) (w.alloc (.cells (scells nil64 nil64 nil64 nil64 St.nul) 36)) := by
  unfold execOp
  rw [ho]
  kernel_rfl
 unfold Oper.wp
 rw [e]
 exact h
theorem stSt_op {g : Nat} {cs : Array Value} {x' y' vo ve : Value} {s : St} (ho : o.op = .store 36 x y) (hx : a.eval x = .pointer (some ⟨g, 0, none⟩)) (hy : a.eval y = s.val x' y' vo ve) (hr : Row w g cs 36) (hn : cs.size = 28)
  (h1 : x'.oneCell' = true) (h2 : y'.oneCell' = true) (h3 : vo.oneCell' = true) (h4 : ve.oneCell' = true) (h : ∀ w', SRow w' g x' y' vo ve s → Onto g w w' → K (a.put o.dst undef) w') : o.wp Tryz.prog a w K Q :=
 wp_store_row _ _ _ ho g (scells x' y' vo ve s) hx hy _ _ hr.row info_st hn (sall_one h1 h2 h3 h4 s)
  (h _ (Row.of (setRow_heap w g cs (scells x' y' vo ve s) _ _ hr.row)) ⟨rfl, rfl, rfl, by simp, fun k hk _ => setRow_other w g k _ hk⟩)
end
def KOwnM (base : Nat) (m : Mc) (v : Value) (W : World) : Prop := ∃ x y, v = m.val x y ∧ Ow base W x y m
def KStp (base : Nat) (X : St) (v : Value) (W : World) : Prop := ∃ x y vo ve, v = .tuple #[X.val x y vo ve, .bool true] ∧ So base W x y vo ve X
def KSt (base : Nat) (X : St) (v : Value) (W : World) : Prop := ∃ x y vo ve, v = X.val x y vo ve ∧ So base W x y vo ve X
theorem keeps_ownM (base : Nat) (m : Mc) : Keeps 36 (KOwnM base m) :=
 ⟨fun _ _ _ ⟨x, y, e, h⟩ hb => ⟨x, y, e, h.below hb⟩, fun _ _ _ _ _ ⟨x, y, e, h⟩ hr ho => ⟨x, y, e, h.at ho (own_not_row h.hx hr (by decide)) (own_not_row h.hy hr (by decide))⟩⟩
theorem keeps_stp (base : Nat) (X : St) : Keeps 36 (KStp base X) :=
 ⟨fun _ _ _ ⟨x, y, p, q, e, h⟩ hb => ⟨x, y, p, q, e, h.below hb⟩, fun _ _ _ _ _ ⟨x, y, p, q, e, h⟩ hr ho => ⟨x, y, p, q, e, h.row ho hr plain_st (by decide)⟩⟩
theorem keeps_st (base : Nat) (X : St) : Keeps 36 (KSt base X) :=
 ⟨fun _ _ _ ⟨x, y, p, q, e, h⟩ hb => ⟨x, y, p, q, e, h.below hb⟩, fun _ _ _ _ _ ⟨x, y, p, q, e, h⟩ hr ho => ⟨x, y, p, q, e, h.row ho hr plain_st (by decide)⟩⟩
def InVar (base : Nat) (X : St) (cs : Array Value) (W : World) : Prop := ∃ x y vo ve, cs = scells x y vo ve X ∧ So base W x y vo ve X
theorem InVar.below (base : Nat) (X : St) : ∀ cs W W', InVar base X cs W → Below W.heap.size W W' → InVar base X cs W' := fun _ _ _ ⟨x, y, p, q, e, h⟩ hb => ⟨x, y, p, q, e, h.below hb⟩
structure Rl (w : World) (g6 g7 : Nat) (x y vo ve : Value) (s : St) (W : World) : Prop where
 row : SRow W g7 x y vo ve s
 so : So w.heap.size W x y vo ve s
 z : SRow W g6 nil64 nil64 nil64 nil64 St.nul
 bel : Below w.heap.size w W
theorem Rl.below {w W W' : World} {g6 g7 : Nat} {x y vo ve : Value} {s : St} (h : Rl w g6 g7 x y vo ve s W) (hb : Below W.heap.size W W') : Rl w g6 g7 x y vo ve s W' := ⟨h.row.below hb, h.so.below hb, h.z.below hb, below_more h.bel hb⟩
end Go.Proofs.YtghmkacamabndaaGreatDoor.Mem
namespace Go.Proofs.YtghmkacamabndaaGreatDoor.Mem
open Go.ChangeShapes Go.WideShapes Go.RowKit Base Num Slc Slf Rw Tmr Srl Rom Opl Reg

theorem Ow.mono {base base' : Nat} {w : World} {x y : Value} {m : Mc} (h : Ow base w x y m) (hb : base' ≤ base) : Ow base' w x y m := ⟨h.hx.mono hb, h.hy.mono hb, h.ap, Nat.le_trans hb h.le⟩
set_option maxHeartbeats 4000000 in
theorem l10Run_spec (v vi : Value) (m : Mc) (l : List M3) (til : Int) (w : World) (hm : MSl w v m) (hok : m.ok = true) (hs : SlF fM w vi l) (hl : inboxOk l = true) (ht : til ≤ 100000) :
  Calls Tryz.prog 86 #[v, vi, .int .i64 til] w fun e w' => ∃ x y vo ve, e = .returned (((St.at0 m).ran l til).val x y vo ve) ∧ So w.heap.size w' x y vo ve ((St.at0 m).ran l til) ∧ Below w.heap.size w w' := by
 obtain ⟨x, y, hv, hr, ha⟩ := hm
 obtain ⟨R, hR⟩ : ∃ R, (St.at0 m).ran l til = R := ⟨_, rfl⟩
 rw [hR]
 have hone := hs.one
 have hlen := inboxOk_few hl
 have hl1 := (romOk_len (okm.1 hok).rom).2
 have hl2 := (okm.1 hok).len
 obtain ⟨N0, hN⟩ : ∃ N0, (til - m.k).toNat = N0 := ⟨_, rfl⟩
 have HN : Hid ((til - m.k).toNat = N0) := hN
 have HF : Hid ((St.at0 m).ran l til = R) := hR
 have HS : Hid (SlF fM w vi l) := hs
 have HIN : Hid (inboxOk l = true ∧ til ≤ 100000 ∧ m.ok = true) := ⟨hl, ht, hok⟩
 clear hR hN
 go_enter Tryz.func86, Tryz.ntmps86
 go_wp2_with (first
  | (refine box_m rfl rfl hv ?_; intro w0 r0 hb0; have hr0 := hr.below hb0; have ha0 := ha.below hb0; have s0 := hb0.size; have l0 := r0.lt)
  | (refine ld_mc rfl rfl rfl r1 ?_)
  | (go_at_call 57; refine (l6Copy_spec _ m _ ⟨x, y, rfl, hr1, ha1⟩ (by omega) (by omega)).mono ?_; rintro e w2 ⟨v2, rfl, ⟨x2, y2, rfl, hx2, hy2, hxy2⟩, hb2⟩; have z2 := z1.below hb2; have hB2 := below_more hB1 hb2; have s2 := hb2.size)
  | (refine bd_s1 (m := m) rfl rfl rfl ?_)
  | (refine al_st rfl rfl ?_; intro w3 q3 hb3; have z3 := z2.below hb3; have hB3 := below_more hB2 hb3; have s3 := hb3.size; have hx3 := hx2.below hb3; have hy3 := hy2.below hb3; have l3 := q3.lt)
  | (refine al_st rfl rfl ?_; intro w1 z1 hb1; have r1 := r0.below hb1; have hB1 := below_more hb0 hb1; have hr1 := hr0.below hb1; have ha1 := ha0.below hb1; have s1 := hb1.size; have l1 := z1.lt)
  | (refine st_s rfl rfl rfl rfl q3 (one_own hx3) (one_own hy3) rfl rfl ?_; rintro w4 q4 o4 -; have z4 := z3.onto o4 (by omega); have hB4 := below_onto hB3 o4 (by omega); have s4 := o4.size; have O4 : Ow w.heap.size w4 x2 y2 m := ⟨(hx3.onto o4 (own_not_row hx3 q3 (by decide))).mono (by omega), (hy3.onto o4 (own_not_row hy3 q3 (by decide))).mono (by omega), hxy2, hB4.size⟩))
 have hG : Rl w w0.heap.size w2.heap.size x2 y2 nil64 nil64 (St.at0 m) w4 := ⟨q4, ⟨O4, OwnF.nil _ _ _, OwnF.nil _ _ _⟩, z4, hB4⟩
 obtain ⟨g7, hg7⟩ : ∃ g7, w2.heap.size = g7 := ⟨_, rfl⟩
 obtain ⟨g6, hg6⟩ : ∃ g6, w0.heap.size = g6 := ⟨_, rfl⟩
 have HG : Hid (g6 ≠ g7 ∧ w.heap.size ≤ g7 ∧ w.heap.size ≤ g6) := ⟨by omega, by omega, by omega⟩
 rw [hg7, hg6] at hG
 rw [hg7, hg6]
 clear hg7 hg6 q4 q3 z4 z3 z2 z1 r1 r0 hB4 hB3 hB2 hB1 O4 hx3 hy3 hx2 hy2 hxy2 hb0 hb1 hb2 hb3 o4 hr0 ha0 hr1 ha1 s0 s1 s2 s3 s4 l0 l1 l3 hr ha hv hs hl hok ht
 simp only [Act.put, List.setIfInBounds_toArray, List.set_cons_zero, List.set_cons_succ]
 go_loopg [] N0 (fun n wr => ∃ s x y vo ve, Rl w g6 g7 x y vo ve s wr ∧ Along l m.k til s ∧ s.ran l til = R ∧ (til - s.m.k).toNat ≤ n)
 case atStart => exact ⟨St.at0 m, x2, y2, nil64, nil64, hG, along_0 HIN.out.2.2 _ _, HF.out, Nat.le_of_eq HN.out⟩
 case round =>
  clear hG
  obtain ⟨s, x, y, vo, ve, hG, hA, hF, hn⟩ := hrel
  obtain ⟨K, hK⟩ : ∃ K, s.m.k = K := ⟨_, rfl⟩
  have kk : wr.cell? ⟨g7, 24, none⟩ = some (.int .i64 K) := by rw [← hK]; exact (sw hG.row).k
  have HA : Hid (Along l m.k til s ∧ s.ran l til = R ∧ (til - s.m.k).toNat ≤ gk ∧ s.m.k = K) := ⟨hA, hF, hn, hK⟩
  by_cases hlt : K < til
  ·obtain ⟨hst, hA2, hm2⟩ := hA.more HIN.out.1 HIN.out.2.1 (by omega)
   obtain ⟨j, hj⟩ : ∃ j : Nat, s.u = (j : Int) := ⟨s.u.toNat, by have := hA.u0; omega⟩
   have hju : s.u.toNat = j := by omega
   obtain ⟨X, hX⟩ : ∃ X, s.m.stepped (l.drop j) = X := ⟨_, rfl⟩
   have e2 : s.on l = s.join X := by unfold St.on; rw [hju, hX]
   rw [e2] at hA2 hm2
   have HA2 : Hid (Along l m.k til (s.join X) ∧ s.m.k < (s.join X).m.k ∧ (s.join X).ran l til = R) := ⟨hA2, hm2, by rw [← e2, ← ran_on HIN.out.1 HIN.out.2.1 hA (by omega)]; exact hF⟩
   have HR : Hid (s.m.step' (l.drop j) = (X, true)) := show _ = _ by
    unfold Mc.step'
    rw [if_pos (by have := turn_cost s.m; have := HIN.out.2.1; unfold Mc.fin; omega), hX]
   have HOK : Hid (s.m.ok = true) := hA.ok
   have HIO : Hid (inboxOk (l.drop j) = true) := inbox_drop HIN.out.1 j
   have HU : Hid (s.u = (j : Int)) := hj
   have HU2 : Hid (j ≤ l.length) := show _ ≤ _ by have := hA.u1; omega
   have HL : Hid (s.m.rom.length ≤ 4000000 ∧ s.m.ram.length ≤ 4000000) := ⟨by have := (romOk_len (okm.1 hA.ok).rom).2; omega, by have := (okm.1 hA.ok).len; omega⟩
   have hfl := hA2.o
   have hfe := hA2.e
   have hku := hA2.hi
   have huu := hA2.u1
   have hkk0 := hA.k
   have hm0 : 0 ≤ m.k := by have h1 := (okm.1 HIN.out.2.2).k; have h2 := (Tm.ok_true (okm.1 HIN.out.2.2).t).1; omega
   have HBO : Hid (s.o.length + X.o.length ≤ 100000000) := show _ ≤ _ by
    have e3 : (s.join X).o.length = s.o.length + X.o.length := List.length_append
    have := HIN.out.2.1
    have := hlen
    omega
   have HBE : Hid (s.e.length + X.e.length ≤ 100000000) := show _ ≤ _ by
    have e3 : (s.join X).e.length = s.e.length + X.e.length := List.length_append
    have := HIN.out.2.1
    have := hlen
    omega
   have HG2 : Hid (w.heap.size ≤ wr.heap.size) := hG.bel.size
   obtain ⟨q, hq⟩ : ∃ q : Nat, X.u = (q : Int) := ⟨X.u.toNat, by
    have := (stepped_done hA.ok (inbox_drop HIN.out.1 j) (by have := turn_cost s.m; have := HIN.out.2.1; unfold Mc.fin; omega)).u0
    rw [hX] at this
    omega⟩
   have HUX : Hid (X.u = (q : Int)) := hq
   have hjq : j + q ≤ 200 := by
    have e3 : (s.join X).u = s.u + X.u := rfl
    omega
   have hp : 0 < gk := by omega
   clear hq
   clear hfl hfe hku huu hkk0 hm0 hst hA2 hm2 hj hju hX e2 hA hF hn hK
   go_wp2_with fail
   refine region_tv (by kernel_rfl) (by kernel_rfl) 11 12 7 2 8 (by decide) (by decide) rfl rfl (by kernel_rfl) (by kernel_rfl) (by decide) (by decide) (by decide) (by decide) (by decide) (by decide) (by decide) (by kernel_rfl) (by kernel_rfl) 36 (scells nil64 nil64 nil64 nil64 St.nul) (InVar wr.heap.size X) (InVar.below _ _) [KIs (.pointer (some ⟨g7, 0, none⟩)), KIs (s.m.val x y), KOwnM wr.heap.size s.m, KIs (vi), KIs (.pointer (some ⟨g7, 27, none⟩)), KIs (.int .i64 (j : Int)), KIs (dropV vi j), KStp wr.heap.size X, KStp wr.heap.size X, KSt wr.heap.size X, KIs (.bool true), KAny, KAny, KIs (.bool true)] ?keeps (Tame wr.heap.size) (fun W W' b cs h hr => h.row hr plain_st (by decide)) (by intro j h7 h2 v W W' h _; rcases j with _ | _ | _ | _ | _ | _ | _ | j <;> first | exact h | omega) (fun W W' hb ht => hb.trans (ht.below hb.size)) ?step ?turn ?alloc ?store ?done
   case keeps =>
    intro K hK
    simp only [List.mem_cons, List.not_mem_nil, or_false] at hK
    rcases hK with rfl | rfl | rfl | rfl | rfl | rfl | rfl | rfl | rfl | rfl | rfl | rfl | rfl | rfl
    all_goals first | exact keeps_is _ _ | exact keeps_any _ | exact keeps_ownM _ _ | exact keeps_stp _ _ | exact keeps_st _ _
   case step =>
    intro L ix o' A W hn1 hn2 hn3 hj hI hB hd
    have hin : ix < 14 := by
     by_cases hl : ix < 14
     ·exact hl
     ·simp [hl] at hj
    have hsz : A.tmps.size = 54 := hI.size
    have hg := hG.below hB
    rcases ix with _ | _ | _ | _ | _ | _ | _ | _ | _ | _ | _ | _ | _ | _ | ix
    ·cases hj; exact at_op rfl rfl (one_op (x := .tmp 7) (hI.old 7 (by kernel_rfl)) rfl (by kernel_rfl) ⟨_, rfl, rfl, Below.refl _ _⟩)
    ·cases hj
     have e0 : A.eval (.tmp 19) = .pointer (some ⟨g7, 0, none⟩) := hI.val hd 0 19 rfl rfl (by kernel_rfl) (by decide) (by decide) (fun e => by cases e)
     exact at_op rfl rfl (lw_in (cs' := s.m.cells x y) rfl e0 hg.row Tryz.underlying30 rfl (sm_cells x y vo ve s) info_mc ⟨_, rfl, rfl, Below.refl _ _⟩)
    ·cases hj
     have e0 : A.eval (.tmp 20) = s.m.val x y := hI.val hd 1 20 rfl rfl (by kernel_rfl) (by decide) (by decide) (fun e => by cases e)
     refine at_op rfl rfl (call_op rfl Tryz.func57 (by kernel_rfl) (by kernel_rfl) ?_)
     simp only [List.map_cons, List.map_nil, e0]
     refine (l6Copy_spec _ s.m _ ⟨x, y, rfl, hg.so.ow.hx.sl, hg.so.ow.hy.sl⟩ (by have := HL.out; omega) (by have := HL.out; omega)).mono ?_
     rintro e W1 ⟨v5, rfl, ⟨x5, y5, rfl, hx5, hy5, hxy5⟩, hb5⟩
     exact ⟨_, rfl, _, rfl, ⟨x5, y5, rfl, ⟨hx5.mono hB.size, hy5.mono hB.size, hxy5, Nat.le_trans hB.size hb5.size⟩⟩, hb5⟩
    ·cases hj; exact at_op rfl rfl (move_op rfl ⟨_, rfl, hI.old 1 (by kernel_rfl), Below.refl _ _⟩)
    ·cases hj; exact at_op rfl rfl (one_op (x := .tmp 7) (hI.old 7 (by kernel_rfl)) rfl (by kernel_rfl) ⟨_, rfl, rfl, Below.refl _ _⟩)
    ·cases hj
     have e0 : A.eval (.tmp 23) = .pointer (some ⟨g7, 27, none⟩) := hI.val hd 4 23 rfl rfl (by kernel_rfl) (by decide) (by decide) (fun e => by cases e)
     exact at_op rfl rfl (load_op rfl Tryz.underlying2 e0 (by have := (sw hg.row).u; rwa [HU.out] at this) ⟨_, rfl, rfl, Below.refl _ _⟩)
    ·cases hj
     have e0 : A.eval (.tmp 22) = vi := hI.val hd 3 22 rfl rfl (by kernel_rfl) (by decide) (by decide) (fun e => by cases e)
     have e1 : A.eval (.tmp 24) = .int .i64 (j : Int) := hI.val hd 5 24 rfl rfl (by kernel_rfl) (by decide) (by decide) (fun e => by cases e)
     exact at_op rfl rfl (dropV_op rfl e0 e1 HU2.out (HS.out.below hg.bel) ⟨_, rfl, rfl, Below.refl _ _⟩)
    ·exact absurd rfl hn3
    ·cases hj
     have e0 : (KStp wr.heap.size X) (A.eval (.tmp 26)) W := hI.val hd 7 26 rfl rfl (by kernel_rfl) (by decide) (by decide) (fun e => by cases e)
     exact at_op rfl rfl (move_op rfl ⟨_, rfl, e0, Below.refl _ _⟩)
    ·cases hj
     have e0 : (KStp wr.heap.size X) (A.eval (.tmp 18)) W := hI.val hd 8 18 rfl rfl (by kernel_rfl) (by decide) (by decide) (fun e => by cases e)
     obtain ⟨x5, y5, vo5, ve5, e0, Y5⟩ := e0
     refine at_op rfl rfl (val_op (v := X.val x5 y5 vo5 ve5) ?_ ⟨_, rfl, ⟨_, _, _, _, rfl, Y5⟩, Below.refl _ _⟩)
     unfold execOp
     simp only [List.getElem_toArray, List.getElem_cons_zero, List.getElem_cons_succ, e0]
     simp [go_sem]
    ·cases hj
     have e0 : (KStp wr.heap.size X) (A.eval (.tmp 18)) W := hI.val hd 8 18 rfl rfl (by kernel_rfl) (by decide) (by decide) (fun e => by cases e)
     obtain ⟨x5, y5, vo5, ve5, e0, Y5⟩ := e0
     refine at_op rfl rfl (val_op (v := .bool true) ?_ ⟨_, rfl, rfl, Below.refl _ _⟩)
     unfold execOp
     simp only [List.getElem_toArray, List.getElem_cons_zero, List.getElem_cons_succ, e0]
     simp [go_sem]
    ·exact absurd rfl hn1
    ·exact absurd rfl hn2
    ·cases hj; exact at_op rfl rfl (assign_op rfl ⟨_, rfl, hI.val hd 10 28 rfl rfl (by kernel_rfl) (by decide) (by decide) (fun e => by cases e), Below.refl _ _⟩)
    omega
   case turn =>
    intro L o' A W hj hI hB hL hd
    cases hj
    have e0 : (KOwnM wr.heap.size s.m) (A.eval (.tmp 21)) W := hI.val hd 2 21 rfl rfl (by kernel_rfl) (by decide) (by decide) (fun _ => hL)
    have e1 : A.eval (.tmp 25) = dropV vi j := hI.val hd 6 25 rfl rfl (by kernel_rfl) (by decide) (by decide) (fun e => by cases e)
    obtain ⟨x5, y5, e0, O5⟩ := e0
    have hg := hG.below hB
    refine at_op rfl rfl (call_op rfl Tryz.func56 (by kernel_rfl) (by kernel_rfl) ?_)
    simp only [List.map_cons, List.map_nil, e0, e1]
    refine (l9Step_spec _ _ x5 y5 s.m (l.drop j) W wr.heap.size rfl O5 HOK.out (dropV_sl HU2.out (HS.out.below hg.bel)) (fun h0 k hk => Nat.lt_of_lt_of_le (HS.out.lt (by simp only [List.length_drop] at h0; omega) k (dropV_own hk)) HG2.out) HIO.out).mono ?_
    rw [HR.out]
    rintro e W1 ⟨K7, H7⟩
    obtain ⟨-, vo5, ve5, rfl, Y5⟩ := H7.resolve_right (by rintro ⟨hh, -⟩; cases hh)
    exact ⟨_, rfl, _, rfl, ⟨x5, y5, vo5, ve5, rfl, Y5⟩, K7⟩
   case alloc =>
    intro o' A W hj
    cases hj
    exact at_op rfl rfl (alst_op rfl ⟨rfl, rfl⟩)
   case store =>
    intro L o' A W b cs hj hI hd eb hr hn
    cases hj
    have e0 : (KSt wr.heap.size X) (A.eval (.tmp 27)) W := hI.val hd 9 27 rfl rfl (by kernel_rfl) (by decide) (by decide) (fun e => by cases e)
    obtain ⟨x5, y5, vo5, ve5, e0, Y5⟩ := e0
    refine at_op rfl rfl (stSt_op rfl eb e0 hr hn (one_own Y5.ow.hx) (one_own Y5.ow.hy) (Y5.o.one okM) (Y5.e.one okE) (fun W2 r2 o2 => ?_))
    exact ⟨rfl, _, r2, o2, rfl, _, _, _, _, rfl, Y5.row o2 hr plain_st (by decide)⟩
   case done =>
    intro A W b cs hI hB eb hr hE hb
    have s9 : A.tmps.getD 9 undef = .bool true := hI.last 13 9 rfl (by decide) (by decide) (by decide)
    have hA := hI.frame [19, 20, 21, 22, 23, 24, 25, 26, 18, 27, 28, 8, 9] (by kernel_rfl)
    rw [hA]
    simp only [putAll, List.foldl_cons, List.foldl_nil, eb, s9, Act.put, List.setIfInBounds_toArray, List.set_cons_zero, List.set_cons_succ]
    clear hA hI eb s9
    obtain ⟨x5, y5, vo5, ve5, rfl, Y5⟩ := hE
    have hg := hG.below hB
    have szw := hg.bel.size
    have r8 : SRow W b x5 y5 vo5 ve5 X := hr
    have hk7 := hG.row.lt
    have hk8 := r8.lt
    have hk6 := hg.z.lt
    have hb7 : g7 < b := by omega
    clear hG hB
    go_wp2_with (first
     | (refine ld_sm rfl rfl rfl r8 ?_)
     | (refine st_sm rfl rfl rfl rfl hg.row (one_own Y5.ow.hx) (one_own Y5.ow.hy) ?_; rintro w2 r2 o2 -; have z2 := hg.z.onto o2 HG.out.1; have q2 := r8.onto o2 (by omega); have S2 := hg.so.row o2 hg.row plain_st (by decide); have Y2 := Y5.row o2 hg.row plain_st (by decide); have B2 := below_onto hg.bel o2 HG.out.2.1; have ko := (sw r2).o; have ko5 := (sw q2).o; have hle2 := S2.ow.le; have sz2 := B2.size)
     | (at_builtin; refine appF okM rfl (.tmp 36) (.tmp 38) rfl w.heap.size s.o X.o S2.o (Y2.o.sl okM) HBO.out hle2 ?_; intro v3 w3 ho3 hg3; have t3 := Mild.grown not_plainM S2.o hg3; have r3 := t3.row r2 plain_st; have q3 := t3.row q2 plain_st; have z3 := t3.row z2 plain_st; have X3 := t3.ow (base := w.heap.size) ((Y2.ow.mono HG2.out).as (m' := X.m) rfl rfl); have E3 := S2.e.grown hg3 (fun k hk e => OwnF.apart S2.o S2.e (by decide) k hk e); have P3 := Y2.e.grown hg3 (fun k hk e => OwnF.apart S2.o Y2.e (by decide) k hk e); have B3 := t3.below B2 (Nat.le_refl _))
     | (refine st_so (v := v3) (l := s.o ++ X.o) rfl rfl rfl rfl r3 (ho3.one okM) ?_; rintro w4 r4 o4 -; have q4 := q3.onto o4 (by omega); have z4 := z3.onto o4 HG.out.1; have X4 := X3.at o4 (own_not_row X3.hx r3 (by decide)) (own_not_row X3.hy r3 (by decide)); have O4 := ho3.onto o4 (ho3.not_row r3 plain_st.1); have E4 := E3.onto o4 (E3.not_row r3 plain_st.2); have P4 := P3.onto o4 (P3.not_row r3 plain_st.2); have B4 := below_onto B3 o4 HG.out.2.1; have ke := (sw r4).e; have ke5 := (sw q4).e; have hle4 := X4.le)
     | (at_builtin; refine appF okE rfl (.tmp 42) (.tmp 44) rfl w.heap.size s.e X.e E4 (P4.sl okE) HBE.out hle4 ?_; intro v5 w5 he5 hg5; have t5 := Mild.grown not_plainE E4 hg5; have r5 := t5.row r4 plain_st; have q5 := t5.row q4 plain_st; have z5 := t5.row z4 plain_st; have X5 := t5.ow X4; have O5 := O4.grown hg5 (fun k hk e => OwnF.apart E4 O4 (by decide) k hk e); have B5 := t5.below B4 (Nat.le_refl _))
     | (refine st_se (v := v5) (l := s.e ++ X.e) rfl rfl rfl rfl r5 (he5.one okE) ?_; rintro w6 r6 o6 -; have q6 := q5.onto o6 (by omega); have z6 := z5.onto o6 HG.out.1; have X6 := X5.at o6 (own_not_row X5.hx r5 (by decide)) (own_not_row X5.hy r5 (by decide)); have O6 := O5.onto o6 (O5.not_row r5 plain_st.1); have E6 := he5.onto o6 (he5.not_row r5 plain_st.2); have B6 := below_onto B5 o6 HG.out.2.1; have ku : w6.cell? ⟨g7, 27, none⟩ = some (.int .i64 (j : Int)) := (by have := (sw r6).u; rw [← HU.out]; exact this); have ku5 : w6.cell? ⟨b, 27, none⟩ = some (.int .i64 (q : Int)) := (by have := (sw q6).u; rw [← HUX.out]; exact this))
     | (refine st_sn (s' := s.join X) rfl rfl rfl rfl r6 rfl (by rw [← HU.out, ← HUX.out]; rfl) ?_; rintro w7 r7 o7 -))
    have X7 := X6.at o7 (own_not_row X6.hx r6 (by decide)) (own_not_row X6.hy r6 (by decide))
    have O7 := O6.onto o7 (O6.not_row r6 plain_st.1)
    have E7 := E6.onto o7 (E6.not_row r6 plain_st.2)
    have z7 := z6.onto o7 HG.out.1
    have B7 := below_onto B6 o7 HG.out.2.1
    go_roundg (gk - 1)
    case measure => omega
    case rel => exact ⟨s.join X, x5, y5, v3, v5, ⟨r7, ⟨X7, O7, E7⟩, z7, B7⟩, HA2.out.1, HA2.out.2.2, by have := HA2.out.2.1; have := HA.out.2.2.1; omega⟩
  ·have e : s = R := by rw [← hF]; exact (ran_stop (by omega)).symm
   clear hF hn hK HA hA HF HN
   subst e
   go_wp2_with (first
    | (refine ld_s' rfl rfl rfl hG.row ?_)
    | (refine st_s rfl rfl rfl rfl hG.z (one_own hG.so.ow.hx) (one_own hG.so.ow.hy) (hG.so.o.one okM) (hG.so.e.one okE) ?_; rintro w7 r7 o7 -))
   refine ret_s rfl rfl r7 rfl ?_
   exact ⟨x, y, vo, ve, rfl, hG.so.row o7 hG.z plain_st (by decide), below_onto hG.bel o7 HG.out.2.2⟩
end Go.Proofs.YtghmkacamabndaaGreatDoor.Mem
namespace Go.Proofs.YtghmkacamabndaaGreatDoor.Reg
open Go.RowKit Base

def waitsFree (ops : Array Oper) (s t : Nat) (fr : List Nat) : Bool := (List.range ops.size).all fun i => i == t || fr.contains i || (wider ops ops.size [s]).contains i
section
variable {P : Program} {ops : Array Oper} {Q : Exit → Act → World → Prop} {s1 s2 k1 : Nat} {a0 a : Act} {L : Nat → Bool} {w w' : World} {i : Nat} {o : Oper} {v : Value} {vals : List Value} {E1 : Value → World → Prop} {E2 : World → Prop}
theorem region_twof {id : Nat} (hm : P.follows .mixedOrders = true) (hac : acyc ops = true) (s1 s2 k1 : Nat) (fr : List Nat) (hs1 : s1 < ops.size) (hk1 : (ops[s1]?).bind (·.dst) = some k1) (hn2 : (ops[s2]?).bind (·.dst) = none) (hall : waitsFree ops s1 s2 fr = true) (hdep : hasDep ops s2 s1 = true) (hne : s1 ≠ s2) (hds : dstOk ops a0.tmps.size = true)
  (G : World → Prop) (E1 : Value → World → Prop) (E2 : World → Prop) (hE1 : ∀ v W W', E1 v W → Below W.heap.size W W' → E1 v W') (hE2 : ∀ W W', E2 W → Below W.heap.size W W' → E2 W') (vals : List Value) (hG : G w.drew)
  (step : ∀ (L : Nat → Bool) (i : Nat) (o : Oper) (a : Act) (w : World), i ≠ s1 → i ≠ s2 → ops[i]? = some o → InvS ops s1 (ge G fun _ => True) (twoT ops s1 s2 k1 E1 E2 vals) a0 L a w → (fr.contains i = false → G w) → (L s1 = false → G w) → (∀ d ∈ deps o, L d = true) →
   wpOp P ops Q i (fun a' w' => ∃ v, a' = a.put o.dst v ∧ v = vals.getD i undef ∧ (L s1 = false → G w') ∧ Below w.heap.size w w') a w)
  (first : ∀ (L : Nat → Bool) (o : Oper) (a : Act) (w : World), ops[s1]? = some o → InvS ops s1 (ge G fun _ => True) (twoT ops s1 s2 k1 E1 E2 vals) a0 L a w → G w → (∀ d ∈ deps o, L d = true) →
   wpOp P ops Q s1 (fun a' w' => ∃ v, a' = a.put o.dst v ∧ E1 v w') a w)
  (second : ∀ (L : Nat → Bool) (o : Oper) (a : Act) (w : World), ops[s2]? = some o → InvS ops s1 (ge G fun _ => True) (twoT ops s1 s2 k1 E1 E2 vals) a0 L a w → E1 (a.tmps.getD k1 undef) w → (∀ d ∈ deps o, L d = true) →
   wpOp P ops Q s2 (fun a' w' => a' = a.put o.dst undef ∧ E1 (a.tmps.getD k1 undef) w' ∧ E2 w') a w)
  (done : ∀ a w, InvS ops s1 (ge G fun _ => True) (twoT ops s1 s2 k1 E1 E2 vals) a0 (fun _ => true) a w → E1 (a.tmps.getD k1 undef) w → E2 w → Q .normal a w)
  (h2s : s2 < ops.size) : (Code.region id ops true).wp P Q a0 w := by
 refine region_genS hm hac s1 hs1 (ge G fun _ => True) (twoT ops s1 s2 k1 E1 E2 vals) (twoR s1 s2 k1 E1) (mono_two hds hk1 hdep hne hE1 hE2) (by simpa [ge] using hG) ?_ ?_
 ·intro L i o a w hi hI hL hd
  have hil : i < ops.size := (Array.getElem?_eq_some_iff.1 hi).1
  by_cases i2 : i = s2
  ·subst i2
   have hd1 : L s1 = true := hd s1 (by
    have h1 := hdep
    unfold hasDep at h1
    rw [hi] at h1
    exact List.contains_iff_mem.1 h1)
   obtain ⟨o1, ho1⟩ : ∃ o1, ops[s1]? = some o1 := ⟨_, Array.getElem?_eq_getElem hs1⟩
   have hT := hI.told s1 o1 ho1 hd1
   unfold twoT at hT
   rw [if_pos rfl] at hT
   have hnd : o.dst = none := by rw [hi] at hn2; exact hn2
   refine wpOp_mono ?_ (second L o a w hi hI hT hd)
   rintro a' w' ⟨rfl, he1, he2⟩
   refine ⟨undef, rfl, ?_, by simp [ge, hd1], ?_⟩
   ·unfold twoT
    rw [if_neg (Ne.symm hne), if_pos rfl]; exact he2
   ·unfold twoR
    rw [if_neg (Ne.symm hne), if_pos rfl, hnd]; exact he1
  ·have hLs : fr.contains i = false → L s1 = false := fun hfr => by
    cases hq : L s1 with
    | false => rfl
    | true =>
     have h1 := List.all_eq_true.1 hall i (List.mem_range.2 hil)
     simp only [Bool.or_eq_true, hfr, Bool.false_eq_true, or_false, beq_iff_eq] at h1
     rcases h1 with h1 | h1
     ·exact absurd h1 i2
     ·have := wider_listed (L := L) hI.closed ops.size [s1] (fun j hj => by simp at hj; rw [hj]; exact hq) i (List.contains_iff_mem.1 h1)
      rw [this] at hL; cases hL
   have hg0 : L s1 = false → G w := fun h => by have := hI.g; simpa [ge, h] using this
   have hg1 : fr.contains i = false → G w := fun h => hg0 (hLs h)
   by_cases i1 : i = s1
   ·subst i1
    refine wpOp_mono ?_ (first L o a w hi hI (hg0 hL) hd)
    rintro a' w' ⟨v, rfl, he⟩
    refine ⟨v, rfl, ?_, by simp [ge], ?_⟩
    ·unfold twoT
     rw [if_pos rfl]
     have hk' : o.dst = some k1 := by rw [hi] at hk1; exact hk1
     rw [hk']
     show E1 ((a.put (some k1) v).tmps.getD k1 undef) w'
     rw [getD_put_same _ _ _ (by rw [hI.size]; exact dst_lt hds (i := i) (by rw [hi]; exact hk'))]
     exact he
    ·unfold twoR
     rw [if_pos rfl]; trivial
   ·refine wpOp_mono ?_ (step L i o a w i1 i2 hi hI hg1 hg0 hd)
    rintro a' w' ⟨v, rfl, hv, he, hb⟩
    refine ⟨v, rfl, ?_, (by cases hq : L s1 <;> simp [ge, hq, Ne.symm i1, he]), ?_⟩
    ·unfold twoT
     rw [if_neg i1, if_neg i2]
     intro k hk
     rw [hi] at hk
     have hk' : o.dst = some k := hk
     rw [hk']
     show (a.put (some k) v).tmps.getD k undef = _
     rw [getD_put_same _ _ _ (by rw [hI.size]; exact dst_lt hds (i := i) (by rw [hi]; exact hk')), hv]
    ·unfold twoR
     rw [if_neg i1, if_neg i2]; exact hb
 ·intro a w hI
  obtain ⟨o1, ho1⟩ : ∃ o1, ops[s1]? = some o1 := ⟨_, Array.getElem?_eq_getElem hs1⟩
  obtain ⟨o2, ho2⟩ : ∃ o2, ops[s2]? = some o2 := ⟨_, Array.getElem?_eq_getElem h2s⟩
  have hT1 := hI.told s1 o1 ho1 rfl
  have hT2 := hI.told s2 o2 ho2 rfl
  unfold twoT at hT1 hT2
  rw [if_pos rfl] at hT1
  rw [if_neg (Ne.symm hne), if_pos rfl] at hT2
  exact done a w hI hT1 hT2
end
end Go.Proofs.YtghmkacamabndaaGreatDoor.Reg
namespace Go.Proofs.YtghmkacamabndaaGreatDoor.Mem
open Go.ChangeShapes Go.WideShapes Go.RowKit Base Num Slc Slf Rw Tmr Srl Rom Opl Reg

theorem appF_any {α : Type} {f : Fl α} (hf : f.Ok) {o : Oper} {a : Act} {w : World} {K : Act → World → Prop} {Q : Exit → Act → World → Prop} {x y : Operand} (base : Nat) (l news : List α) (ho : o.op = .call { callee := .builtin .append, args := #[x, y], argTypes := #[f.S, f.S] }) (hown : OwnF f base w (a.eval x) l) (hn : SlF f w (a.eval y) news) (hbd : l.length + news.length ≤ 100000000) (hbase : base ≤ w.heap.size)
  (h : ∀ v' w', OwnF f base w' v' (l ++ news) → w.grownBy w' (a.eval x).ownBlock → K (a.put o.dst v') w') : o.wp Tryz.prog a w K Q := by
 by_cases h0 : 0 < news.length
 ·exact appF_op hf base l news ho hown hn h0 hbd hbase h
 ·have e0 : news = [] := List.eq_nil_of_length_eq_zero (by omega)
  subst e0
  obtain ⟨i0, hi, hz0, hz1, hz2⟩ := info_parts hf.info
  obtain ⟨ao, cap, hx, hat, hlc, hcm, hnil⟩ := hn
  have hfew := hf.few
  cases ao with
  | none =>
   obtain ⟨-, rfl⟩ := hnil rfl
   have hrun := run_append_owned_none (P := Tryz.prog) (w := w) base f.S o.type f.T i0 f.n hf.und hi (a.eval x) l.length (f.flat l) hown
   unfold Oper.wp
   simp only [List.length_nil] at hx
   simp [execOp, ho, resolve, invoke, builtin, hx, hrun, Result.andThen]
   exact h _ _ (by simpa using hown) (World.grownBy.refl _ _)
  | some ad =>
   refine wp_append_own w x y f.S ho base f.T i0 (.agg (f.F f.z).toArray) f.n f.bytes hf.und hi hz0 hz1 hz2 ?_ hf.pos (a.eval x) l.length (f.flat l) rfl hown ad 0 cap [] hx (by simp) (by simp) (by simp) ?_ ?_ hbase ?_
   ·show (f.F f.z).toArray.size = f.n
    simp [hf.len]
   ·unfold maxLen; simp at hbd; omega
   ·exact Nat.le_trans (Nat.mul_le_mul (by simpa using hbd) hfew) (by decide)
   ·intro v' w' h2 h3 _
    refine h v' w' ?_ h3
    simpa [OwnF] using h2
theorem addN {t : TypeId} (hu : Tryz.prog.underlying t = some (.int .i64)) (i j : Int) (x y : Operand) (w : World) (h0 : -9223372036854775808 ≤ i + j) (h1 : i + j ≤ 9223372036854775807) : (do eqGuard .add t x y (.int .i64 i) (.int .i64 j); binOp .add t (.int .i64 i) (.int .i64 j) : Sem Value).run Tryz.prog w = .ok (.int .i64 (i + j)) w := by
 have e : IntKind.i64.wrap (i + j) = i + j := by
  simp [IntKind.wrap, IntKind.bits, IntKind.signed]
  omega
 have : (do eqGuard .add t x y (.int .i64 i) (.int .i64 j); binOp .add t (.int .i64 i) (.int .i64 j) : Sem Value).run Tryz.prog w = .ok (.int .i64 (IntKind.i64.wrap (i + j))) w := by simp [go_sem, hu]
 rw [this, e]
structure Clw (w : World) (base g b0 : Nat) (x5 y5 vo ve vo5 ve5 : Value) (s X : St) (W : World) : Prop where
 row : SRow W g x5 y5 vo ve s
 arg : SRow W b0 x5 y5 vo5 ve5 X
 ow : Ow base W x5 y5 X.m
 o : OwnF fM base W vo s.o
 e : OwnF fE base W ve s.e
 mid : Mid base g w W
structure Clo (w : World) (base g b0 : Nat) (x5 y5 ve vo5 ve5 : Value) (s X : St) (v : Value) (W : World) : Prop where
 row : ∃ vq, SRow W g x5 y5 vq ve s
 arg : SRow W b0 x5 y5 vo5 ve5 X
 ow : Ow base W x5 y5 X.m
 o : OwnF fM base W v (s.o ++ X.o)
 e : OwnF fE base W ve s.e
 ye : OwnF fE base W ve5 X.e
 mid : Mid base g w W
structure Cle (w : World) (base g b0 : Nat) (x5 y5 vo vo5 ve5 : Value) (s X : St) (v : Value) (W : World) : Prop where
 row : ∃ vq, SRow W g x5 y5 vo vq s
 arg : SRow W b0 x5 y5 vo5 ve5 X
 ow : Ow base W x5 y5 X.m
 o : OwnF fM base W vo s.o
 e : OwnF fE base W v (s.e ++ X.e)
 mid : Mid base g w W
section
variable {w W W' : World} {base g b0 : Nat} {x5 y5 vo ve vo5 ve5 v : Value} {s X : St}
theorem Clw.below (h : Clw w base g b0 x5 y5 vo ve vo5 ve5 s X W) (hb : Below W.heap.size W W') : Clw w base g b0 x5 y5 vo ve vo5 ve5 s X W' :=
 ⟨h.row.below hb, h.arg.below hb, h.ow.below hb, h.o.below hb, h.e.below hb, h.mid.trans (Mid.of hb)⟩
theorem Clw.drew (h : Clw w base g b0 x5 y5 vo ve vo5 ve5 s X W) : Clw w base g b0 x5 y5 vo ve vo5 ve5 s X W.drew := h.below (drew_below (n := 1) rfl)
theorem Clo.below (h : Clo w base g b0 x5 y5 ve vo5 ve5 s X v W) (hb : Below W.heap.size W W') : Clo w base g b0 x5 y5 ve vo5 ve5 s X v W' :=
 ⟨h.row.imp fun _ h => h.below hb, h.arg.below hb, h.ow.below hb, h.o.below hb, h.e.below hb, h.ye.below hb, h.mid.trans (Mid.of hb)⟩
theorem Cle.below (h : Cle w base g b0 x5 y5 vo vo5 ve5 s X v W) (hb : Below W.heap.size W W') : Cle w base g b0 x5 y5 vo vo5 ve5 s X v W' :=
 ⟨h.row.imp fun _ h => h.below hb, h.arg.below hb, h.ow.below hb, h.o.below hb, h.e.below hb, h.mid.trans (Mid.of hb)⟩
end
def St.outs (s X : St) : St := { s with o := s.o ++ X.o }
def St.evts (s X : St) : St := { s with e := s.e ++ X.e }
theorem so_set (x y vo ve : Value) (s : St) (v : Value) {l : List M3} : (scells x y vo ve s).setIfInBounds 25 v = scells x y v ve { s with o := l } := by kernel_rfl
theorem se_set (x y vo ve : Value) (s : St) (v : Value) {l : List M3} : (scells x y vo ve s).setIfInBounds 26 v = scells x y vo v { s with e := l } := by kernel_rfl
theorem su_set (x y vo ve : Value) (s : St) (z : Int) : (scells x y vo ve s).setIfInBounds 27 (.int .i64 z) = scells x y vo ve { s with u := z } := by kernel_rfl
set_option maxHeartbeats 2000000 in
theorem collect_impl {w : World} {base g : Nat} {x y vo ve x5 y5 vo5 ve5 v : Value} {s X : St} (hv : v = X.val x5 y5 vo5 ve5) (h : SRow w g x y vo ve s) (hs : So base w x y vo ve s) (hX : So base w x5 y5 vo5 ve5 X) (hbo : s.o.length + X.o.length ≤ 100000000) (hbe : s.e.length + X.e.length ≤ 100000000) (hub : 0 ≤ s.u ∧ s.u ≤ 1000000 ∧ 0 ≤ X.u ∧ X.u ≤ 1000000) :
  Calls Tryz.prog 84 #[.pointer (some ⟨g, 0, none⟩), v] w fun e w' => e = .returned (.tuple #[]) ∧ ∃ v3 v5, SRow w' g x5 y5 v3 v5 (s.join X) ∧ So base w' x5 y5 v3 v5 (s.join X) ∧ Mid base g w w' := by
 have HBO : Hid (s.o.length + X.o.length ≤ 100000000) := hbo
 have HBE : Hid (s.e.length + X.e.length ≤ 100000000) := hbe
 have HUB : Hid (0 ≤ s.u ∧ s.u ≤ 1000000 ∧ 0 ≤ X.u ∧ X.u ≤ 1000000) := hub
 have hgl := h.lt
 clear hbo hbe hub
 go_enter Tryz.func84, Tryz.ntmps84
 go_wp2_with (first
  | (refine box_s rfl rfl hv ?_; intro w0 b0 hb0; have r0 := h.below hb0; have s0 := hs.below hb0; have X0 := hX.below hb0; have lb := b0.lt)
  | (refine ld_sm rfl rfl rfl b0 ?_)
  | (refine st_sm rfl rfl rfl rfl r0 (one_own X0.ow.hx) (one_own X0.ow.hy) ?_; rintro w1 r1 o1 -; have b1 := b0.onto o1 (by omega); have s1 := s0.row o1 r0 plain_st (by decide); have X1 := X0.row o1 r0 plain_st (by decide); have M1 := (Mid.of (base := base) (g := g) hb0).trans (Mid.onto o1)))
 have hgb : w.heap.size ≠ g := by omega
 obtain ⟨b0', hb0'⟩ : ∃ b, w.heap.size = b := ⟨_, rfl⟩
 rw [hb0'] at hgb b1
 rw [hb0']
 have HGB : Hid (b0' ≠ g) := hgb
 clear b0 r0 s0 X0 h hs hX hb0' hgb lb hgl hb0 o1 hv
 obtain ⟨b0, hbb⟩ : ∃ b, b0' = b := ⟨_, rfl⟩
 rw [hbb] at HGB b1
 rw [hbb]
 clear hbb
 have hG : Clw w base g b0 x5 y5 vo ve vo5 ve5 { s with m := X.m } X w1.drew ∧ OwnF fM base w1.drew vo5 X.o ∧ OwnF fE base w1.drew ve5 X.e := ⟨Clw.drew ⟨r1, b1, X1.ow, s1.o, s1.e, M1⟩, X1.o, X1.e⟩
 clear b1 r1 s1 X1 M1
 obtain ⟨s1, hs1⟩ : ∃ s1 : St, { s with m := X.m } = s1 := ⟨_, rfl⟩
 rw [hs1] at hG
 have HS1 : Hid (s1.o = s.o ∧ s1.e = s.e ∧ s1.u = s.u ∧ s1.m = X.m) := by rw [← hs1]; exact ⟨rfl, rfl, rfl, rfl⟩
 have HBE0 := HBE
 clear HBE
 have HBO0 := HBO
 clear HBO
 have HBO : Hid (s1.o.length + X.o.length ≤ 100000000) := show _ ≤ _ by rw [HS1.out.1]; exact HBO0.out
 clear hs1
 go_wp2_with fail

 refine region_twof (by kernel_rfl) (by kernel_rfl) 7 10 16 [0, 8, 9] (by decide) rfl rfl (by kernel_rfl) (by kernel_rfl) (by decide) (by kernel_rfl) (fun W => Clw w base g b0 x5 y5 vo ve vo5 ve5 s1 X W ∧ OwnF fM base W vo5 X.o ∧ OwnF fE base W ve5 X.e) (fun v W => Clo w base g b0 x5 y5 ve vo5 ve5 s1 X v W) (fun W => ∃ v, Clw w base g b0 x5 y5 v ve vo5 ve5 (s1.outs X) X W ∧ OwnF fE base W ve5 X.e) (fun v W W' h hb => h.below hb) (fun W W' ⟨v, h, h'⟩ hb => ⟨v, h.below hb, h'.below hb⟩) [.pointer (some ⟨g, 0, none⟩), .pointer (some ⟨g, 0, none⟩), .pointer (some ⟨g, 0, none⟩), .pointer (some ⟨g, 25, none⟩), vo, .pointer (some ⟨b0, 25, none⟩), vo5, undef, .pointer (some ⟨g, 0, none⟩), .pointer (some ⟨g, 25, none⟩), undef] hG ?step ?first ?second ?done (by decide)
 case step =>
  intro L ix o' A W hn1 hn2 hj hI hgf hg0 hd
  have hin : ix < 11 := by
   by_cases hl : ix < 11
   ·exact hl
   ·simp [hl] at hj
  have hsz : A.tmps.size = 38 := hI.size
  rcases ix with _ | _ | _ | _ | _ | _ | _ | _ | _ | _ | _ | ix
  ·cases hj; exact at_op rfl rfl (move_op rfl ⟨_, rfl, hI.old 0 (by kernel_rfl), hg0, Below.refl _ _⟩)
  ·cases hj; exact at_op rfl rfl (move_op rfl ⟨_, rfl, hI.old 0 (by kernel_rfl), hg0, Below.refl _ _⟩)
  ·cases hj; exact at_op rfl rfl (nil_op rfl (hI.val2 hd 1 10 rfl rfl (by kernel_rfl) (by decide) (by decide)) ⟨_, rfl, rfl, hg0, Below.refl _ _⟩)
  ·cases hj; exact at_op rfl rfl (one_op (hI.val2 hd 2 11 rfl rfl (by kernel_rfl) (by decide) (by decide)) rfl (by kernel_rfl) ⟨_, rfl, rfl, hg0, Below.refl _ _⟩)
  ·cases hj
   have e0 : A.eval (.tmp 12) = .pointer (some ⟨g, 25, none⟩) := hI.val2 hd 3 12 rfl rfl (by kernel_rfl) (by decide) (by decide)
   exact at_op rfl rfl (ldv_op rfl Tryz.underlying31 rfl e0 (sw (hgf rfl).1.row).o ⟨_, rfl, rfl, hg0, Below.refl _ _⟩)
  ·cases hj; exact at_op rfl rfl (one_op (x := .tmp 3) (hI.old 3 (by kernel_rfl)) rfl (by kernel_rfl) ⟨_, rfl, rfl, hg0, Below.refl _ _⟩)
  ·cases hj
   have e0 : A.eval (.tmp 14) = .pointer (some ⟨b0, 25, none⟩) := hI.val2 hd 5 14 rfl rfl (by kernel_rfl) (by decide) (by decide)
   exact at_op rfl rfl (ldv_op rfl Tryz.underlying31 rfl e0 (sw (hgf rfl).1.arg).o ⟨_, rfl, rfl, hg0, Below.refl _ _⟩)
  ·exact absurd rfl hn1
  ·cases hj; exact at_op rfl rfl (nil_op rfl (hI.val2 hd 0 9 rfl rfl (by kernel_rfl) (by decide) (by decide)) ⟨_, rfl, rfl, hg0, Below.refl _ _⟩)
  ·cases hj; exact at_op rfl rfl (one_op (hI.val2 hd 8 17 rfl rfl (by kernel_rfl) (by decide) (by decide)) rfl (by kernel_rfl) ⟨_, rfl, rfl, hg0, Below.refl _ _⟩)
  ·exact absurd rfl hn2
  omega
 case first =>
  intro L o' A W hj hI hg hd
  cases hj
  have e0 : A.eval (.tmp 13) = vo := hI.val2 hd 4 13 rfl rfl (by kernel_rfl) (by decide) (by decide)
  have e1 : A.eval (.tmp 15) = vo5 := hI.val2 hd 6 15 rfl rfl (by kernel_rfl) (by decide) (by decide)
  obtain ⟨hc, hyo, hye⟩ := hg
  refine at_op rfl rfl (appF_any okM base s1.o X.o rfl (by rw [e0]; exact hc.o) (by rw [e1]; exact hyo.sl okM) HBO.out hc.ow.le (fun v3 W3 ho3 hg3 => ?_))
  rw [e0] at hg3
  have t3 := Mild.grown not_plainM hc.o hg3
  exact ⟨_, rfl, ⟨⟨vo, t3.row hc.row plain_st⟩, t3.row hc.arg plain_st, t3.ow hc.ow, ho3, hc.e.grown hg3 (fun k hk e => OwnF.apart hc.o hc.e (by decide) k hk e), hye.grown hg3 (fun k hk e => OwnF.apart hc.o hye (by decide) k hk e), hc.mid.trans (Mid.mild t3)⟩⟩
 case second =>
  intro L o' A W hj hI hE hd
  cases hj
  have e0 : A.eval (.tmp 18) = .pointer (some ⟨g, 25, none⟩) := hI.val2 hd 9 18 rfl rfl (by kernel_rfl) (by decide) (by decide)
  obtain ⟨v3, hv3⟩ : ∃ v3, A.tmps.getD 16 undef = v3 := ⟨_, rfl⟩
  have e1 : A.eval (.tmp 16) = v3 := hv3
  rw [hv3] at hE ⊢
  obtain ⟨⟨vq, row⟩, arg, ow, o, e, ye, mid⟩ := hE
  refine at_op rfl rfl (sw_in rfl e0 e1 row (o.one okM) (by kernel_rfl) (by rw [ssize]; decide) (fun W4 r4 o4 => ?_))
  rw [so_set (l := s1.o ++ X.o)] at r4
  have a4 := arg.onto o4 HGB.out
  have w4 := ow.at o4 (own_not_row ow.hx row (by decide)) (own_not_row ow.hy row (by decide))
  have O4 := o.onto o4 (o.not_row row plain_st.1)
  have E4 := e.onto o4 (e.not_row row plain_st.2)
  have Y4 := ye.onto o4 (ye.not_row row plain_st.2)
  have M4 := mid.trans (Mid.onto o4)
  exact ⟨rfl, ⟨⟨v3, r4⟩, a4, w4, O4, E4, Y4, M4⟩, v3, ⟨r4, a4, w4, O4, E4, M4⟩, Y4⟩
 case done =>
  intro A W hI hE1 hE2
  have hA := hI.frame [9, 10, 11, 12, 13, 14, 15, 16, 17, 18] (by kernel_rfl)
  rw [hA]
  simp only [putAll, List.foldl_cons, List.foldl_nil, Act.put, List.setIfInBounds_toArray, List.set_cons_zero, List.set_cons_succ]
  clear hA hI
  obtain ⟨v3, h2, y2⟩ := hE2
  clear hE1
  obtain ⟨s2, hs2⟩ : ∃ s2, s1.outs X = s2 := ⟨_, rfl⟩
  rw [hs2] at h2
  have HS2 : Hid (s1.outs X = s2) := hs2
  have HBE : Hid (s2.e.length + X.e.length ≤ 100000000) := show _ ≤ _ by rw [← hs2]; show s1.e.length + _ ≤ _; rw [HS1.out.2.1]; exact HBE0.out
  clear hs2
  go_wp2_with fail
  have hG3 : Clw w base g b0 x5 y5 v3 ve vo5 ve5 s2 X W.drew ∧ OwnF fE base W.drew ve5 X.e := ⟨h2.drew, y2⟩
  refine region_twof (by kernel_rfl) (by kernel_rfl) 7 10 26 [0, 8, 9] (by decide) rfl rfl (by kernel_rfl) (by kernel_rfl) (by decide) (by kernel_rfl) (fun W => Clw w base g b0 x5 y5 v3 ve vo5 ve5 s2 X W ∧ OwnF fE base W ve5 X.e) (fun v W => Cle w base g b0 x5 y5 v3 vo5 ve5 s2 X v W) (fun W => ∃ v, Clw w base g b0 x5 y5 v3 v vo5 ve5 (s2.evts X) X W) (fun v W W' h hb => h.below hb) (fun W W' ⟨v, h⟩ hb => ⟨v, h.below hb⟩) [.pointer (some ⟨g, 0, none⟩), .pointer (some ⟨g, 0, none⟩), .pointer (some ⟨g, 0, none⟩), .pointer (some ⟨g, 26, none⟩), ve, .pointer (some ⟨b0, 26, none⟩), ve5, undef, .pointer (some ⟨g, 0, none⟩), .pointer (some ⟨g, 26, none⟩), undef] hG3 ?step ?first ?second ?done (by decide)
  case step =>
   intro L ix o' A W hn1 hn2 hj hI hgf hg0 hd
   have hin : ix < 11 := by
    by_cases hl : ix < 11
    ·exact hl
    ·simp [hl] at hj
   have hsz : A.tmps.size = 38 := hI.size
   rcases ix with _ | _ | _ | _ | _ | _ | _ | _ | _ | _ | _ | ix
   ·cases hj; exact at_op rfl rfl (move_op rfl ⟨_, rfl, hI.old 0 (by kernel_rfl), hg0, Below.refl _ _⟩)
   ·cases hj; exact at_op rfl rfl (move_op rfl ⟨_, rfl, hI.old 0 (by kernel_rfl), hg0, Below.refl _ _⟩)
   ·cases hj; exact at_op rfl rfl (nil_op rfl (hI.val2 hd 1 20 rfl rfl (by kernel_rfl) (by decide) (by decide)) ⟨_, rfl, rfl, hg0, Below.refl _ _⟩)
   ·cases hj; exact at_op rfl rfl (one_op (hI.val2 hd 2 21 rfl rfl (by kernel_rfl) (by decide) (by decide)) rfl (by kernel_rfl) ⟨_, rfl, rfl, hg0, Below.refl _ _⟩)
   ·cases hj
    have e0 : A.eval (.tmp 22) = .pointer (some ⟨g, 26, none⟩) := hI.val2 hd 3 22 rfl rfl (by kernel_rfl) (by decide) (by decide)
    exact at_op rfl rfl (ldv_op rfl Tryz.underlying34 rfl e0 (sw (hgf rfl).1.row).e ⟨_, rfl, rfl, hg0, Below.refl _ _⟩)
   ·cases hj; exact at_op rfl rfl (one_op (x := .tmp 3) (hI.old 3 (by kernel_rfl)) rfl (by kernel_rfl) ⟨_, rfl, rfl, hg0, Below.refl _ _⟩)
   ·cases hj
    have e0 : A.eval (.tmp 24) = .pointer (some ⟨b0, 26, none⟩) := hI.val2 hd 5 24 rfl rfl (by kernel_rfl) (by decide) (by decide)
    exact at_op rfl rfl (ldv_op rfl Tryz.underlying34 rfl e0 (sw (hgf rfl).1.arg).e ⟨_, rfl, rfl, hg0, Below.refl _ _⟩)
   ·exact absurd rfl hn1
   ·cases hj; exact at_op rfl rfl (nil_op rfl (hI.val2 hd 0 19 rfl rfl (by kernel_rfl) (by decide) (by decide)) ⟨_, rfl, rfl, hg0, Below.refl _ _⟩)
   ·cases hj; exact at_op rfl rfl (one_op (hI.val2 hd 8 27 rfl rfl (by kernel_rfl) (by decide) (by decide)) rfl (by kernel_rfl) ⟨_, rfl, rfl, hg0, Below.refl _ _⟩)
   ·exact absurd rfl hn2
   omega
  case first =>
   intro L o' A W hj hI hg hd
   cases hj
   have e0 : A.eval (.tmp 23) = ve := hI.val2 hd 4 23 rfl rfl (by kernel_rfl) (by decide) (by decide)
   have e1 : A.eval (.tmp 25) = ve5 := hI.val2 hd 6 25 rfl rfl (by kernel_rfl) (by decide) (by decide)
   obtain ⟨hc, hye⟩ := hg
   refine at_op rfl rfl (appF_any okE base s2.e X.e rfl (by rw [e0]; exact hc.e) (by rw [e1]; exact hye.sl okE) HBE.out hc.ow.le (fun v5 W3 he5 hg5 => ?_))
   rw [e0] at hg5
   have t5 := Mild.grown not_plainE hc.e hg5
   exact ⟨_, rfl, ⟨⟨ve, t5.row hc.row plain_st⟩, t5.row hc.arg plain_st, t5.ow hc.ow, hc.o.grown hg5 (fun k hk e => OwnF.apart hc.e hc.o (by decide) k hk e), he5, hc.mid.trans (Mid.mild t5)⟩⟩
  case second =>
   intro L o' A W hj hI hE hd
   cases hj
   have e0 : A.eval (.tmp 28) = .pointer (some ⟨g, 26, none⟩) := hI.val2 hd 9 28 rfl rfl (by kernel_rfl) (by decide) (by decide)
   obtain ⟨v5, hv5⟩ : ∃ v5, A.tmps.getD 26 undef = v5 := ⟨_, rfl⟩
   have e1 : A.eval (.tmp 26) = v5 := hv5
   rw [hv5] at hE ⊢
   obtain ⟨⟨vq, row⟩, arg, ow, o, e, mid⟩ := hE
   refine at_op rfl rfl (sw_in rfl e0 e1 row (e.one okE) (by kernel_rfl) (by rw [ssize]; decide) (fun W4 r4 o4 => ?_))
   rw [se_set (l := s2.e ++ X.e)] at r4
   have a4 := arg.onto o4 HGB.out
   have w4 := ow.at o4 (own_not_row ow.hx row (by decide)) (own_not_row ow.hy row (by decide))
   have O4 := o.onto o4 (o.not_row row plain_st.1)
   have E4 := e.onto o4 (e.not_row row plain_st.2)
   have M4 := mid.trans (Mid.onto o4)
   exact ⟨rfl, ⟨⟨v5, r4⟩, a4, w4, O4, E4, M4⟩, v5, ⟨r4, a4, w4, O4, E4, M4⟩⟩
  case done =>
   intro A W hI hE1 hE2
   have hA := hI.frame [19, 20, 21, 22, 23, 24, 25, 26, 27, 28] (by kernel_rfl)
   rw [hA]
   simp only [putAll, List.foldl_cons, List.foldl_nil, Act.put, List.setIfInBounds_toArray, List.set_cons_zero, List.set_cons_succ]
   clear hA hI
   obtain ⟨v5, h4⟩ := hE2
   clear hE1
   obtain ⟨s3, hs3⟩ : ∃ s3, s2.evts X = s3 := ⟨_, rfl⟩
   rw [hs3] at h4
   have HU3 : Hid (s3.u = s.u) := show _ = _ by rw [← hs3]; show s2.u = _; rw [← HS2.out]; exact HS1.out.2.2.1
   have HJ : Hid (({ s3 with u := s.u + X.u } : St) = s.join X) := show _ = _ by rw [← hs3, ← HS2.out]; show St.mk s1.m (s1.o ++ X.o) (s1.e ++ X.e) _ = _; rw [HS1.out.1, HS1.out.2.1, HS1.out.2.2.2]; rfl
   clear hs3
   go_wp2_with fail
   have hG4 : Clw w base g b0 x5 y5 v3 v5 vo5 ve5 s3 X W.drew := h4.drew
   refine region_last (by kernel_rfl) (by kernel_rfl) 9 (by decide) (by kernel_rfl) (by kernel_rfl) (fun W => Clw w base g b0 x5 y5 v3 v5 vo5 ve5 s3 X W) (fun W => Clw w base g b0 x5 y5 v3 v5 vo5 ve5 (s.join X) X W) [.pointer (some ⟨g, 0, none⟩), .pointer (some ⟨g, 0, none⟩), .pointer (some ⟨g, 27, none⟩), .int .i64 s.u, .pointer (some ⟨b0, 27, none⟩), .int .i64 X.u, .int .i64 (s.u + X.u), .pointer (some ⟨g, 0, none⟩), .pointer (some ⟨g, 27, none⟩), undef] hG4 ?step ?last ?done
   case step =>
    intro L ix o' A W hne hj hI hg hd
    have hin : ix < 10 := by
     by_cases hl : ix < 10
     ·exact hl
     ·simp [hl] at hj
    have hsz : A.tmps.size = 38 := hI.size
    rcases ix with _ | _ | _ | _ | _ | _ | _ | _ | _ | _ | ix
    ·cases hj; exact at_op rfl rfl (move_op rfl ⟨_, rfl, hI.old 0 (by kernel_rfl), hg⟩)
    ·cases hj; exact at_op rfl rfl (nil_op rfl (hI.val hd 0 29 rfl rfl (by kernel_rfl)) ⟨_, rfl, rfl, hg⟩)
    ·cases hj; exact at_op rfl rfl (one_op (hI.val hd 1 30 rfl rfl (by kernel_rfl)) rfl (by kernel_rfl) ⟨_, rfl, rfl, hg⟩)
    ·cases hj
     have e0 : A.eval (.tmp 31) = .pointer (some ⟨g, 27, none⟩) := hI.val hd 2 31 rfl rfl (by kernel_rfl)
     exact at_op rfl rfl (load_op rfl Tryz.underlying2 e0 (by have := (sw hg.row).u; rwa [HU3.out] at this) ⟨_, rfl, rfl, hg⟩)
    ·cases hj; exact at_op rfl rfl (one_op (x := .tmp 3) (hI.old 3 (by kernel_rfl)) rfl (by kernel_rfl) ⟨_, rfl, rfl, hg⟩)
    ·cases hj
     have e0 : A.eval (.tmp 33) = .pointer (some ⟨b0, 27, none⟩) := hI.val hd 4 33 rfl rfl (by kernel_rfl)
     exact at_op rfl rfl (load_op rfl Tryz.underlying2 e0 (sw hg.arg).u ⟨_, rfl, rfl, hg⟩)
    ·cases hj
     have e0 : A.eval (.tmp 32) = .int .i64 s.u := hI.val hd 3 32 rfl rfl (by kernel_rfl)
     have e1 : A.eval (.tmp 34) = .int .i64 X.u := hI.val hd 5 34 rfl rfl (by kernel_rfl)
     exact at_op rfl rfl (bin_op rfl e0 e1 (fun w => addN (by kernel_rfl) _ _ _ _ w (by have := HUB.out; omega) (by have := HUB.out; omega)) ⟨_, rfl, rfl, hg⟩)
    ·cases hj; exact at_op rfl rfl (nil_op rfl (hI.val hd 0 29 rfl rfl (by kernel_rfl)) ⟨_, rfl, rfl, hg⟩)
    ·cases hj; exact at_op rfl rfl (one_op (hI.val hd 7 36 rfl rfl (by kernel_rfl)) rfl (by kernel_rfl) ⟨_, rfl, rfl, hg⟩)
    ·exact absurd rfl hne
    omega
   case last =>
    intro L o' A W hj hI hg hd
    cases hj
    have e0 : A.eval (.tmp 37) = .pointer (some ⟨g, 27, none⟩) := hI.val hd 8 37 rfl rfl (by kernel_rfl)
    have e1 : A.eval (.tmp 35) = .int .i64 (s.u + X.u) := hI.val hd 6 35 rfl rfl (by kernel_rfl)
    refine at_op rfl rfl (sw_in rfl e0 e1 hg.row rfl (by kernel_rfl) (by rw [ssize]; decide) (fun W4 r4 o4 => ?_))
    rw [su_set, HJ.out] at r4
    have ej : (s.join X).o = s3.o ∧ (s.join X).e = s3.e := by rw [← HJ.out]; exact ⟨rfl, rfl⟩
    exact ⟨_, rfl, rfl, ⟨r4, hg.arg.onto o4 HGB.out, hg.ow.at o4 (own_not_row hg.ow.hx hg.row (by decide)) (own_not_row hg.ow.hy hg.row (by decide)), ej.1 ▸ hg.o.onto o4 (hg.o.not_row hg.row plain_st.1), ej.2 ▸ hg.e.onto o4 (hg.e.not_row hg.row plain_st.2), hg.mid.trans (Mid.onto o4)⟩⟩
   case done =>
    intro A W hI hE
    have hA := hI.frame [29, 30, 31, 32, 33, 34, 35, 36, 37] (by kernel_rfl)
    rw [hA]
    simp only [putAll, List.foldl_cons, List.foldl_nil, Act.put, List.setIfInBounds_toArray, List.set_cons_zero, List.set_cons_succ]
    clear hA hI 
    refine ret_unit rfl rfl ?_
    exact ⟨rfl, v3, v5, hE.row, ⟨hE.ow.as rfl rfl, hE.o, hE.e⟩, hE.mid⟩

end Go.Proofs.YtghmkacamabndaaGreatDoor.Mem
namespace Go.Proofs.YtghmkacamabndaaGreatDoor.Args
open Go.ChangeShapes Go.WideShapes Go.RowKit Base Tmr Go.Joins

def Arg (t : TypeId) (w : World) (v : Value) : Prop :=
 ∃ (H : Type) (enc : TypeId × Value → H) (b : Nat) (d : DataW H) (p : List MemPlace), Value.okWide Tryz.prog w .any b t v ∧ DataW.Trod enc Tryz.prog w 0 (fun _ => true) true t v d p
set_option maxRecDepth 20000 in
theorem Arg.int {w : World} {v : Value} (h : Arg 2 w v) : ∃ n : Int, v = .int .i64 n ∧ -9223372036854775808 ≤ n ∧ n ≤ 9223372036854775807 := by
 obtain ⟨H, enc, b, d, p, hv, hd⟩ := h
 obtain ⟨n, rfl, rfl, rfl, wf⟩ := open_int Tryz.underlying2 hv hd
 exact ⟨n, rfl, bounds_i64 wf⟩
end Go.Proofs.YtghmkacamabndaaGreatDoor.Args
namespace Go.Proofs.YtghmkacamabndaaGreatDoor.Args
open Go.ChangeShapes Go.WideShapes Go.RowKit Base Srl

set_option maxRecDepth 20000 in
theorem Arg.fields {t : TypeId} {w : World} {v : Value} {fs : Array Field} (ht : Tryz.prog.underlying t = some (.struct fs)) (h : Arg t w v) :
  ∃ (cs : Array Value) (H : Type) (enc : TypeId × Value → H) (n : Nat), v = .agg cs ∧ cs.size = Tryz.prog.cellsOf t ∧
   ∀ (i : Nat) (f : Field), fs[i]? = some f → ∃ y : DataW H × List MemPlace, DataW.trod enc Tryz.prog w 0 (fun _ => true) true n f.type ((cs.toList.drop f.offset).take (Tryz.prog.cellsOf f.type)) = some y := by
 obtain ⟨H, enc, b, d, p, hv, hd⟩ := h
 obtain ⟨cs, rfl, hsz⟩ := okWide_struct ht hv
 obtain ⟨fuel, hf⟩ := hd
 obtain ⟨xs, n, _, _, _, hlen, hg⟩ := DataW.trod_struct ht hf
 refine ⟨cs, H, enc, n, rfl, hsz, fun i f hi => ?_⟩
 have h1 := hg i f hi
 have hl : i < xs.length := by
  have : i < fs.size := by
   by_cases hl : i < fs.size
   ·exact hl
   ·have e : fs[i]? = none := by simp; omega
    rw [e] at hi; cases hi
  omega
 rw [List.getElem?_eq_getElem hl] at h1
 exact ⟨_, h1⟩
theorem cells64 : Tryz.prog.cellsOf 2 = 1 := by kernel_rfl
theorem cellsB : Tryz.prog.cellsOf 4 = 1 := by kernel_rfl
set_option maxRecDepth 20000 in
theorem Arg.bool {w : World} {v : Value} (h : Arg 4 w v) : ∃ q : Bool, v = .bool q := by
 obtain ⟨H, enc, b, d, p, hv, hd⟩ := h
 obtain ⟨q, rfl⟩ := okWide_bool Tryz.underlying4 hv
 exact ⟨q, rfl⟩
end Go.Proofs.YtghmkacamabndaaGreatDoor.Args
namespace Go.Proofs.YtghmkacamabndaaGreatDoor.Args
open Go.ChangeShapes Go.WideShapes Go.RowKit Base Srl Tmr Slc Mem

theorem size25 {cs : Array Value} (h : cs.size = 25) : ∃ a0 a1 a2 a3 a4 a5 a6 a7 a8 a9 a10 a11 a12 a13 a14 a15 a16 a17 a18 a19 a20 a21 a22 a23 a24, cs = #[a0, a1, a2, a3, a4, a5, a6, a7, a8, a9, a10, a11, a12, a13, a14, a15, a16, a17, a18, a19, a20, a21, a22, a23, a24] := by
 obtain ⟨l⟩ := cs
 match l, h with
 | [a0, a1, a2, a3, a4, a5, a6, a7, a8, a9, a10, a11, a12, a13, a14, a15, a16, a17, a18, a19, a20, a21, a22, a23, a24], _ => exact ⟨a0, a1, a2, a3, a4, a5, a6, a7, a8, a9, a10, a11, a12, a13, a14, a15, a16, a17, a18, a19, a20, a21, a22, a23, a24, rfl⟩
theorem cellsS : Tryz.prog.cellsOf 24 = 1 := by kernel_rfl
theorem cellsT : Tryz.prog.cellsOf 66 = 4 := by kernel_rfl
theorem cellsP : Tryz.prog.cellsOf 67 = 6 := by kernel_rfl
section
variable {H : Type} {enc : TypeId × Value → H} {w : World} {n : Nat}
set_option maxRecDepth 20000 in
theorem ints_sl {v : Value} {y : DataW H × List MemPlace} (h : DataW.trod enc Tryz.prog w 0 (fun _ => true) true n 24 [v] = some y) : ∃ l, Sl w v l := by
 rcases open_ints Tryz.underlying24 Tryz.underlying2 cells64 h with ⟨hcs, _⟩ | ⟨x, l, c, zs, hcs, _, hl, hm, hz, _, hcell, hwz⟩
 ·simp at hcs
  subst hcs
  exact ⟨_, sl_of (zs := []) (.inl ⟨rfl, rfl, rfl, rfl⟩)⟩
 ·simp at hcs
  subst hcs
  exact ⟨_, sl_of (.inr ⟨_, rfl, hl, hm, by simpa using hz, hcell, hwz⟩)⟩
set_option maxRecDepth 20000 in
theorem one_int {v : Value} {y : DataW H × List MemPlace} (h : DataW.trod enc Tryz.prog w 0 (fun _ => true) true n 2 [v] = some y) : ∃ z, v = .int .i64 z := by
 obtain ⟨z, e, _, _⟩ := DataW.trod_int Tryz.underlying2 h
 simp at e
 exact ⟨z, e⟩
set_option maxRecDepth 20000 in
theorem one_bool {v : Value} {y : DataW H × List MemPlace} (h : DataW.trod enc Tryz.prog w 0 (fun _ => true) true n 4 [v] = some y) : ∃ z, v = .bool z := by
 obtain ⟨z, e, _⟩ := DataW.trod_bool Tryz.underlying4 h
 simp at e
 exact ⟨z, e⟩
end
set_option maxRecDepth 20000 in
set_option maxHeartbeats 1000000 in
theorem Arg.machine {w : World} {v : Value} (h : Arg 69 w v) : ∃ (m : Mc) (vr va : Value), v = m.val vr va ∧ Sl w vr m.rom ∧ Sl w va m.ram := by
 obtain ⟨cs, H, enc, n, rfl, hsz, hf⟩ := h.fields Tryz.underlying69
 have h25 : Tryz.prog.cellsOf 69 = 25 := by kernel_rfl
 obtain ⟨a0, a1, a2, a3, a4, a5, a6, a7, a8, a9, a10, a11, a12, a13, a14, a15, a16, a17, a18, a19, a20, a21, a22, a23, a24, rfl⟩ := size25 (hsz.trans h25)
 obtain ⟨y0, h0⟩ := hf 0 _ rfl
 obtain ⟨y1, h1⟩ := hf 1 _ rfl
 obtain ⟨y2, h2⟩ := hf 2 _ rfl
 obtain ⟨y3, h3⟩ := hf 3 _ rfl
 obtain ⟨y4, h4⟩ := hf 4 _ rfl
 obtain ⟨y5, h5⟩ := hf 5 _ rfl
 obtain ⟨y6, h6⟩ := hf 6 _ rfl
 obtain ⟨y7, h7⟩ := hf 7 _ rfl
 obtain ⟨y8, h8⟩ := hf 8 _ rfl
 obtain ⟨y9, h9⟩ := hf 9 _ rfl
 obtain ⟨y10, h10⟩ := hf 10 _ rfl
 obtain ⟨y11, h11⟩ := hf 11 _ rfl
 obtain ⟨y12, h12⟩ := hf 12 _ rfl
 obtain ⟨y13, h13⟩ := hf 13 _ rfl
 obtain ⟨y14, h14⟩ := hf 14 _ rfl
 obtain ⟨y15, h15⟩ := hf 15 _ rfl
 obtain ⟨y16, h16⟩ := hf 16 _ rfl
 simp only [cells64, cellsB, cellsS, cellsT, cellsP, List.drop_succ_cons, List.drop_zero, List.take_succ_cons, List.take_zero, List.drop, List.take] at h0 h1 h2 h3 h4 h5 h6 h7 h8 h9 h10 h11 h12 h13 h14 h15 h16
 obtain ⟨l0, s0⟩ := ints_sl h0
 obtain ⟨l1, s1⟩ := ints_sl h1
 obtain ⟨z2, rfl⟩ := one_int h2
 obtain ⟨z3, rfl⟩ := one_int h3
 obtain ⟨z4, rfl⟩ := one_int h4
 obtain ⟨z5, rfl⟩ := one_int h5
 obtain ⟨z6, rfl⟩ := one_bool h6
 obtain ⟨z7, rfl⟩ := one_bool h7
 obtain ⟨z8, rfl⟩ := one_bool h8
 obtain ⟨z9, rfl⟩ := one_bool h9
 obtain ⟨z10, rfl⟩ := one_bool h10
 obtain ⟨z11, rfl⟩ := one_int h11
 obtain ⟨z12, rfl⟩ := one_int h12
 obtain ⟨z13, rfl⟩ := one_int h13
 obtain ⟨z24, rfl⟩ := one_int h16
 obtain ⟨xs, n2, _, _, _, hlen, hg⟩ := DataW.trod_struct Tryz.underlying66 h14
 obtain ⟨xs', n3, _, _, _, hlen', hg'⟩ := DataW.trod_struct Tryz.underlying67 h15
 have hx : ∀ i, i < 4 → ∃ y, xs[i]? = some y := fun i hi => ⟨_, List.getElem?_eq_getElem (by rw [hlen]; exact hi)⟩
 have hx' : ∀ i, i < 6 → ∃ y, xs'[i]? = some y := fun i hi => ⟨_, List.getElem?_eq_getElem (by rw [hlen']; exact hi)⟩
 obtain ⟨u0, e0⟩ := hx 0 (by omega)
 have t0 := (hg 0 _ rfl).trans e0
 obtain ⟨u1, e1⟩ := hx 1 (by omega)
 have t1 := (hg 1 _ rfl).trans e1
 obtain ⟨u2, e2⟩ := hx 2 (by omega)
 have t2 := (hg 2 _ rfl).trans e2
 obtain ⟨u3, e3⟩ := hx 3 (by omega)
 have t3 := (hg 3 _ rfl).trans e3
 obtain ⟨v0, d0⟩ := hx' 0 (by omega)
 have p0 := (hg' 0 _ rfl).trans d0
 obtain ⟨v1, d1⟩ := hx' 1 (by omega)
 have p1 := (hg' 1 _ rfl).trans d1
 obtain ⟨v2, d2⟩ := hx' 2 (by omega)
 have p2 := (hg' 2 _ rfl).trans d2
 obtain ⟨v3, d3⟩ := hx' 3 (by omega)
 have p3 := (hg' 3 _ rfl).trans d3
 obtain ⟨v4, d4⟩ := hx' 4 (by omega)
 have p4 := (hg' 4 _ rfl).trans d4
 obtain ⟨v5, d5⟩ := hx' 5 (by omega)
 have p5 := (hg' 5 _ rfl).trans d5
 obtain ⟨z14, rfl⟩ := one_int t0
 obtain ⟨z15, rfl⟩ := one_int t1
 obtain ⟨z16, rfl⟩ := one_int t2
 obtain ⟨z17, rfl⟩ := one_int t3
 obtain ⟨z18, rfl⟩ := one_int p0
 obtain ⟨z19, rfl⟩ := one_bool p1
 obtain ⟨z20, rfl⟩ := one_bool p2
 obtain ⟨z21, rfl⟩ := one_int p3
 obtain ⟨z22, rfl⟩ := one_int p4
 obtain ⟨z23, rfl⟩ := one_bool p5
 exact ⟨⟨l0, l1, z2, z3, z4, z5, z6, z7, z8, z9, z10, z11, z12, z13, ⟨z14, z15, z16, z17⟩, ⟨z18, z19, z20, z21, z22, z23⟩, z24⟩, a0, a1, rfl, s0, s1⟩
end Go.Proofs.YtghmkacamabndaaGreatDoor.Args
namespace Go.Proofs.YtghmkacamabndaaGreatDoor.Laid
open Go.ChangeShapes Go.WideShapes Go.ChangeAt Go.RowKit Opl

theorem gTab : Tryz.prog.globalNamed "loop.example/g00741/impl.opLines" = some 0 := by kernel_rfl
theorem gTabType : (Tryz.prog.globals[0]?).map (·.type) = some 206 := by kernel_rfl
theorem cellsTab : Tryz.prog.cellsOf 206 = 93 := by kernel_rfl
theorem cellsLine : Tryz.prog.cellsOf 189 = 3 := by kernel_rfl
theorem cells64 : Tryz.prog.cellsOf 2 = 1 := by kernel_rfl
theorem cellsStr : Tryz.prog.cellsOf 9 = 1 := by kernel_rfl
theorem undTab : Tryz.prog.underlying 206 = some (.array 31 189) := by kernel_rfl

def lineData {H : Type} (x : List UInt8 × Int × Int) : DataW H := .agg [.lit (.string x.1), .lit (.int .i64 x.2.1), .lit (.int .i64 x.2.2)]
def tabData {H : Type} : DataW H := .agg (ops.map lineData)

set_option maxRecDepth 20000 in
theorem line_of_trod {H : Type} {enc : TypeId × Value → H} {w : World} {base : Nat} {sp : Nat → Bool} {held : Bool} {fuel : Nat} {cs : List Value} {p : List MemPlace} (x : List UInt8 × Int × Int)
  (h : DataW.trod enc Tryz.prog w base sp held fuel 189 cs = some (lineData x, p)) : cs = cells3 x := by
 obtain ⟨xs, n, rfl, hx, hl, hxl, hall⟩ := DataW.trod_struct und_line h
 rw [cellsLine] at hl
 obtain ⟨c0, c1, c2, rfl⟩ : ∃ c0 c1 c2, cs = [c0, c1, c2] := by
  match cs, hl with
  | [a, b, c], _ => exact ⟨a, b, c, rfl⟩
 obtain ⟨y0, y1, y2, rfl⟩ : ∃ y0 y1 y2, xs = [y0, y1, y2] := by
  match xs, hxl with
  | [a, b, c], _ => exact ⟨a, b, c, rfl⟩
 have h0 : DataW.trod enc Tryz.prog w base sp held n 9 [c0] = some y0 := by
  have h := hall 0 _ rfl
  change DataW.trod enc Tryz.prog w base sp held n 9 (([c0, c1, c2].drop 0).take (Tryz.prog.cellsOf 9)) = _ at h
  rw [cellsStr] at h
  exact h
 have h1 : DataW.trod enc Tryz.prog w base sp held n 2 [c1] = some y1 := by
  have h := hall 1 _ rfl
  change DataW.trod enc Tryz.prog w base sp held n 2 (([c0, c1, c2].drop 1).take (Tryz.prog.cellsOf 2)) = _ at h
  rw [cells64] at h
  exact h
 have h2 : DataW.trod enc Tryz.prog w base sp held n 2 [c2] = some y2 := by
  have h := hall 2 _ rfl
  change DataW.trod enc Tryz.prog w base sp held n 2 (([c0, c1, c2].drop 2).take (Tryz.prog.cellsOf 2)) = _ at h
  rw [cells64] at h
  exact h
 obtain ⟨s, e0, f0, _⟩ := DataW.trod_string (w := w) (base := base) (P := Tryz.prog) (t := 9) (by kernel_rfl) h0
 obtain ⟨a, e1, f1, _⟩ := DataW.trod_int (w := w) (base := base) (P := Tryz.prog) (t := 2) (k := .i64) (by kernel_rfl) h1
 obtain ⟨b, e2, f2, _⟩ := DataW.trod_int (w := w) (base := base) (P := Tryz.prog) (t := 2) (k := .i64) (by kernel_rfl) h2
 subst f0; subst f1; subst f2
 simp [lineData] at hx
 obtain ⟨⟨hs, ha, hb⟩, _⟩ := hx
 simp at e0 e1 e2
 subst e0; subst e1; subst e2
 simp [cells3, ← ha, ← hb, hs]

theorem tab_of_trod {H : Type} {enc : TypeId × Value → H} {w : World} {base : Nat} {sp : Nat → Bool} {held : Bool} {fuel : Nat} {cs : List Value} {p : List MemPlace}
  (h : DataW.trod enc Tryz.prog w base sp held fuel 206 cs = some (tabData, p)) : cs = rows ops := by
 cases fuel with
 | zero => simp [DataW.trod] at h
 | succ fuel =>
  simp only [DataW.trod, undTab, cellsTab, cellsLine] at h
  split at h
  ·rename_i hl
   obtain ⟨xs, hm, hx⟩ := Option.map_eq_some_iff.1 h
   have hxs : xs.map (·.1) = (ops.map lineData : List (DataW H)) := by
    have := congrArg Prod.fst hx
    simpa [tabData] using this
   apply List.ext_getElem?
   intro i
   by_cases hi : i < 93
   ·have hi3 : i / 3 < 31 := by omega
    obtain ⟨b, hb, hf⟩ := Lib.mapM_at hm (i / 3) (i / 3) (by simp [hi3])
    have hd : b.1 = lineData (ops.getD (i / 3) ([], 0, 0)) := by
     have e : (xs.map (·.1))[i / 3]? = some b.1 := by simp [hb]
     rw [hxs] at e
     have h31 : i / 3 < ops.length := hi3
     simp only [List.getElem?_map, List.getElem?_eq_getElem h31, Option.map_some, Option.some.injEq] at e
     rw [← e, List.getD_eq_getElem?_getD, List.getElem?_eq_getElem h31]
     rfl
    have hc := line_of_trod (p := b.2) (ops.getD (i / 3) ([], 0, 0)) (hf.trans (by rw [← hd]))
    have e1 : cs[i]? = ((cs.drop (i / 3 * 3)).take 3)[i % 3]? := by
     rw [List.getElem?_take_of_lt (by omega), List.getElem?_drop]
     congr 1
     omega
    rw [e1, hc, ← rows_at ops (i / 3) (i % 3) hi3 (by omega)]
    congr 1
    omega
   ·have hr : (rows ops).length = 93 := by decide +kernel
    rw [List.getElem?_eq_none (by omega), List.getElem?_eq_none (by omega)]
  ·cases h

theorem tab_laid : (Rows.laid_loop_example_g00741_impl_opLines : DataW Unit) = tabData := rfl
theorem var_of_laid {W : World} (h : laidMet Tryz.prog [("loop.example/g00741/impl.opLines", Rows.laid_loop_example_g00741_impl_opLines)] W) : W.var? Tryz.prog "loop.example/g00741/impl.opLines" = some (rows ops).toArray := by
 obtain ⟨ps, ⟨g, t, cs, fuel, p, q, hg, ht, hvar, hd, _, _⟩, _⟩ := h
 obtain rfl := Option.some.inj (gTab.symm.trans hg)
 obtain rfl := Option.some.inj (gTabType.symm.trans ht)
 rw [hvar]
 congr 1
 obtain ⟨l⟩ := cs
 rw [tab_laid] at hd
 have e : l = rows ops := tab_of_trod hd
 rw [e]
theorem ops_of_var {W : World} (h : W.var? Tryz.prog "loop.example/g00741/impl.opLines" = some (rows ops).toArray) : OpsAt W := by
 simp only [World.var?, gTab, Option.bind_some] at h
 split at h
 ·rename_i c t fr hb
  simp only [Option.some.injEq] at h
  subst h
  exact ⟨t, fr, hb⟩
 ·cases h
theorem var_of_ops {W : World} (h : OpsAt W) : W.var? Tryz.prog "loop.example/g00741/impl.opLines" = some (rows ops).toArray := by
 obtain ⟨t, fz, h⟩ := h
 simp only [World.var?, gTab, Option.bind_some, h]
theorem reads_tab {H : Type} (enc : TypeId × Value → H) (W : World) (sp : Nat → Bool) : DataW.trod enc Tryz.prog W 0 sp true 3 206 (rows ops) = some (tabData, []) := by kernel_rfl
theorem open_vars {H : Type} {enc : TypeId × Value → H} {W : World} {gs : List (DataW H)} {q : List MemPlace} (hV : DataW.TrodVars enc Tryz.prog W (fun _ => true) ["loop.example/g00741/impl.opLines"] gs q) (hv : W.var? Tryz.prog "loop.example/g00741/impl.opLines" = some (rows ops).toArray) :
  gs = [tabData] ∧ q = MemPlace.row ⟨0, 0, none⟩ (rows ops).toArray.size := by
 obtain ⟨g, t, cs, fuel, d, p', rfl, hg, ht, hvar, hd, rfl⟩ := trodVars_one hV
 obtain rfl := Option.some.inj (gTab.symm.trans hg)
 obtain rfl := Option.some.inj (gTabType.symm.trans ht)
 obtain rfl : cs = (rows ops).toArray := Option.some.inj (hvar.symm.trans hv)
 obtain ⟨rfl, rfl⟩ := DataW.Trod.unique (v := .agg (rows ops).toArray) ⟨fuel, hd⟩ ⟨3, reads_tab enc W _⟩
 exact ⟨rfl, by simp⟩
theorem shut_vars {H : Type} {enc : TypeId × Value → H} {W : World} (ho : OpsAt W) (sp : Nat → Bool) :
  DataW.TrodVars enc Tryz.prog W sp ["loop.example/g00741/impl.opLines"] [tabData] (MemPlace.row ⟨0, 0, none⟩ (rows ops).toArray.size ++ []) :=
 trodVars_mk1 gTab gTabType (var_of_ops ho) (reads_tab enc W sp)

def laidOn (w : World) : World :=
 { w with heap := w.heap.modify 0 fun
   | .cells _ t frozen => .cells (rows ops).toArray t frozen
   | o => o }
end Go.Proofs.YtghmkacamabndaaGreatDoor.Laid
