/-
  The program's table of operations, made in a function; what stands in it does what the document's line tells. The program's Executed.
-/
import Derived.Test.YtocofjimkfffeaaGreatDoorDe
import Derived.Test.YtocofjimkfffeaaGreatDoorOp
import Derived.Test.YtocofjimkfffeaaGreatDoorMcCopyI
namespace Go.Proofs.YtocofjimkfffeaaGreatDoor.Mem
open Go.ChangeShapes Go.WideShapes Go.RowKit Base Num Slc Rw Tmr Srl Rom RomOf Opl Reg
set_option linter.unusedVariables false
set_option linter.unusedSimpArgs false

def fnums : List FuncId := [68, 69, 70, 71, 72, 73, 74, 76, 77, 78, 80, 81, 83, 85, 86, 87, 89, 91, 93, 94, 96, 97, 98, 99, 101, 103, 104, 105, 106, 107, 108]
def fval (f : FuncId) : Value := .func (.func f) #[] #[]
def fvals : Array Value := (fnums.map fval).toArray
theorem built_ops : Tryz.prog.built 62 (fnums.zipIdx.map fun x => (x.2, fval x.1)) = some fvals := by kernel_rfl
theorem und_ops : Tryz.prog.underlying 62 = some (.array 31 61) := by kernel_rfl
theorem info_ops : (Tryz.prog.info? 62).map (·.size) = some 31 := by kernel_rfl
theorem fsize : fvals.size = 31 := rfl
theorem fone : fvals.all (·.oneCell') = true := by kernel_rfl
section
variable {ops : Array Oper} {rest : List Oper} {o : Oper} {a : Act} {w : World} {Q : Exit → Act → World → Prop}
theorem al_ops (hgd : o.guard = none) (ho : o.op = .alloc 62)
    (h : ∀ w' cs, cs.size = 31 → Row w' w.heap.size cs 62 → Below w.heap.size w w' → wpList Tryz.prog ops Q rest (a.put o.dst (.pointer (some ⟨w.heap.size, 0, none⟩))) w') : wpList Tryz.prog ops Q (o :: rest) a w :=
  wpList_plain hgd fun _ hK => by
    have e : (execOp a.eval o).run Tryz.prog w = .ok (.value (.pointer (some ⟨w.heap.size, 0, none⟩))) (w.alloc (.cells (Array.replicate 31 .nilFunc) 62)) := by
      unfold execOp
      rw [ho]
      kernel_rfl
    unfold Oper.wp
    rw [e]
    exact hK _ _ (h _ _ (by simp) (Row.new _ _ _) ((Below.refl _ _).alloc (Nat.le_refl _) _))
set_option maxRecDepth 100000 in
theorem bd_ops (hgd : o.guard = none) (ho : o.op = .build 62 ((fnums.zipIdx.map fun x => (x.2, Operand.func x.1)).toArray)) (h : wpList Tryz.prog ops Q rest (a.put o.dst (.agg fvals)) w) : wpList Tryz.prog ops Q (o :: rest) a w :=
  wpList_plain hgd fun _ hK => build_op (parts := fnums.zipIdx.map fun x => (x.2, Operand.func x.1)) (vals := fnums.zipIdx.map fun x => (x.2, fval x.1)) ho rfl built_ops (hK _ _ h)
end
set_option maxRecDepth 100000 in
theorem operations_impl (w : World) : Calls Tryz.prog 34 #[] w fun e w' => e = .returned (.agg fvals) ∧ Below w.heap.size w w' := by
  go_enter Tryz.func34, Tryz.ntmps34
  go_wp2_with (first
    | (refine al_ops rfl rfl ?_; intro w1 cs hcs r1 hb1; have l1 := r1.lt)
    | (refine bd_ops rfl rfl ?_)
    | (refine st_row rfl _ _ _ rfl rfl rfl r1 info_ops (hcs.trans fsize.symm) fone ?_; intro w2 r2 o2 s2))
  refine ret_row rfl rfl r2 und_ops rfl info_ops rfl ?_
  exact ⟨rfl, below_onto hb1 o2 (Nat.le_refl _)⟩
/-- What stands in the table at a code does what its line tells. -/
def Does (f : FuncId) (k : Nat) : Prop := ∀ (base : Nat) (w : World) (g : Nat) (x y : Value) (m : Mc) (n : Int), DSt base w g x y m n (-1) → m.ok = true → bok n = true →
  Calls Tryz.prog f #[.pointer (some ⟨g, 0, none⟩)] w fun e w' => e = .returned (.tuple #[]) ∧ Done base w w' g (m.does n k).1 n (m.does n k).2
structure Stands (k : Nat) (f : FuncId) (fn : Func) : Prop where
  at_ : ∀ w, (Instr.index 62 (.agg fvals) (.int .i64 (k : Int))).run Tryz.prog w = .ok (fval f) w
  func : Tryz.prog.funcs[f]? = some fn
  nm : (fn.name == "runtime.NumGoroutine") = false
  body : fn.body.isNone = false
  does : Does f k
theorem ops_at (k : Nat) (hk : k < 31) : ∃ f fn, Stands k f fn := by
  match k with
  | 0 => exact ⟨68, Tryz.f68, fun w => by kernel_rfl, Tryz.func68, by kernel_rfl, by kernel_rfl, fun base w g x y m n h h1 h2 => nop_impl h h1 h2⟩
  | 1 => exact ⟨69, Tryz.f69, fun w => by kernel_rfl, Tryz.func69, by kernel_rfl, by kernel_rfl, fun base w g x y m n h h1 h2 => lda_impl h h1 h2⟩
  | 2 => exact ⟨70, Tryz.f70, fun w => by kernel_rfl, Tryz.func70, by kernel_rfl, by kernel_rfl, fun base w g x y m n h h1 h2 => ldb_impl h h1 h2⟩
  | 3 => exact ⟨71, Tryz.f71, fun w => by kernel_rfl, Tryz.func71, by kernel_rfl, by kernel_rfl, fun base w g x y m n h h1 h2 => mab_impl h h1 h2⟩
  | 4 => exact ⟨72, Tryz.f72, fun w => by kernel_rfl, Tryz.func72, by kernel_rfl, by kernel_rfl, fun base w g x y m n h h1 h2 => mba_impl h h1 h2⟩
  | 5 => exact ⟨73, Tryz.f73, fun w => by kernel_rfl, Tryz.func73, by kernel_rfl, by kernel_rfl, fun base w g x y m n h h1 h2 => get_impl h h1 h2⟩
  | 6 => exact ⟨74, Tryz.f74, fun w => by kernel_rfl, Tryz.func74, by kernel_rfl, by kernel_rfl, fun base w g x y m n h h1 h2 => put_impl h h1 h2⟩
  | 7 => exact ⟨76, Tryz.f76, fun w => by kernel_rfl, Tryz.func76, by kernel_rfl, by kernel_rfl, fun base w g x y m n h h1 h2 => gib_impl h h1 h2⟩
  | 8 => exact ⟨77, Tryz.f77, fun w => by kernel_rfl, Tryz.func77, by kernel_rfl, by kernel_rfl, fun base w g x y m n h h1 h2 => pib_impl h h1 h2⟩
  | 9 => exact ⟨78, Tryz.f78, fun w => by kernel_rfl, Tryz.func78, by kernel_rfl, by kernel_rfl, fun base w g x y m n h h1 h2 => add_impl h h1 h2⟩
  | 10 => exact ⟨80, Tryz.f80, fun w => by kernel_rfl, Tryz.func80, by kernel_rfl, by kernel_rfl, fun base w g x y m n h h1 h2 => adb_impl h h1 h2⟩
  | 11 => exact ⟨81, Tryz.f81, fun w => by kernel_rfl, Tryz.func81, by kernel_rfl, by kernel_rfl, fun base w g x y m n h h1 h2 => sub_impl h h1 h2⟩
  | 12 => exact ⟨83, Tryz.f83, fun w => by kernel_rfl, Tryz.func83, by kernel_rfl, by kernel_rfl, fun base w g x y m n h h1 h2 => cmp_impl h h1 h2⟩
  | 13 => exact ⟨85, Tryz.f85, fun w => by kernel_rfl, Tryz.func85, by kernel_rfl, by kernel_rfl, fun base w g x y m n h h1 h2 => and_impl h h1 h2⟩
  | 14 => exact ⟨86, Tryz.f86, fun w => by kernel_rfl, Tryz.func86, by kernel_rfl, by kernel_rfl, fun base w g x y m n h h1 h2 => xor_impl h h1 h2⟩
  | 15 => exact ⟨87, Tryz.f87, fun w => by kernel_rfl, Tryz.func87, by kernel_rfl, by kernel_rfl, fun base w g x y m n h h1 h2 => rol_impl h h1 h2⟩
  | 16 => exact ⟨89, Tryz.f89, fun w => by kernel_rfl, Tryz.func89, by kernel_rfl, by kernel_rfl, fun base w g x y m n h h1 h2 => ror_impl h h1 h2⟩
  | 17 => exact ⟨91, Tryz.f91, fun w => by kernel_rfl, Tryz.func91, by kernel_rfl, by kernel_rfl, fun base w g x y m n h h1 h2 => inb_impl h h1 h2⟩
  | 18 => exact ⟨93, Tryz.f93, fun w => by kernel_rfl, Tryz.func93, by kernel_rfl, by kernel_rfl, fun base w g x y m n h h1 h2 => deb_impl h h1 h2⟩
  | 19 => exact ⟨94, Tryz.f94, fun w => by kernel_rfl, Tryz.func94, by kernel_rfl, by kernel_rfl, fun base w g x y m n h h1 h2 => jmp_impl h h1 h2⟩
  | 20 => exact ⟨96, Tryz.f96, fun w => by kernel_rfl, Tryz.func96, by kernel_rfl, by kernel_rfl, fun base w g x y m n h h1 h2 => jpz_impl h h1 h2⟩
  | 21 => exact ⟨97, Tryz.f97, fun w => by kernel_rfl, Tryz.func97, by kernel_rfl, by kernel_rfl, fun base w g x y m n h h1 h2 => jnz_impl h h1 h2⟩
  | 22 => exact ⟨98, Tryz.f98, fun w => by kernel_rfl, Tryz.func98, by kernel_rfl, by kernel_rfl, fun base w g x y m n h h1 h2 => jpc_impl h h1 h2⟩
  | 23 => exact ⟨99, Tryz.f99, fun w => by kernel_rfl, Tryz.func99, by kernel_rfl, by kernel_rfl, fun base w g x y m n h h1 h2 => cal_impl h h1 h2⟩
  | 24 => exact ⟨101, Tryz.f101, fun w => by kernel_rfl, Tryz.func101, by kernel_rfl, by kernel_rfl, fun base w g x y m n h h1 h2 => ret_impl h h1 h2⟩
  | 25 => exact ⟨103, Tryz.f103, fun w => by kernel_rfl, Tryz.func103, by kernel_rfl, by kernel_rfl, fun base w g x y m n h h1 h2 => psh_impl h h1 h2⟩
  | 26 => exact ⟨104, Tryz.f104, fun w => by kernel_rfl, Tryz.func104, by kernel_rfl, by kernel_rfl, fun base w g x y m n h h1 h2 => pop_impl h h1 h2⟩
  | 27 => exact ⟨105, Tryz.f105, fun w => by kernel_rfl, Tryz.func105, by kernel_rfl, by kernel_rfl, fun base w g x y m n h h1 h2 => eni_impl h h1 h2⟩
  | 28 => exact ⟨106, Tryz.f106, fun w => by kernel_rfl, Tryz.func106, by kernel_rfl, by kernel_rfl, fun base w g x y m n h h1 h2 => dis_impl h h1 h2⟩
  | 29 => exact ⟨107, Tryz.f107, fun w => by kernel_rfl, Tryz.func107, by kernel_rfl, by kernel_rfl, fun base w g x y m n h h1 h2 => rti_impl h h1 h2⟩
  | 30 => exact ⟨108, Tryz.f108, fun w => by kernel_rfl, Tryz.func108, by kernel_rfl, by kernel_rfl, fun base w g x y m n h h1 h2 => hlt_impl h h1 h2⟩
  | k + 31 => omega
section
variable {ops : Array Oper} {rest : List Oper} {o : Oper} {a : Act} {w : World} {Q : Exit → Act → World → Prop} {x y : Operand} {k : Nat} {f : FuncId} {fn : Func}
theorem ix_ops (hgd : o.guard = none) (ho : o.op = .index 62 x y) (hx : a.eval x = .agg fvals) (hy : a.eval y = .int .i64 (k : Int)) (hs : Stands k f fn)
    (h : wpList Tryz.prog ops Q rest (a.put o.dst (fval f)) w) : wpList Tryz.prog ops Q (o :: rest) a w :=
  wpList_plain hgd fun _ hK => by
    unfold Oper.wp execOp
    simp only [ho, hx, hy, Sem.run_bind, Result.andThen_ok, hs.at_ w]
    exact hK _ _ h
theorem call_dyn {tys : Array TypeId} (hgd : o.guard = none) (ho : o.op = .call { callee := .value x, args := #[y], argTypes := tys }) (hx : a.eval x = fval f) (hs : Stands k f fn)
    (h : Calls Tryz.prog f #[a.eval y] w fun e w' => ∃ v, e = .returned v ∧ wpList Tryz.prog ops Q rest (a.put o.dst v) w') : wpList Tryz.prog ops Q (o :: rest) a w :=
  wpList_plain hgd fun _ hK => by
    unfold Oper.wp execOp
    have hn' : ¬ fn.name = "runtime.NumGoroutine" := by simpa using hs.nm
    have hb' : ¬ fn.body = none := fun e => by have := hs.body; simp [e] at this
    have e : (do let d ← resolve a.eval { callee := .value x, args := #[y], argTypes := tys } o.type; invoke d.target d.args : Sem Next).run Tryz.prog w = .ok (.enter f #[a.eval y]) w := by
      simp [resolve, hx, fval, Deferred.ofValue, invoke, callFunc, hs.func, hn', hb']
    rw [ho]
    show o.upon Tryz.prog a _ Q ((do let d ← resolve a.eval { callee := .value x, args := #[y], argTypes := tys } o.type; invoke d.target d.args : Sem Next).run Tryz.prog w)
    rw [e, Oper.upon_enter]
    refine h.mono ?_
    rintro e w' ⟨v, rfl, hk⟩
    exact hK _ _ hk
end
end Go.Proofs.YtocofjimkfffeaaGreatDoor.Mem
namespace Go.Proofs.YtocofjimkfffeaaGreatDoor.Mem
open Go.ChangeShapes Go.WideShapes Go.RowKit Base Num Slc Rw Tmr Srl Rom RomOf Opl Reg
set_option linter.unusedVariables false
set_option linter.unusedSimpArgs false

theorem built_de (x y : Value) (m : Mc) : Tryz.prog.built 58 [(0, m.val x y), (2, .int .i64 (-1))] = some (dcells x y m 0 (-1)) := by kernel_rfl
theorem und_de : ∃ fs, Tryz.prog.underlying 58 = some (.struct fs) := ⟨_, Tryz.underlying58⟩
theorem OpsAt.onto {w w' : World} {g : Nat} (h : OpsAt w) (ho : Onto g w w') (hg : g ≠ 0) : OpsAt w' := by
  have h0 := h.lt
  obtain ⟨t, fz, h⟩ := h
  exact ⟨t, fz, by rw [ho.block 0 (fun e => hg e.symm) h0]; exact h⟩
theorem dall_one {x y : Value} (hx : x.oneCell' = true) (hy : y.oneCell' = true) (m : Mc) (n o : Int) : (dcells x y m n o).all (·.oneCell') = true := by
  unfold Value.oneCell' at hx hy
  simp only [dcells, List.all_toArray, List.all_cons, List.all_nil, Value.oneCell', hx, hy, Bool.and_true]
section
variable {ops : Array Oper} {rest : List Oper} {o : Oper} {a : Act} {w : World} {Q : Exit → Act → World → Prop} {p q : Operand} {g k : Nat} {x y : Value} {m : Mc}
theorem al_de (hgd : o.guard = none) (ho : o.op = .alloc 58)
    (h : ∀ w', DRow w' w.heap.size nil64 nil64 Mc.nul 0 0 → Below w.heap.size w w' → wpList Tryz.prog ops Q rest (a.put o.dst (.pointer (some ⟨w.heap.size, 0, none⟩))) w') : wpList Tryz.prog ops Q (o :: rest) a w :=
  wpList_plain hgd fun _ hK => by
    have e : (execOp a.eval o).run Tryz.prog w = .ok (.value (.pointer (some ⟨w.heap.size, 0, none⟩))) (w.alloc (.cells (dcells nil64 nil64 Mc.nul 0 0) 58)) := by
      unfold execOp
      rw [ho]
      kernel_rfl
    unfold Oper.wp
    rw [e]
    exact hK _ _ (h _ (Row.new _ _ _) ((Below.refl _ _).alloc (Nat.le_refl _) _))
theorem bd_de (hgd : o.guard = none) (ho : o.op = .build 58 #[(0, p), (2, .const (.int .i64 (-1)))]) (hp : a.eval p = m.val x y) (h : wpList Tryz.prog ops Q rest (a.put o.dst (.agg (dcells x y m 0 (-1)))) w) : wpList Tryz.prog ops Q (o :: rest) a w :=
  wpList_plain hgd fun _ hK => build_op (parts := [(0, p), (2, .const (.int .i64 (-1)))]) (vals := [(0, m.val x y), (2, .int .i64 (-1))]) ho (by simp only [List.map_cons, List.map_nil, hp]; rfl) (built_de x y m) (hK _ _ h)
theorem st_de {x0 y0 : Value} {m0 : Mc} {n0 o0 n1 o1 : Int} (hgd : o.guard = none) (ho : o.op = .store 58 p q) (hx : a.eval p = .pointer (some ⟨g, 0, none⟩)) (hy : a.eval q = .agg (dcells x y m n1 o1)) (hr : DRow w g x0 y0 m0 n0 o0) (h1 : x.oneCell' = true) (h2 : y.oneCell' = true)
    (h : ∀ w', DRow w' g x y m n1 o1 → Onto g w w' → w'.heap.size = w.heap.size → wpList Tryz.prog ops Q rest (a.put o.dst undef) w') : wpList Tryz.prog ops Q (o :: rest) a w :=
  st_row hgd _ p q ho hx hy hr info_de rfl (dall_one h1 h2 m _ _) h
theorem ret_mc3 {fn : Func} {R : Ending → World → Prop} {q u u2 : Tmp} {v v2 : Value} (h : fn.results = #[.cell q 30, .tmp u, .tmp u2]) (hp : a.tmps.getD q undef = .pointer (some ⟨g, 0, none⟩)) (hr : MRow w g x y m) (hde : a.defers = []) (hv : a.tmps.getD u undef = v) (hv2 : a.tmps.getD u2 undef = v2)
    (hR : R (.returned (.tuple #[m.val x y, v, v2])) w) : bodyPost Tryz.prog fn R .ret a w := ret_row_tmp2 h hp hr Tryz.underlying30 rfl info_mc hde hv hv2 hR
end
/-- What Executed answers: a machine of its own, the cost, what went out. -/
def Ans (base : Nat) (w' : World) (e : Ending) (r : Mc × Int × Int) : Prop := ∃ v, e = .returned (.tuple #[v, .int .i64 r.2.1, .int .i64 r.2.2]) ∧ MOwn base w' v r.1
theorem Ans.mk {base b : Nat} {w' : World} {x y : Value} {m : Mc} {c o : Int} (h1 : Own b w' x m.rom) (h2 : Own b w' y m.ram) (h3 : ∀ k, x.ownBlock = some k → y.ownBlock ≠ some k) (hb : base ≤ b) : Ans base w' (.returned (.tuple #[m.val x y, .int .i64 c, .int .i64 o])) (m, c, o) :=
  ⟨_, rfl, x, y, rfl, h1.mono hb, h2.mono hb, h3⟩

set_option maxHeartbeats 2000000 in
theorem executed_no (v : Value) (m : Mc) (w : World) (hm : MSl w v m) (hok : m.ok = false) :
    Calls Tryz.prog 7 #[v] w fun e w' => Ans w.heap.size w' e (Mc.nul, 0, -1) ∧ Below w.heap.size w w' := by
  obtain ⟨vr, va, hv, hr, ha⟩ := hm
  go_enter Tryz.func7, Tryz.ntmps7
  go_wp2_with (first
      | (refine box_m rfl rfl hv ?_; intro w0 r0 hB0)
      | (refine al_mc rfl rfl ?_; intro w1 z1 hB1; have r1 := r0.below hB1; have hB2 := hB0.trans (hB1.mono hB0.size); have l0 := r0.lt; have lz := z1.lt)
      | (refine ld_mc rfl rfl rfl r1 ?_)
      | (go_at_call 14; refine (machineOk_impl _ m _ ⟨vr, va, rfl, hr.below hB2, ha.below hB2⟩).mono ?_; rintro e w2 ⟨rfl, hb2⟩; rw [hok]; have hB3 := hB2.trans (hb2.mono hB2.size); have z2 := z1.below hb2; replace r1 := r1.below hb2)
      | (refine bd_nul rfl rfl ?_)
      | (refine st_mc rfl rfl rfl rfl z2 rfl rfl ?_; intro w6 r6 o6 s6))
  refine ret_mc3 rfl rfl r6 rfl rfl rfl ?_
  exact ⟨Ans.mk (Own.nil w.heap.size _) (Own.nil _ _) (by simp [Value.ownBlock]) (Nat.le_refl _), below_onto hB3 o6 (by omega)⟩
set_option maxHeartbeats 2000000 in
theorem executed_idle (v : Value) (m : Mc) (w : World) (hm : MSl w v m) (hok : m.ok = true) (hi : (m.h || m.s) = true) :
    Calls Tryz.prog 7 #[v] w fun e w' => Ans w.heap.size w' e (m, 1, -1) ∧ Below w.heap.size w w' := by
  obtain ⟨vr, va, hv, hr, ha⟩ := hm
  have hR := Mc.right hok
  have hR1 := hR.rom
  have hR2 : Hid (m.ram.length = 64) := hR.ram
  cases hh : m.h
  · have hs : m.s = true := by simpa [hh] using hi
    go_enter Tryz.func7, Tryz.ntmps7
    go_wp2_with (first
      | (refine box_m rfl rfl hv ?_; intro w0 r0 hB0)
      | (refine al_mc rfl rfl ?_; intro w1 z1 hB1; have r1 := r0.below hB1; have hB2 := hB0.trans (hB1.mono hB0.size); have l0 := r0.lt; have lz := z1.lt)
      | (refine ld_mc rfl rfl rfl r1 ?_)
      | (go_at_call 14; refine (machineOk_impl _ m _ ⟨vr, va, rfl, hr.below hB2, ha.below hB2⟩).mono ?_; rintro e w2 ⟨rfl, hb2⟩; rw [hok]; have hB3 := hB2.trans (hb2.mono hB2.size); have z2 := z1.below hb2; replace r1 := r1.below hb2))
    go_at_call 30
    refine (machineCopy_impl _ m _ ⟨vr, va, rfl, hr.below hB3, ha.below hB3⟩ (by omega) (by have := hR2.out; omega) (by omega) (by have := hR2.out; omega)).mono ?_
    rintro e w4 ⟨v4, rfl, ⟨x4, y4, rfl, ho4, hp4, ha4⟩, hb4⟩
    have hB4 := hB3.trans (hb4.mono hB3.size)
    have z4 := z2.below hb4
    have s34 := z2.lt
    have r4 := r1.below hb4
    have lr4 := r4.lt
    have lz4 := z4.lt
    have sB3 := hB3.size
    have sb4 := hb4.size
    have hxl := ho4.lt
    have hyl := hp4.lt
    clear z1 z2 r1
    go_wp2_with (first
      | (refine al_mc rfl rfl ?_; intro w5 z5 hB5; have lz5 := z5.lt; have r5 := r4.below hB5; have z5' := z4.below hB5; have hp5 := hp4.below hB5; have ho5 := ho4.below hB5)
      | (refine st_mc rfl rfl rfl rfl z5 (one_own ho4) (one_own hp4) ?_; intro w6 c6 o6 s6; have hp6 := hp5.onto o6 (fun e => by have := hyl _ e; omega); have ho6 := ho5.onto o6 (fun e => by have := hxl _ e; omega); have z6 := z5'.onto o6 (by omega); have r6 := r5.onto o6 (by omega); have hB6 := below_onto (hB4.trans (hB5.mono hB4.size)) o6 (by have := hB4.size; omega); have kh := (cw r6).h; have ks := (cw r6).s; have kp := (cw r6).pc; clear z5 z5' r5 hp5 ho5; rw [hh] at kh; rw [hs] at ks)
      | (refine ld_mc rfl rfl rfl c6 ?_)
      | (refine st_mc rfl rfl rfl rfl z6 (one_own ho6) (one_own hp6) ?_; intro w7 c7 o7 s7))
    refine ret_mc3 rfl rfl c7 rfl rfl rfl ?_
    exact ⟨Ans.mk (ho6.onto o7 (fun e => by have := hxl _ e; omega)) (hp6.onto o7 (fun e => by have := hyl _ e; omega)) ha4 (by omega), below_onto hB6 o7 (by omega)⟩
  · go_enter Tryz.func7, Tryz.ntmps7
    go_wp2_with (first
      | (refine box_m rfl rfl hv ?_; intro w0 r0 hB0)
      | (refine al_mc rfl rfl ?_; intro w1 z1 hB1; have r1 := r0.below hB1; have hB2 := hB0.trans (hB1.mono hB0.size); have l0 := r0.lt; have lz := z1.lt)
      | (refine ld_mc rfl rfl rfl r1 ?_)
      | (go_at_call 14; refine (machineOk_impl _ m _ ⟨vr, va, rfl, hr.below hB2, ha.below hB2⟩).mono ?_; rintro e w2 ⟨rfl, hb2⟩; rw [hok]; have hB3 := hB2.trans (hb2.mono hB2.size); have z2 := z1.below hb2; replace r1 := r1.below hb2))
    go_at_call 30
    refine (machineCopy_impl _ m _ ⟨vr, va, rfl, hr.below hB3, ha.below hB3⟩ (by omega) (by have := hR2.out; omega) (by omega) (by have := hR2.out; omega)).mono ?_
    rintro e w4 ⟨v4, rfl, ⟨x4, y4, rfl, ho4, hp4, ha4⟩, hb4⟩
    have hB4 := hB3.trans (hb4.mono hB3.size)
    have z4 := z2.below hb4
    have s34 := z2.lt
    have r4 := r1.below hb4
    have lr4 := r4.lt
    have lz4 := z4.lt
    have sB3 := hB3.size
    have sb4 := hb4.size
    have hxl := ho4.lt
    have hyl := hp4.lt
    clear z1 z2 r1
    go_wp2_with (first
      | (refine al_mc rfl rfl ?_; intro w5 z5 hB5; have lz5 := z5.lt; have r5 := r4.below hB5; have z5' := z4.below hB5; have hp5 := hp4.below hB5; have ho5 := ho4.below hB5)
      | (refine st_mc rfl rfl rfl rfl z5 (one_own ho4) (one_own hp4) ?_; intro w6 c6 o6 s6; have hp6 := hp5.onto o6 (fun e => by have := hyl _ e; omega); have ho6 := ho5.onto o6 (fun e => by have := hxl _ e; omega); have z6 := z5'.onto o6 (by omega); have r6 := r5.onto o6 (by omega); have hB6 := below_onto (hB4.trans (hB5.mono hB4.size)) o6 (by have := hB4.size; omega); have kh := (cw r6).h; have ks := (cw r6).s; have kp := (cw r6).pc; clear z5 z5' r5 hp5 ho5; rw [hh] at kh)
      | (refine ld_mc rfl rfl rfl c6 ?_)
      | (refine st_mc rfl rfl rfl rfl z6 (one_own ho6) (one_own hp6) ?_; intro w7 c7 o7 s7))
    refine ret_mc3 rfl rfl c7 rfl rfl rfl ?_
    exact ⟨Ans.mk (ho6.onto o7 (fun e => by have := hxl _ e; omega)) (hp6.onto o7 (fun e => by have := hyl _ e; omega)) ha4 (by omega), below_onto hB6 o7 (by omega)⟩
set_option maxHeartbeats 2000000 in
theorem executed_stuck (v : Value) (m : Mc) (w : World) (hm : MSl w v m) (ho : OpsAt w) (hok : m.ok = true) (hi : (m.h || m.s) = false) (hz : m.size' = 0) :
    Calls Tryz.prog 7 #[v] w fun e w' => Ans w.heap.size w' e ({ m with s := true }, 1, -1) ∧ Below w.heap.size w w' := by
  obtain ⟨vr, va, hv, hr, ha⟩ := hm
  have hR := Mc.right hok
  have hR1 := hR.rom
  have hR2 : Hid (m.ram.length = 64) := hR.ram
  have hh : m.h = false := by simp at hi; exact hi.1
  have hs : m.s = false := by simp at hi; exact hi.2
  have hcd : m.readAt m.pc = m.code := readAt_ok hok (okm.1 hok).pc
  have hz' : (line m.code).2.1 = 0 := hz
  clear hz
  · go_enter Tryz.func7, Tryz.ntmps7
    go_wp2_with (first
      | (refine box_m rfl rfl hv ?_; intro w0 r0 hB0)
      | (refine al_mc rfl rfl ?_; intro w1 z1 hB1; have r1 := r0.below hB1; have hB2 := hB0.trans (hB1.mono hB0.size); have l0 := r0.lt; have lz := z1.lt)
      | (refine ld_mc rfl rfl rfl r1 ?_)
      | (go_at_call 14; refine (machineOk_impl _ m _ ⟨vr, va, rfl, hr.below hB2, ha.below hB2⟩).mono ?_; rintro e w2 ⟨rfl, hb2⟩; rw [hok]; have hB3 := hB2.trans (hb2.mono hB2.size); have z2 := z1.below hb2; replace r1 := r1.below hb2))
    go_at_call 30
    refine (machineCopy_impl _ m _ ⟨vr, va, rfl, hr.below hB3, ha.below hB3⟩ (by omega) (by have := hR2.out; omega) (by omega) (by have := hR2.out; omega)).mono ?_
    rintro e w4 ⟨v4, rfl, ⟨x4, y4, rfl, ho4, hp4, ha4⟩, hb4⟩
    have hB4 := hB3.trans (hb4.mono hB3.size)
    have z4 := z2.below hb4
    have s34 := z2.lt
    have r4 := r1.below hb4
    have lr4 := r4.lt
    have lz4 := z4.lt
    have sB3 := hB3.size
    have sb4 := hb4.size
    have hxl := ho4.lt
    have hyl := hp4.lt
    clear z1 z2 r1
    go_wp2_with (first
      | (refine al_mc rfl rfl ?_; intro w5 z5 hB5; have lz5 := z5.lt; have r5 := r4.below hB5; have z5' := z4.below hB5; have hp5 := hp4.below hB5; have ho5 := ho4.below hB5)
      | (refine st_mc rfl rfl rfl rfl z5 (one_own ho4) (one_own hp4) ?_; intro w6 c6 o6 s6; have hp6 := hp5.onto o6 (fun e => by have := hyl _ e; omega); have ho6 := ho5.onto o6 (fun e => by have := hxl _ e; omega); have z6 := z5'.onto o6 (by omega); have r6 := r5.onto o6 (by omega); have hB6 := below_onto (hB4.trans (hB5.mono hB4.size)) o6 (by have := hB4.size; omega); have kh := (cw r6).h; have ks := (cw r6).s; have kp := (cw r6).pc; clear z5 z5' r5 hp5 ho5; rw [hh] at kh; rw [hs] at ks)
      | (refine ld_mc rfl rfl rfl r6 ?_)
      | (go_at_call 31; refine (readAt_impl _ m _ _ ⟨vr, va, rfl, hr.below hB6, ha.below hB6⟩).mono ?_; rintro e w7 ⟨rfl, hb7⟩; rw [hcd]; have hB7 := hB6.trans (hb7.mono hB6.size); have z7 := z6.below hb7; have c7 := c6.below hb7; have hp7 := hp6.below hb7; have ho7 := ho6.below hb7; clear kh ks kp)
      | (go_at_call 32; refine (sizeOf_impl _ _ (ho.below hB7)).mono ?_; rintro e w8 ⟨rfl, hb8⟩; rw [hz']; have hB8 := hB7.trans (hb8.mono hB7.size); have z8 := z7.below hb8; have c8 := c7.below hb8; have hp8 := hp7.below hb8; have ho8 := ho7.below hb8)
      | (refine st_yes (m' := { m with s := true }) rfl rfl rfl rfl c8 rfl rfl ?_; intro w9 c9 o9 s9; have z9 := z8.onto o9 (by omega); have hp9 := hp8.onto o9 (fun e => by have := hyl _ e; omega); have ho9 := ho8.onto o9 (fun e => by have := hxl _ e; omega); have hB9 := below_onto hB8 o9 (by omega))
      | (refine ld_mc rfl rfl rfl c9 ?_)
      | (refine st_mc rfl rfl rfl rfl z9 (one_own ho9) (one_own hp9) ?_; intro w10 c10 o10 s10))
    refine ret_mc3 rfl rfl c10 rfl rfl rfl ?_
    exact ⟨Ans.mk (ho9.onto o10 (fun e => by have := hxl _ e; omega)) (hp9.onto o10 (fun e => by have := hyl _ e; omega)) ha4 (by omega), below_onto hB9 o10 (by omega)⟩
section
variable {op : Oper} {a : Act} {w : World} {K : Act → World → Prop} {Q : Exit → Act → World → Prop} {p q : Operand} {g : Nat} {x y x0 y0 : Value} {m m0 : Mc}
/-- A machine goes into its block, in a drawn region. -/
theorem sm_op (ho : op.op = .store 30 p q) (hx : a.eval p = .pointer (some ⟨g, 0, none⟩)) (hy : a.eval q = m.val x y) (hr : MRow w g x0 y0 m0) (h1 : x.oneCell' = true) (h2 : y.oneCell' = true)
    (h : ∀ w', MRow w' g x y m → Onto g w w' → K (a.put op.dst undef) w') : op.wp Tryz.prog a w K Q :=
  wp_store_row _ p q ho g _ hx hy _ _ hr.row info_mc rfl (all_one h1 h2 m)
    (h _ (Row.of (setRow_heap w g _ _ _ _ hr.row)) ⟨rfl, rfl, rfl, by simp, fun k hk _ => setRow_other w g k _ hk⟩)
end
/-- While the answer is laid: the deed is done, the result's block holds nothing, or (b) the machine. -/
structure Gx (w : World) (base g g2 : Nat) (x y : Value) (m : Mc) (n o : Int) (b : Bool) (W : World) : Prop where
  d : DSt base W g x y m n o
  t : OpsAt W
  bel : Below w.heap.size w W
  res : if b = true then MRow W g2 x y m else MRow W g2 nil64 nil64 Mc.nul
theorem Gx.below {w W W' : World} {base g g2 : Nat} {x y : Value} {m : Mc} {n o : Int} {b : Bool} (h : Gx w base g g2 x y m n o b W) (hb : Below W.heap.size W W') : Gx w base g g2 x y m n o b W' :=
  ⟨h.d.below hb, h.t.below hb, h.bel.trans (hb.mono h.bel.size), by have := h.res; cases b <;> exact Row.below this hb⟩
theorem Gx.drew {w W : World} {base g g2 : Nat} {x y : Value} {m : Mc} {n o : Int} {b : Bool} (h : Gx w base g g2 x y m n o b W) : Gx w base g g2 x y m n o b W.drew :=
  h.below (below_drewN (Below.refl _ _) 1)
theorem Gx.lay {w W W' : World} {base g g2 : Nat} {x y : Value} {m : Mc} {n o : Int} {b : Bool} (h : Gx w base g g2 x y m n o b W) (hr : MRow W' g2 x y m) (ho : Onto g2 W W') (h1 : g2 < base) (h2 : w.heap.size ≤ g2) (h3 : 0 < w.heap.size) : Gx w base g g2 x y m n o true W' := by
  have hb := h.d.hb
  exact ⟨{ h.d with row := h.d.row.onto ho (by omega), hx := h.d.hx.onto ho (fun e => by have := (h.d.hx.lt _ e).1; omega), hy := h.d.hy.onto ho (fun e => by have := (h.d.hy.lt _ e).1; omega) }, OpsAt.onto h.t ho (by omega), below_onto h.bel ho h2, by simpa using hr⟩
set_option maxRecDepth 100000 in
set_option maxHeartbeats 4000000 in
theorem executed_one (v : Value) (m : Mc) (w : World) (hm : MSl w v m) (ho : OpsAt w) (hok : m.ok = true) (hi : (m.h || m.s) = false) (k : Nat) (hk : k < 31) (hcode : m.code = (k : Int)) (hsz : (line (k : Int)).2.1 = 1) :
    Calls Tryz.prog 7 #[v] w fun e w' => Ans w.heap.size w' e ((m.onw.does m.opnd k).1, (line (k : Int)).2.2, (m.onw.does m.opnd k).2) ∧ Below w.heap.size w w' := by
  obtain ⟨vr, va, hv, hr, ha⟩ := hm
  have hR := Mc.right hok
  have hR1 := hR.rom
  have hR2 : Hid (m.ram.length = 64) := hR.ram
  have hh : m.h = false := by simp at hi; exact hi.1
  have hs : m.s = false := by simp at hi; exact hi.2
  have hcd : m.readAt m.pc = (k : Int) := (readAt_ok hok (okm.1 hok).pc).trans hcode
  have HO : Hid (m.onw = { m with pc := addB m.pc 1 }) := show m.onw = { m with pc := addB m.pc 1 } by
    unfold Mc.onw Mc.size'; rw [hcode, hsz, add_one (okm.1 hok).pc]
  have HD : Hid (m.onw.does m.opnd k = m.onw.does 0 k) := does_one _ _ _ k hk (by rw [hsz]; decide)
  have h0 := ho.lt
  obtain ⟨f, fn, hst⟩ := ops_at k hk
  clear hcode
  · go_enter Tryz.func7, Tryz.ntmps7
    go_wp2_with (first
      | (refine box_m rfl rfl hv ?_; intro w0 r0 hB0)
      | (refine al_mc rfl rfl ?_; intro w1 z1 hB1; have r1 := r0.below hB1; have hB2 := hB0.trans (hB1.mono hB0.size); have l0 := r0.lt; have lz := z1.lt)
      | (refine ld_mc rfl rfl rfl r1 ?_)
      | (go_at_call 14; refine (machineOk_impl _ m _ ⟨vr, va, rfl, hr.below hB2, ha.below hB2⟩).mono ?_; rintro e w2 ⟨rfl, hb2⟩; rw [hok]; have hB3 := hB2.trans (hb2.mono hB2.size); have z2 := z1.below hb2; replace r1 := r1.below hb2))
    go_at_call 30
    refine (machineCopy_impl _ m _ ⟨vr, va, rfl, hr.below hB3, ha.below hB3⟩ (by omega) (by have := hR2.out; omega) (by omega) (by have := hR2.out; omega)).mono ?_
    rintro e w4 ⟨v4, rfl, ⟨x4, y4, rfl, ho4, hp4, ha4⟩, hb4⟩
    have hB4 := hB3.trans (hb4.mono hB3.size)
    have z4 := z2.below hb4
    have s34 := z2.lt
    have r4 := r1.below hb4
    have lr4 := r4.lt
    have lz4 := z4.lt
    have sB3 := hB3.size
    have sb4 := hb4.size
    have hxl := ho4.lt
    have hyl := hp4.lt
    clear z1 z2 r1
    go_wp2_with (first
      | (refine al_mc rfl rfl ?_; intro w5 z5 hB5; have lz5 := z5.lt; have r5 := r4.below hB5; have z5' := z4.below hB5; have hp5 := hp4.below hB5; have ho5 := ho4.below hB5)
      | (refine st_mc rfl rfl rfl rfl z5 (one_own ho4) (one_own hp4) ?_; intro w6 c6 o6 s6; have hp6 := hp5.onto o6 (fun e => by have := hyl _ e; omega); have ho6 := ho5.onto o6 (fun e => by have := hxl _ e; omega); have z6 := z5'.onto o6 (by omega); have r6 := r5.onto o6 (by omega); have hB6 := below_onto (hB4.trans (hB5.mono hB4.size)) o6 (by have := hB4.size; omega); have kh := (cw r6).h; have ks := (cw r6).s; have kp := (cw r6).pc; clear z5 z5' r5 hp5 ho5; rw [hh] at kh; rw [hs] at ks)
      | (refine ld_mc rfl rfl rfl r6 ?_)
      | (go_at_call 31; refine (readAt_impl _ m _ _ ⟨vr, va, rfl, hr.below hB6, ha.below hB6⟩).mono ?_; rintro e w7 ⟨rfl, hb7⟩; rw [hcd]; have hB7 := hB6.trans (hb7.mono hB6.size); have z7 := z6.below hb7; have c7 := c6.below hb7; have q7 := r6.below hb7; have hp7 := hp6.below hb7; have ho7 := ho6.below hb7; clear kh ks kp)
      | (go_at_call 32; refine (sizeOf_impl _ _ (ho.below hB7)).mono ?_; rintro e w8 ⟨rfl, hb8⟩; rw [hsz]; have hB8 := hB7.trans (hb8.mono hB7.size); have z8 := z7.below hb8; have c8 := c7.below hb8; have q8 := q7.below hb8; have hp8 := hp7.below hb8; have ho8 := ho7.below hb8; have l8 := c8.lt)
      | (refine ld_mc rfl rfl rfl c8 ?_)
      | (refine bd_de rfl rfl rfl ?_)
      | (refine al_de rfl rfl ?_; intro w9 d9 hb9; have hB9 := hB8.trans (hb9.mono hB8.size); have z9 := z8.below hb9; have q9 := q8.below hb9; have hp9 := hp8.below hb9; have ho9 := ho8.below hb9; have l9 := d9.lt)
      | (refine st_de rfl rfl rfl rfl d9 (one_own ho9) (one_own hp9) ?_; intro w10 d10 o10 s10; have z10 := z9.onto o10 (by omega); have q10 := q9.onto o10 (by omega); have kp := (cw q10).pc
         have D10 : DSt w2.heap.size w10 w8.heap.size x4 y4 m 0 (-1) := ⟨d10, ho9.onto o10 (fun e => by have := hxl _ e; omega), hp9.onto o10 (fun e => by have := hyl _ e; omega), ha4, fun e => by have := hxl _ e; omega, fun e => by have := hyl _ e; omega, by omega⟩
         have hB10 := below_onto hB9 o10 (by omega))
      | (go_at_call 33; refine (placeBehind_impl _ _ _).mono ?_; rintro e w11 ⟨rfl, rfl⟩)
      | (refine st_dn (m' := { m with pc := addB m.pc 1 }) (n' := 0) (o' := -1) rfl rfl rfl rfl d10 rfl rfl ?_; intro w12 d12 o12 s12; have z12 := z10.onto o12 (by omega); have D12 := D10.set d12 o12 rfl rfl; have hB12 := below_onto hB10 o12 (by omega))
      | (go_at_call 34; refine (operations_impl _).mono ?_; rintro e w13 ⟨rfl, hb13⟩; have z13 := z12.below hb13; have D13 := D12.below hb13; have hB13 := hB12.trans (hb13.mono hB12.size))
      | (refine ix_ops rfl rfl rfl rfl hst ?_)
      | (refine call_dyn rfl rfl rfl hst ?_; refine (hst.does _ _ _ _ _ _ _ D13 (ok_pc hok (addB_ok _ _)) rfl).mono ?_; rintro e w14 ⟨rfl, x14, y14, D14, o14⟩; refine ⟨_, rfl, ?_⟩
         rw [← HO.out, ← HD.out] at D14
         have z14 := z13.onto o14 (by omega)
         have hB14 := below_onto hB13 o14 (by omega)
         have t14 : OpsAt w14 := OpsAt.below ho hB14))
    have hGx : Gx w w2.heap.size w8.heap.size w0.heap.size x14 y14 (m.onw.does m.opnd k).1 0 (m.onw.does m.opnd k).2 false w14 := ⟨D14, t14, hB14, z14⟩
    obtain ⟨M, HM⟩ : ∃ M, Hid (M = (m.onw.does m.opnd k).1) := ⟨_, show _ = _ from rfl⟩
    obtain ⟨O, HQ⟩ : ∃ O, Hid (O = (m.onw.does m.opnd k).2) := ⟨_, show _ = _ from rfl⟩
    rw [← HM.out, ← HQ.out] at hGx
    have hs0 := hB0.size
    have hs1 := hb2.size
    refine region_known (by kernel_rfl) (by kernel_rfl) 6 (by decide) (by kernel_rfl) (Gx w w2.heap.size w8.heap.size w0.heap.size x14 y14 M 0 O)
      [.pointer (some ⟨w8.heap.size, 0, none⟩), M.val x14 y14, .int .i64 (k : Int), .int .i64 (line (k : Int)).2.2, .pointer (some ⟨w8.heap.size, 26, none⟩), .int .i64 O, undef, .int .i64 (line (k : Int)).2.2, .int .i64 O] hGx.drew ?step ?done
    case step =>
      intro L ix o' A W hi hI hL hd
      have hin : ix < 9 := by
        by_cases hl : ix < 9
        · exact hl
        · simp [hl] at hi
      have hg := hI.g
      rcases ix with _ | ix
      · obtain rfl := (Option.some.inj hi).symm
        have e0 : A.eval (.tmp 8) = .pointer (some ⟨w8.heap.size, 0, none⟩) := hI.old 8 (by kernel_rfl)
        refine at_op rfl rfl (val_op (v := .pointer (some ⟨w8.heap.size, 0, none⟩)) ?_ ⟨_, rfl, rfl, by simpa using hg⟩)
        unfold execOp
        simp only [List.getElem_toArray, List.getElem_cons_zero, List.getElem_cons_succ, e0]
        simp [go_sem]
      rcases ix with _ | ix
      · obtain rfl := (Option.some.inj hi).symm
        have e0 : A.eval (.tmp 52) = .pointer (some ⟨w8.heap.size, 0, none⟩) := hI.val hd 0 52 rfl rfl (by kernel_rfl)
        exact at_op rfl rfl (lm_op rfl e0 hg.d.row ⟨_, rfl, rfl, by simpa using hg⟩)
      rcases ix with _ | ix
      · obtain rfl := (Option.some.inj hi).symm
        have e0 : A.eval (.tmp 6) = .int .i64 (k : Int) := hI.old 6 (by kernel_rfl)
        exact at_op rfl rfl (move_op rfl ⟨_, rfl, e0, by simpa using hg⟩)
      rcases ix with _ | ix
      · obtain rfl := (Option.some.inj hi).symm
        have e0 : A.eval (.tmp 54) = .int .i64 (k : Int) := hI.val hd 2 54 rfl rfl (by kernel_rfl)
        refine at_op rfl rfl (call_op rfl Tryz.func13 (by kernel_rfl) (by kernel_rfl) ?_)
        simp only [List.map_cons, List.map_nil, e0]
        refine (costOf_impl _ _ hg.t).mono ?_
        rintro e W1 ⟨rfl, hb⟩
        exact ⟨_, rfl, _, rfl, rfl, by simpa using hg.below hb⟩
      rcases ix with _ | ix
      · obtain rfl := (Option.some.inj hi).symm
        have e0 : A.eval (.tmp 8) = .pointer (some ⟨w8.heap.size, 0, none⟩) := hI.old 8 (by kernel_rfl)
        refine at_op rfl rfl (val_op (v := .pointer (some ⟨w8.heap.size, 26, none⟩)) ?_ ⟨_, rfl, rfl, by simpa using hg⟩)
        unfold execOp
        simp only [List.getElem_toArray, List.getElem_cons_zero, List.getElem_cons_succ, e0]
        simp [go_sem]
      rcases ix with _ | ix
      · obtain rfl := (Option.some.inj hi).symm
        have e0 : A.eval (.tmp 56) = .pointer (some ⟨w8.heap.size, 26, none⟩) := hI.val hd 4 56 rfl rfl (by kernel_rfl)
        exact at_op rfl rfl (load_op rfl Tryz.underlying2 e0 (dw hg.d.row).o ⟨_, rfl, rfl, by simpa using hg⟩)
      rcases ix with _ | ix
      · obtain rfl := (Option.some.inj hi).symm
        have e0 : A.eval (.tmp 2) = .pointer (some ⟨w0.heap.size, 0, none⟩) := hI.old 2 (by kernel_rfl)
        have e1 : A.eval (.tmp 53) = M.val x14 y14 := hI.val hd 1 53 rfl rfl (by kernel_rfl)
        have hres : MRow W w0.heap.size nil64 nil64 Mc.nul := by have := hg.res; simpa [hL] using this
        refine at_op rfl rfl (sm_op rfl e0 e1 hres (one_own hg.d.hx) (one_own hg.d.hy) (fun W1 hr hon => ⟨_, rfl, rfl, ?_⟩))
        have := hg.lay hr hon (by omega) (by omega) h0
        simpa using this
      rcases ix with _ | ix
      · obtain rfl := (Option.some.inj hi).symm
        have e0 : A.eval (.tmp 55) = .int .i64 (line (k : Int)).2.2 := hI.val hd 3 55 rfl rfl (by kernel_rfl)
        exact at_op rfl rfl (assign_op rfl ⟨_, rfl, e0, by simpa using hg⟩)
      rcases ix with _ | ix
      · obtain rfl := (Option.some.inj hi).symm
        have e0 : A.eval (.tmp 57) = .int .i64 O := hI.val hd 5 57 rfl rfl (by kernel_rfl)
        exact at_op rfl rfl (assign_op rfl ⟨_, rfl, e0, by simpa using hg⟩)
      omega
    case done =>
      intro A W hI
      have hg := hI.g
      have hres : MRow W w0.heap.size x14 y14 M := by have := hg.res; simpa using this
      have a2 : A.tmps.getD 2 undef = .pointer (some ⟨w0.heap.size, 0, none⟩) := hI.old 2 (by kernel_rfl)
      have a3 : A.tmps.getD 3 undef = .int .i64 (line (k : Int)).2.2 := hI.last 7 3 rfl
      have a4 : A.tmps.getD 4 undef = .int .i64 O := hI.last 8 4 rfl
      go_wp2_with fail
      refine ret_mc3 rfl a2 hres hI.defers a3 a4 ?_
      rw [← HM.out, ← HQ.out]
      exact ⟨Ans.mk hg.d.hx hg.d.hy hg.d.ap (by omega), hg.bel⟩
set_option maxRecDepth 100000 in
set_option maxHeartbeats 4000000 in
theorem executed_two (v : Value) (m : Mc) (w : World) (hm : MSl w v m) (ho : OpsAt w) (hok : m.ok = true) (hi : (m.h || m.s) = false) (k : Nat) (hk : k < 31) (hcode : m.code = (k : Int)) (hsz : (line (k : Int)).2.1 = 2) :
    Calls Tryz.prog 7 #[v] w fun e w' => Ans w.heap.size w' e ((m.onw.does m.opnd k).1, (line (k : Int)).2.2, (m.onw.does m.opnd k).2) ∧ Below w.heap.size w w' := by
  obtain ⟨vr, va, hv, hr, ha⟩ := hm
  have hR := Mc.right hok
  have hR1 := hR.rom
  have hR2 : Hid (m.ram.length = 64) := hR.ram
  have hh : m.h = false := by simp at hi; exact hi.1
  have hs : m.s = false := by simp at hi; exact hi.2
  have hcd : m.readAt m.pc = (k : Int) := (readAt_ok hok (okm.1 hok).pc).trans hcode
  have HO : Hid (m.onw = { m with pc := addB m.pc 2 }) := show m.onw = { m with pc := addB m.pc 2 } by
    unfold Mc.onw Mc.size'; rw [hcode, hsz]
    have h2 : bok 2 = true := rfl
    simp [addB, (okm.1 hok).pc, h2]
  have HN : Hid (m.readAt (addB m.pc 1) = m.opnd) := show m.readAt (addB m.pc 1) = m.opnd by rw [readAt_ok hok (addB_ok _ _), add_one (okm.1 hok).pc]; rfl
  have h0 := ho.lt
  obtain ⟨f, fn, hst⟩ := ops_at k hk
  clear hcode
  · go_enter Tryz.func7, Tryz.ntmps7
    go_wp2_with (first
      | (refine box_m rfl rfl hv ?_; intro w0 r0 hB0)
      | (refine al_mc rfl rfl ?_; intro w1 z1 hB1; have r1 := r0.below hB1; have hB2 := hB0.trans (hB1.mono hB0.size); have l0 := r0.lt; have lz := z1.lt)
      | (refine ld_mc rfl rfl rfl r1 ?_)
      | (go_at_call 14; refine (machineOk_impl _ m _ ⟨vr, va, rfl, hr.below hB2, ha.below hB2⟩).mono ?_; rintro e w2 ⟨rfl, hb2⟩; rw [hok]; have hB3 := hB2.trans (hb2.mono hB2.size); have z2 := z1.below hb2; replace r1 := r1.below hb2))
    go_at_call 30
    refine (machineCopy_impl _ m _ ⟨vr, va, rfl, hr.below hB3, ha.below hB3⟩ (by omega) (by have := hR2.out; omega) (by omega) (by have := hR2.out; omega)).mono ?_
    rintro e w4 ⟨v4, rfl, ⟨x4, y4, rfl, ho4, hp4, ha4⟩, hb4⟩
    have hB4 := hB3.trans (hb4.mono hB3.size)
    have z4 := z2.below hb4
    have s34 := z2.lt
    have r4 := r1.below hb4
    have lr4 := r4.lt
    have lz4 := z4.lt
    have sB3 := hB3.size
    have sb4 := hb4.size
    have hxl := ho4.lt
    have hyl := hp4.lt
    clear z1 z2 r1
    go_wp2_with (first
      | (refine al_mc rfl rfl ?_; intro w5 z5 hB5; have lz5 := z5.lt; have r5 := r4.below hB5; have z5' := z4.below hB5; have hp5 := hp4.below hB5; have ho5 := ho4.below hB5)
      | (refine st_mc rfl rfl rfl rfl z5 (one_own ho4) (one_own hp4) ?_; intro w6 c6 o6 s6; have hp6 := hp5.onto o6 (fun e => by have := hyl _ e; omega); have ho6 := ho5.onto o6 (fun e => by have := hxl _ e; omega); have z6 := z5'.onto o6 (by omega); have r6 := r5.onto o6 (by omega); have hB6 := below_onto (hB4.trans (hB5.mono hB4.size)) o6 (by have := hB4.size; omega); have kh := (cw r6).h; have ks := (cw r6).s; have kp := (cw r6).pc; clear z5 z5' r5 hp5 ho5; rw [hh] at kh; rw [hs] at ks)
      | (refine ld_mc rfl rfl rfl r6 ?_)
      | (go_at_call 31; refine (readAt_impl _ m _ _ ⟨vr, va, rfl, hr.below hB6, ha.below hB6⟩).mono ?_; rintro e w7 ⟨rfl, hb7⟩; rw [hcd]; have hB7 := hB6.trans (hb7.mono hB6.size); have z7 := z6.below hb7; have c7 := c6.below hb7; have q7 := r6.below hb7; have hp7 := hp6.below hb7; have ho7 := ho6.below hb7; clear kh ks kp)
      | (go_at_call 32; refine (sizeOf_impl _ _ (ho.below hB7)).mono ?_; rintro e w8 ⟨rfl, hb8⟩; rw [hsz]; have hB8 := hB7.trans (hb8.mono hB7.size); have z8 := z7.below hb8; have c8 := c7.below hb8; have q8 := q7.below hb8; have hp8 := hp7.below hb8; have ho8 := ho7.below hb8; have l8 := c8.lt)
      | (refine ld_mc rfl rfl rfl c8 ?_)
      | (refine bd_de rfl rfl rfl ?_)
      | (refine al_de rfl rfl ?_; intro w9 d9 hb9; have hB9 := hB8.trans (hb9.mono hB8.size); have z9 := z8.below hb9; have q9 := q8.below hb9; have hp9 := hp8.below hb9; have ho9 := ho8.below hb9; have l9 := d9.lt)
      | (refine st_de rfl rfl rfl rfl d9 (one_own ho9) (one_own hp9) ?_; intro w10 d10 o10 s10; have z10 := z9.onto o10 (by omega); have q10 := q9.onto o10 (by omega); have kp := (cw q10).pc
         have D10 : DSt w2.heap.size w10 w8.heap.size x4 y4 m 0 (-1) := ⟨d10, ho9.onto o10 (fun e => by have := hxl _ e; omega), hp9.onto o10 (fun e => by have := hyl _ e; omega), ha4, fun e => by have := hxl _ e; omega, fun e => by have := hyl _ e; omega, by omega⟩
         have hB10 := below_onto hB9 o10 (by omega)))
    obtain ⟨N, HNN⟩ : ∃ N, Hid (N = m.opnd) := ⟨_, show _ = _ from rfl⟩
    refine region_last (by kernel_rfl) (by kernel_rfl) 6 (by decide) (by kernel_rfl) (by kernel_rfl) (fun W => DSt w2.heap.size W w8.heap.size x4 y4 m 0 (-1) ∧ MRow W w.heap.size vr va m ∧ MRow W w0.heap.size nil64 nil64 Mc.nul ∧ Below w.heap.size w W) (fun W => DSt w2.heap.size W w8.heap.size x4 y4 m m.opnd (-1) ∧ MRow W w.heap.size vr va m ∧ MRow W w0.heap.size nil64 nil64 Mc.nul ∧ Below w.heap.size w W)
      [m.val vr va, .pointer (some ⟨w.heap.size, 4, none⟩), .int .i64 m.pc, .int .i64 (addB m.pc 1), .int .i64 m.opnd, .pointer (some ⟨w8.heap.size, 25, none⟩), undef] ⟨D10.drew, q10.drewN 1, z10.drewN 1, below_drewN hB10 1⟩ ?step ?last ?done
    case step =>
      intro L ix o' A W hne hi hI hg hd
      have hin : ix < 7 := by
        by_cases hl : ix < 7
        · exact hl
        · simp [hl] at hi
      rcases ix with _ | ix
      · obtain rfl := (Option.some.inj hi).symm
        have e0 : A.eval (.tmp 1) = .pointer (some ⟨w.heap.size, 0, none⟩) := hI.old 1 (by kernel_rfl)
        exact at_op rfl rfl (wp_load_row _ _ rfl _ e0 _ _ _ _ hg.2.1.row Tryz.underlying30 rfl info_mc ⟨_, rfl, rfl, hg⟩)
      rcases ix with _ | ix
      · obtain rfl := (Option.some.inj hi).symm
        have e0 : A.eval (.tmp 1) = .pointer (some ⟨w.heap.size, 0, none⟩) := hI.old 1 (by kernel_rfl)
        refine at_op rfl rfl (val_op (v := .pointer (some ⟨w.heap.size, 4, none⟩)) ?_ ⟨_, rfl, rfl, hg⟩)
        unfold execOp
        simp only [List.getElem_toArray, List.getElem_cons_zero, List.getElem_cons_succ, e0]
        simp [go_sem]
      rcases ix with _ | ix
      · obtain rfl := (Option.some.inj hi).symm
        have e0 : A.eval (.tmp 37) = .pointer (some ⟨w.heap.size, 4, none⟩) := hI.val hd 1 37 rfl rfl (by kernel_rfl)
        exact at_op rfl rfl (load_op rfl Tryz.underlying2 e0 (cw hg.2.1).pc ⟨_, rfl, rfl, hg⟩)
      rcases ix with _ | ix
      · obtain rfl := (Option.some.inj hi).symm
        have e0 : A.eval (.tmp 38) = .int .i64 m.pc := hI.val hd 2 38 rfl rfl (by kernel_rfl)
        refine at_op rfl rfl (call_op rfl Tryz.func33 (by kernel_rfl) (by kernel_rfl) ?_)
        simp only [List.map_cons, List.map_nil, e0]
        refine (placeBehind_impl _ _ _).mono ?_
        rintro e W1 ⟨rfl, rfl⟩
        exact ⟨_, rfl, _, rfl, rfl, hg⟩
      rcases ix with _ | ix
      · obtain rfl := (Option.some.inj hi).symm
        have e0 : A.eval (.tmp 36) = m.val vr va := hI.val hd 0 36 rfl rfl (by kernel_rfl)
        have e1 : A.eval (.tmp 39) = .int .i64 (addB m.pc 1) := hI.val hd 3 39 rfl rfl (by kernel_rfl)
        refine at_op rfl rfl (call_op rfl Tryz.func31 (by kernel_rfl) (by kernel_rfl) ?_)
        simp only [List.map_cons, List.map_nil, e0, e1]
        refine (readAt_impl _ m _ _ ⟨vr, va, rfl, hr.below hg.2.2.2, ha.below hg.2.2.2⟩).mono ?_
        rintro e W1 ⟨rfl, hb⟩
        rw [HN.out]
        exact ⟨_, rfl, _, rfl, rfl, hg.1.below hb, hg.2.1.below hb, hg.2.2.1.below hb, hg.2.2.2.trans (hb.mono hg.2.2.2.size)⟩
      rcases ix with _ | ix
      · obtain rfl := (Option.some.inj hi).symm
        have e0 : A.eval (.tmp 8) = .pointer (some ⟨w8.heap.size, 0, none⟩) := hI.old 8 (by kernel_rfl)
        refine at_op rfl rfl (val_op (v := .pointer (some ⟨w8.heap.size, 25, none⟩)) ?_ ⟨_, rfl, rfl, hg⟩)
        unfold execOp
        simp only [List.getElem_toArray, List.getElem_cons_zero, List.getElem_cons_succ, e0]
        simp [go_sem]
      rcases ix with _ | ix
      · exact absurd rfl hne
      omega
    case last =>
      intro L o' A W hi hI hg hd
      obtain rfl := (Option.some.inj hi).symm
      have e0 : A.eval (.tmp 41) = .pointer (some ⟨w8.heap.size, 25, none⟩) := hI.val hd 5 41 rfl rfl (by kernel_rfl)
      have e1 : A.eval (.tmp 40) = .int .i64 m.opnd := hI.val hd 4 40 rfl rfl (by kernel_rfl)
      exact at_op rfl rfl (sd_op (m' := m) (n' := m.opnd) (o' := -1) rfl e0 e1 hg.1.row rfl rfl (fun W1 hr1 hon => ⟨_, rfl, rfl, hg.1.set hr1 hon rfl rfl, hg.2.1.onto hon (by omega), hg.2.2.1.onto hon (by omega), below_onto hg.2.2.2 hon (by omega)⟩))
    case done =>
    intro A W hI hE
    have t36 : A.tmps.getD 36 undef = m.val vr va := hI.last 0 36 rfl
    have t37 : A.tmps.getD 37 undef = .pointer (some ⟨w.heap.size, 4, none⟩) := hI.last 1 37 rfl
    have t38 : A.tmps.getD 38 undef = .int .i64 m.pc := hI.last 2 38 rfl
    have t39 : A.tmps.getD 39 undef = .int .i64 (addB m.pc 1) := hI.last 3 39 rfl
    have t40 : A.tmps.getD 40 undef = .int .i64 m.opnd := hI.last 4 40 rfl
    have t41 : A.tmps.getD 41 undef = .pointer (some ⟨w8.heap.size, 25, none⟩) := hI.last 5 41 rfl
    have hA := hI.frame [36, 37, 38, 39, 40, 41] (by kernel_rfl)
    rw [hA]
    clear hA hI
    simp only [putAll, List.foldl_cons, List.foldl_nil, t36, t37, t38, t39, t40, t41]
    clear t36 t37 t38 t39 t40 t41
    obtain ⟨D11, q11, z11, hB11⟩ := hE
    have d11 := D11.row
    have kp' := (cw q11).pc
    rw [← HNN.out] at D11 d11
    rw [← HNN.out]
    go_wp2_with (first
      | (go_at_call 33; refine (placeBehind_impl _ _ _).mono ?_; rintro e w11 ⟨rfl, rfl⟩)
      | (refine st_dn (m' := { m with pc := addB m.pc 2 }) (n' := N) (o' := -1) rfl rfl rfl rfl d11 rfl rfl ?_; intro w12 d12 o12 s12; have z12 := z11.onto o12 (by omega); have D12 := D11.set d12 o12 rfl rfl; have hB12 := below_onto hB11 o12 (by omega))
      | (go_at_call 34; refine (operations_impl _).mono ?_; rintro e w13 ⟨rfl, hb13⟩; have z13 := z12.below hb13; have D13 := D12.below hb13; have hB13 := hB12.trans (hb13.mono hB12.size))
      | (refine ix_ops rfl rfl rfl rfl hst ?_)
      | (refine call_dyn rfl rfl rfl hst ?_; refine (hst.does _ _ _ _ _ _ _ D13 (ok_pc hok (addB_ok _ _)) (by rw [HNN.out]; exact opnd_ok hok)).mono ?_; rintro e w14 ⟨rfl, x14, y14, D14, o14⟩; refine ⟨_, rfl, ?_⟩
         rw [← HO.out, HNN.out] at D14
         have z14 := z13.onto o14 (by omega)
         have hB14 := below_onto hB13 o14 (by omega)
         have t14 : OpsAt w14 := OpsAt.below ho hB14))
    have hGx : Gx w w2.heap.size w8.heap.size w0.heap.size x14 y14 (m.onw.does m.opnd k).1 m.opnd (m.onw.does m.opnd k).2 false w14 := ⟨D14, t14, hB14, z14⟩
    obtain ⟨M, HM⟩ : ∃ M, Hid (M = (m.onw.does m.opnd k).1) := ⟨_, show _ = _ from rfl⟩
    obtain ⟨O, HQ⟩ : ∃ O, Hid (O = (m.onw.does m.opnd k).2) := ⟨_, show _ = _ from rfl⟩
    rw [← HM.out, ← HQ.out] at hGx
    have hs0 := hB0.size
    have hs1 := hb2.size
    refine region_known (by kernel_rfl) (by kernel_rfl) 6 (by decide) (by kernel_rfl) (Gx w w2.heap.size w8.heap.size w0.heap.size x14 y14 M m.opnd O)
      [.pointer (some ⟨w8.heap.size, 0, none⟩), M.val x14 y14, .int .i64 (k : Int), .int .i64 (line (k : Int)).2.2, .pointer (some ⟨w8.heap.size, 26, none⟩), .int .i64 O, undef, .int .i64 (line (k : Int)).2.2, .int .i64 O] hGx.drew ?step ?done
    case step =>
      intro L ix o' A W hi hI hL hd
      have hin : ix < 9 := by
        by_cases hl : ix < 9
        · exact hl
        · simp [hl] at hi
      have hg := hI.g
      rcases ix with _ | ix
      · obtain rfl := (Option.some.inj hi).symm
        have e0 : A.eval (.tmp 8) = .pointer (some ⟨w8.heap.size, 0, none⟩) := hI.old 8 (by kernel_rfl)
        refine at_op rfl rfl (val_op (v := .pointer (some ⟨w8.heap.size, 0, none⟩)) ?_ ⟨_, rfl, rfl, by simpa using hg⟩)
        unfold execOp
        simp only [List.getElem_toArray, List.getElem_cons_zero, List.getElem_cons_succ, e0]
        simp [go_sem]
      rcases ix with _ | ix
      · obtain rfl := (Option.some.inj hi).symm
        have e0 : A.eval (.tmp 52) = .pointer (some ⟨w8.heap.size, 0, none⟩) := hI.val hd 0 52 rfl rfl (by kernel_rfl)
        exact at_op rfl rfl (lm_op rfl e0 hg.d.row ⟨_, rfl, rfl, by simpa using hg⟩)
      rcases ix with _ | ix
      · obtain rfl := (Option.some.inj hi).symm
        have e0 : A.eval (.tmp 6) = .int .i64 (k : Int) := hI.old 6 (by kernel_rfl)
        exact at_op rfl rfl (move_op rfl ⟨_, rfl, e0, by simpa using hg⟩)
      rcases ix with _ | ix
      · obtain rfl := (Option.some.inj hi).symm
        have e0 : A.eval (.tmp 54) = .int .i64 (k : Int) := hI.val hd 2 54 rfl rfl (by kernel_rfl)
        refine at_op rfl rfl (call_op rfl Tryz.func13 (by kernel_rfl) (by kernel_rfl) ?_)
        simp only [List.map_cons, List.map_nil, e0]
        refine (costOf_impl _ _ hg.t).mono ?_
        rintro e W1 ⟨rfl, hb⟩
        exact ⟨_, rfl, _, rfl, rfl, by simpa using hg.below hb⟩
      rcases ix with _ | ix
      · obtain rfl := (Option.some.inj hi).symm
        have e0 : A.eval (.tmp 8) = .pointer (some ⟨w8.heap.size, 0, none⟩) := hI.old 8 (by kernel_rfl)
        refine at_op rfl rfl (val_op (v := .pointer (some ⟨w8.heap.size, 26, none⟩)) ?_ ⟨_, rfl, rfl, by simpa using hg⟩)
        unfold execOp
        simp only [List.getElem_toArray, List.getElem_cons_zero, List.getElem_cons_succ, e0]
        simp [go_sem]
      rcases ix with _ | ix
      · obtain rfl := (Option.some.inj hi).symm
        have e0 : A.eval (.tmp 56) = .pointer (some ⟨w8.heap.size, 26, none⟩) := hI.val hd 4 56 rfl rfl (by kernel_rfl)
        exact at_op rfl rfl (load_op rfl Tryz.underlying2 e0 (dw hg.d.row).o ⟨_, rfl, rfl, by simpa using hg⟩)
      rcases ix with _ | ix
      · obtain rfl := (Option.some.inj hi).symm
        have e0 : A.eval (.tmp 2) = .pointer (some ⟨w0.heap.size, 0, none⟩) := hI.old 2 (by kernel_rfl)
        have e1 : A.eval (.tmp 53) = M.val x14 y14 := hI.val hd 1 53 rfl rfl (by kernel_rfl)
        have hres : MRow W w0.heap.size nil64 nil64 Mc.nul := by have := hg.res; simpa [hL] using this
        refine at_op rfl rfl (sm_op rfl e0 e1 hres (one_own hg.d.hx) (one_own hg.d.hy) (fun W1 hr hon => ⟨_, rfl, rfl, ?_⟩))
        have := hg.lay hr hon (by omega) (by omega) h0
        simpa using this
      rcases ix with _ | ix
      · obtain rfl := (Option.some.inj hi).symm
        have e0 : A.eval (.tmp 55) = .int .i64 (line (k : Int)).2.2 := hI.val hd 3 55 rfl rfl (by kernel_rfl)
        exact at_op rfl rfl (assign_op rfl ⟨_, rfl, e0, by simpa using hg⟩)
      rcases ix with _ | ix
      · obtain rfl := (Option.some.inj hi).symm
        have e0 : A.eval (.tmp 57) = .int .i64 O := hI.val hd 5 57 rfl rfl (by kernel_rfl)
        exact at_op rfl rfl (assign_op rfl ⟨_, rfl, e0, by simpa using hg⟩)
      omega
    case done =>
      intro A W hI
      have hg := hI.g
      have hres : MRow W w0.heap.size x14 y14 M := by have := hg.res; simpa using this
      have a2 : A.tmps.getD 2 undef = .pointer (some ⟨w0.heap.size, 0, none⟩) := hI.old 2 (by kernel_rfl)
      have a3 : A.tmps.getD 3 undef = .int .i64 (line (k : Int)).2.2 := hI.last 7 3 rfl
      have a4 : A.tmps.getD 4 undef = .int .i64 O := hI.last 8 4 rfl
      go_wp2_with fail
      refine ret_mc3 rfl a2 hres hI.defers a3 a4 ?_
      rw [← HM.out, ← HQ.out]
      exact ⟨Ans.mk hg.d.hx hg.d.hy hg.d.ap (by omega), hg.bel⟩
theorem executed_impl (v : Value) (m : Mc) (w : World) (hm : MSl w v m) (ho : OpsAt w) :
    Calls Tryz.prog 7 #[v] w fun e w' => Ans w.heap.size w' e m.execd ∧ Below w.heap.size w w' := by
  unfold Mc.execd
  cases hok : m.ok
  · exact executed_no v m w hm hok
  rw [if_pos rfl]
  unfold Mc.exec
  cases hi : (m.h || m.s)
  · rw [if_neg (by decide)]
    by_cases hz : m.size' = 0
    · rw [if_pos hz]; exact executed_stuck v m w hm ho hok hi hz
    · rw [if_neg hz]
      have hc : 0 ≤ m.code ∧ m.code < 31 := by
        by_cases h : 0 ≤ m.code ∧ m.code < 31
        · exact h
        · exact absurd (by unfold Mc.size'; rw [size_no _ h]) hz
      obtain ⟨k, hk⟩ : ∃ k : Nat, m.code = (k : Int) := ⟨m.code.toNat, by omega⟩
      have hk31 : k < 31 := by omega
      rw [hk, Int.toNat_natCast]
      rcases size_in k hk31 with h1 | h1
      · exact executed_one v m w hm ho hok hi k hk31 hk h1
      · exact executed_two v m w hm ho hok hi k hk31 hk h1
  · rw [if_pos rfl]; exact executed_idle v m w hm hok hi
end Go.Proofs.YtocofjimkfffeaaGreatDoor.Mem
