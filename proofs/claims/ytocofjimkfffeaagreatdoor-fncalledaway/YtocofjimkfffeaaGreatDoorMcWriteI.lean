/-
  What the program writes at a place. The program's WrittenAt.
-/
import Derived.Test.YtocofjimkfffeaaGreatDoorMcReadI
import Derived.Test.YtocofjimkfffeaaGreatDoorMcCopyI
namespace Go.Proofs.YtocofjimkfffeaaGreatDoor.Mem
open Go.ChangeShapes Go.WideShapes Go.RowKit Base Num Slc Rw Tmr Srl Rom RomOf Mp
set_option linter.unusedVariables false
set_option linter.unusedSimpArgs false

/-- An order at the cable's place. -/
def Sr.ordered (s : Sr) (n now : Int) : Sr := if 127 < n then s.start (n % 2 == 1) now else ⟨s.d, false, false, 0, 0, false⟩
theorem cableOrdered_impl (s : Sr) (n now : Int) (w : World) (hn : 0 ≤ n ∧ n ≤ 255) :
    Calls Tryz.prog 154 #[s.val, .int .i64 n, .int .i64 now] w fun e w' => e = .returned (Sr.ordered s n now).val ∧ Below w.heap.size w w' := by
  have h2 := rem_pos' (a := n) (r := 2) hn.1
  by_cases hb : 127 < n
  · have e : Sr.ordered s n now = s.start (n % 2 == 1) now := by simp [Sr.ordered, hb]
    have hb' : ¬ n < 128 := by omega
    rw [e, Sr.eta s]
    go_enter Tryz.func154, Tryz.ntmps154
    go_wp2_with (first
      | (go_at_call 155; refine (serialStart_impl s _ _ _).mono ?_; rw [Sr.eta]; rintro e w1 ⟨rfl, hb1⟩; obtain ⟨r1, r2, hB⟩ := box2 hb1)
      | (refine st_sr rfl rfl rfl rfl r2 rfl ?_; intro w2 r3 ho2 hs2))
    refine ret_row rfl rfl r3 und_sr rfl info_sr rfl ?_
    exact ⟨rfl, below_onto hB ho2 (by omega)⟩
  · have e : Sr.ordered s n now = ⟨s.d, false, false, 0, 0, false⟩ := by simp [Sr.ordered, hb]
    have hb' : n < 128 := by omega
    rw [e, Sr.eta s]
    go_enter Tryz.func154, Tryz.ntmps154
    go_wp2
    refine ret_row rfl rfl (Row.new1 (w := w.alloc _) (n := w.heap.size + 1) (by simp) #[.int .i64 s.d, .bool false, .bool false, .int .i64 0, .int .i64 0, .bool false] 28) und_sr rfl info_sr rfl ?_
    exact ⟨rfl, ((Below.refl _ _).alloc (Nat.le_refl _) _).alloc (by simp) _⟩
/-- What is taken back from the map. -/
def Mc.withPorts (m : Mc) (f : Int → Option Int) : Mc :=
  { m with p := (match f 241 with | some n => Sr.ordered { m.p with d := (f 240).getD 0 } n m.k | none => { m.p with d := (f 240).getD 0 }), t := ⟨m.t.c, (f 243).getD 0, (f 244).getD 0, (f 245).getD 0 % 8⟩, fl := (f 246).getD 0 % 8, ms := (f 247).getD 0 % 8 }
set_option maxHeartbeats 2000000 in
theorem withPorts_impl (v : Value) (m : Mc) (b : Nat) (f : Int → Option Int) (w : World) (base : Nat) (hm : MOwn base w v m) (hM : PortsAt w b f) (hf : ∀ x, 0 ≤ (f x).getD 0 ∧ (f x).getD 0 ≤ 255) (hbase : base ≤ w.heap.size) :
    Calls Tryz.prog 146 #[v, .map (some b)] w fun e w' => ∃ v', e = .returned v' ∧ MOwn base w' v' (m.withPorts f) ∧ Below w.heap.size w w' := by
  obtain ⟨vr, va, hv, hr, ha, hap⟩ := hm
  have o1' := one_own hr
  have o2' := one_own ha
  have h5 := rem_pos' (a := (f 245).getD 0) (r := 8) (hf 245).1
  have h6 := rem_pos' (a := (f 246).getD 0) (r := 8) (hf 246).1
  have h7 := rem_pos' (a := (f 247).getD 0) (r := 8) (hf 247).1
  have b5 := hf 245
  have b6 := hf 246
  have b7 := hf 247
  have bl := hM.lt
  cases h1 : f 241 with
  | none =>
    have e : m.withPorts f = { m with p := { m.p with d := (f 240).getD 0 }, t := ⟨m.t.c, (f 243).getD 0, (f 244).getD 0, (f 245).getD 0 % 8⟩, fl := (f 246).getD 0 % 8, ms := (f 247).getD 0 % 8 } := by simp [Mc.withPorts, h1]
    rw [e]
    clear e
    go_enter Tryz.func146, Tryz.ntmps146
    go_wp2_with (first
      | (refine box_m rfl rfl hv ?_; intro w0 r0 hB0)
      | (refine al_mc rfl rfl ?_; intro w1 z1 hB1; have r1 := r0.below hB1; have hB2 := hB0.trans (hB1.mono hB0.size); have hP1 := hM.below hB2; have l0 := r0.lt; have l1 := r1.lt; have lz := z1.lt)
      | (refine lk_at rfl rfl rfl rfl (by assumption) ?_)
      | (refine st_num (m' := { m with p := { m.p with d := (f 240).getD 0 } }) (k := 18) rfl rfl rfl rfl r1 rfl rfl ?_; intro w2 r2 o2 s2; have hP2 := hP1.onto o2 (by omega))
      | (refine st_num (m' := { m with p := { m.p with d := (f 240).getD 0 }, t := { m.t with v := (f 243).getD 0 } }) (k := 15) rfl rfl rfl rfl r2 rfl rfl ?_; intro w3 r3 o3 s3; have hP3 := hP2.onto o3 (by omega))
      | (refine st_num (m' := { m with p := { m.p with d := (f 240).getD 0 }, t := { m.t with v := (f 243).getD 0, s := (f 244).getD 0 } }) (k := 16) rfl rfl rfl rfl r3 rfl rfl ?_; intro w4 r4 o4 s4; have hP4 := hP3.onto o4 (by omega))
      | (refine st_num (m' := { m with p := { m.p with d := (f 240).getD 0 }, t := ⟨m.t.c, (f 243).getD 0, (f 244).getD 0, (f 245).getD 0 % 8⟩ }) (k := 17) rfl rfl rfl rfl r4 rfl rfl ?_; intro w5 r5 o5 s5; have hP5 := hP4.onto o5 (by omega))
      | (refine st_num (m' := { m with p := { m.p with d := (f 240).getD 0 }, t := ⟨m.t.c, (f 243).getD 0, (f 244).getD 0, (f 245).getD 0 % 8⟩, fl := (f 246).getD 0 % 8 }) (k := 11) rfl rfl rfl rfl r5 rfl rfl ?_; intro w6 r6 o6 s6; have hP6 := hP5.onto o6 (by omega))
      | (refine st_num (m' := { m with p := { m.p with d := (f 240).getD 0 }, t := ⟨m.t.c, (f 243).getD 0, (f 244).getD 0, (f 245).getD 0 % 8⟩, fl := (f 246).getD 0 % 8, ms := (f 247).getD 0 % 8 }) (k := 12) rfl rfl rfl rfl r6 rfl rfl ?_; intro w7 r7 o7 s7; have hP7 := hP6.onto o7 (by omega))
      | (refine lk_ok rfl rfl rfl rfl hP7 ?_; rw [h1])
      | (refine ld_mc rfl rfl rfl r7 ?_)
      | (refine st_mc rfl rfl rfl rfl (((((((z1.onto o2 (by omega)).onto o3 (by omega)).onto o4 (by omega)).onto o5 (by omega)).onto o6 (by omega)).onto o7 (by omega))) o1' o2' ?_; intro wz rz oz sz))
    refine ret_mc rfl rfl rz rfl ?_
    have hBa := below_onto (below_onto (below_onto (below_onto (below_onto (below_onto hB2 o2 (Nat.le_refl _)) o3 (Nat.le_refl _)) o4 (Nat.le_refl _)) o5 (Nat.le_refl _)) o6 (Nat.le_refl _)) o7 (Nat.le_refl _)
    have hBb := hBa
    have hBz := below_onto hBb oz (by omega)
    exact ⟨_, rfl, ⟨vr, va, rfl, hr.below hBz, ha.below hBz, hap⟩, hBz⟩
  | some n =>
    have e : m.withPorts f = { m with p := Sr.ordered { m.p with d := (f 240).getD 0 } n m.k, t := ⟨m.t.c, (f 243).getD 0, (f 244).getD 0, (f 245).getD 0 % 8⟩, fl := (f 246).getD 0 % 8, ms := (f 247).getD 0 % 8 } := by simp [Mc.withPorts, h1]
    rw [e]
    clear e
    have hn : 0 ≤ n ∧ n ≤ 255 := by have := hf 241; rw [h1] at this; exact this
    go_enter Tryz.func146, Tryz.ntmps146
    go_wp2_with (first
      | (refine box_m rfl rfl hv ?_; intro w0 r0 hB0)
      | (refine al_mc rfl rfl ?_; intro w1 z1 hB1; have r1 := r0.below hB1; have hB2 := hB0.trans (hB1.mono hB0.size); have hP1 := hM.below hB2; have l0 := r0.lt; have l1 := r1.lt; have lz := z1.lt)
      | (refine lk_at rfl rfl rfl rfl (by assumption) ?_)
      | (refine st_num (m' := { m with p := { m.p with d := (f 240).getD 0 } }) (k := 18) rfl rfl rfl rfl r1 rfl rfl ?_; intro w2 r2 o2 s2; have hP2 := hP1.onto o2 (by omega))
      | (refine st_num (m' := { m with p := { m.p with d := (f 240).getD 0 }, t := { m.t with v := (f 243).getD 0 } }) (k := 15) rfl rfl rfl rfl r2 rfl rfl ?_; intro w3 r3 o3 s3; have hP3 := hP2.onto o3 (by omega))
      | (refine st_num (m' := { m with p := { m.p with d := (f 240).getD 0 }, t := { m.t with v := (f 243).getD 0, s := (f 244).getD 0 } }) (k := 16) rfl rfl rfl rfl r3 rfl rfl ?_; intro w4 r4 o4 s4; have hP4 := hP3.onto o4 (by omega))
      | (refine st_num (m' := { m with p := { m.p with d := (f 240).getD 0 }, t := ⟨m.t.c, (f 243).getD 0, (f 244).getD 0, (f 245).getD 0 % 8⟩ }) (k := 17) rfl rfl rfl rfl r4 rfl rfl ?_; intro w5 r5 o5 s5; have hP5 := hP4.onto o5 (by omega))
      | (refine st_num (m' := { m with p := { m.p with d := (f 240).getD 0 }, t := ⟨m.t.c, (f 243).getD 0, (f 244).getD 0, (f 245).getD 0 % 8⟩, fl := (f 246).getD 0 % 8 }) (k := 11) rfl rfl rfl rfl r5 rfl rfl ?_; intro w6 r6 o6 s6; have hP6 := hP5.onto o6 (by omega))
      | (refine st_num (m' := { m with p := { m.p with d := (f 240).getD 0 }, t := ⟨m.t.c, (f 243).getD 0, (f 244).getD 0, (f 245).getD 0 % 8⟩, fl := (f 246).getD 0 % 8, ms := (f 247).getD 0 % 8 }) (k := 12) rfl rfl rfl rfl r6 rfl rfl ?_; intro w7 r7 o7 s7; have hP7 := hP6.onto o7 (by omega))
      | (refine lk_ok rfl rfl rfl rfl hP7 ?_; rw [h1]; have kk := (cw r7).k)
      | (refine ld_ser rfl rfl rfl r7 ?_)
      | (go_at_call 154; refine (cableOrdered_impl _ n _ _ hn).mono ?_; rintro e w8 ⟨rfl, hb8⟩; have r8 := r7.below hb8)
      | (refine st_port' rfl rfl rfl rfl r8 ?_; intro w9 r9 o9 s9)
      | (refine ld_mc rfl rfl rfl r9 ?_)
      | (refine st_mc rfl rfl rfl rfl ((((((((z1.onto o2 (by omega)).onto o3 (by omega)).onto o4 (by omega)).onto o5 (by omega)).onto o6 (by omega)).onto o7 (by omega)).below hb8).onto o9 (by omega)) o1' o2' ?_; intro wz rz oz sz))
    refine ret_mc rfl rfl rz rfl ?_
    have hBa := below_onto (below_onto (below_onto (below_onto (below_onto (below_onto hB2 o2 (Nat.le_refl _)) o3 (Nat.le_refl _)) o4 (Nat.le_refl _)) o5 (Nat.le_refl _)) o6 (Nat.le_refl _)) o7 (Nat.le_refl _)
    have hBb := below_onto (hBa.trans (hb8.mono hBa.size)) o9 (Nat.le_refl _)
    have hBz := below_onto hBb oz (by omega)
    exact ⟨_, rfl, ⟨vr, va, rfl, hr.below hBz, ha.below hBz, hap⟩, hBz⟩
end Go.Proofs.YtocofjimkfffeaaGreatDoor.Mem
namespace Go.Proofs.YtocofjimkfffeaaGreatDoor.Mem
open Go.ChangeShapes Go.WideShapes Go.RowKit Base Num Slc Rw Tmr Srl Rom RomOf Mp
set_option linter.unusedVariables false
set_option linter.unusedSimpArgs false

/-- What the map holds ahead of its being taken back. -/
def Mc.laid (m : Mc) (q n : Int) (k : Int) : Option Int := if k = q then some n else if k = 241 then none else m.port k
theorem Mc.ok_more {m : Mc} (h : m.ok = true) : (0 ≤ m.fl ∧ m.fl ≤ 7) ∧ (0 ≤ m.ms ∧ m.ms ≤ 7) ∧ (0 ≤ m.ky ∧ m.ky ≤ 255) ∧ (0 ≤ m.t.v ∧ m.t.v ≤ 255) ∧ (0 ≤ m.t.s ∧ m.t.s ≤ 255) ∧ (0 ≤ m.t.m ∧ m.t.m ≤ 7) ∧ (0 ≤ m.p.d ∧ m.p.d ≤ 255) := by
  obtain ⟨h1, h2⟩ := Mc.ok_parts h
  obtain ⟨_, _, h3, h4, _⟩ := Mc.ok_rom h
  obtain ⟨_, h5, h6, h7⟩ := Tm.ok_true h3
  simp only [Mc.ok, Bool.and_eq_true, decide_eq_true_eq, beq_iff_eq] at h
  obtain ⟨⟨⟨⟨⟨⟨⟨⟨⟨⟨⟨⟨_, _⟩, _⟩, _⟩, _⟩, _⟩, _⟩, _⟩, _⟩, hk⟩, _⟩, _⟩, _⟩ := h
  exact ⟨h1, h2, bok_true hk, h5, h6, h7, (Sr.ok_true h4).1⟩
theorem laid_in {m : Mc} (hok : m.ok = true) {q n : Int} (hn : 0 ≤ n ∧ n ≤ 255) (x : Int) : 0 ≤ (m.laid q n x).getD 0 ∧ (m.laid q n x).getD 0 ≤ 255 := by
  obtain ⟨h1, h2, h3, h4, h5, h6, h7⟩ := Mc.ok_more hok
  have hR := (Mc.right hok).tim
  unfold Mc.laid
  by_cases hx : x = q
  · simp [hx]; omega
  by_cases e1 : x = 241
  · simp [hx, e1]
    split <;> simp <;> omega
  simp only [hx, e1, if_false, Mc.port]
  by_cases e0 : x = 240
  · simp [e0]; omega
  by_cases e2 : x = 242
  · simp [e2]; omega
  by_cases e3 : x = 243
  · simp [e3]; omega
  by_cases e4 : x = 244
  · simp [e4]; omega
  by_cases e5 : x = 245
  · simp [e5]; omega
  by_cases e6 : x = 246
  · simp [e6]; omega
  by_cases e7 : x = 247
  · simp [e7]; omega
  by_cases e8 : x = 248
  · simp [e8]; omega
  simp [e0, e2, e3, e4, e5, e6, e7, e8]
theorem laid_write {m : Mc} (hok : m.ok = true) {q n : Int} (hin : ¬ (128 ≤ q ∧ q < 192)) (hn : 0 ≤ n ∧ n ≤ 255) : m.withPorts (m.laid q n) = m.write q n := by
  obtain ⟨h1, h2, h3, h4, h5, h6, h7⟩ := Mc.ok_more hok
  have e1 : m.fl % 8 = m.fl := by omega
  have e2 : m.ms % 8 = m.ms := by omega
  have e3 : m.t.m % 8 = m.t.m := by omega
  simp only [Mc.write, hin, if_false]
  by_cases c0 : q = 240
  · subst c0; simp [Mc.withPorts, Mc.laid, Mc.port, e1, e2, e3]
  by_cases c1 : q = 241
  · subst c1; simp [Mc.withPorts, Mc.laid, Mc.port, e1, e2, e3, Sr.ordered]
  by_cases c3 : q = 243
  · subst c3; simp [Mc.withPorts, Mc.laid, Mc.port, e1, e2, e3]
  by_cases c4 : q = 244
  · subst c4; simp [Mc.withPorts, Mc.laid, Mc.port, e1, e2, e3]
  by_cases c5 : q = 245
  · subst c5; simp [Mc.withPorts, Mc.laid, Mc.port, e1, e2, e3]
  by_cases c6 : q = 246
  · subst c6; simp [Mc.withPorts, Mc.laid, Mc.port, e1, e2, e3]
  by_cases c7 : q = 247
  · subst c7; simp [Mc.withPorts, Mc.laid, Mc.port, e1, e2, e3]
  have d0 : ¬ 240 = q := fun e => c0 e.symm
  have d1 : ¬ 241 = q := fun e => c1 e.symm
  have d3 : ¬ 243 = q := fun e => c3 e.symm
  have d4 : ¬ 244 = q := fun e => c4 e.symm
  have d5 : ¬ 245 = q := fun e => c5 e.symm
  have d6 : ¬ 246 = q := fun e => c6 e.symm
  have d7 : ¬ 247 = q := fun e => c7 e.symm
  simp [Mc.withPorts, Mc.laid, Mc.port, e1, e2, e3, c0, c1, c3, c4, c5, c6, c7, d0, d1, d3, d4, d5, d6, d7]
theorem mdel_sub : ∀ (L : List (Int × Int)) (q : Int), List.Sublist (mdel L q) L
  | [], q => List.Sublist.refl _
  | (k, v) :: r, q => by
    by_cases h : q = k
    · simp [mdel, h]
    · simp only [mdel, h, if_false]
      exact List.Sublist.cons_cons _ (mdel_sub r q)
theorem mdel_one (L : List (Int × Int)) (q : Int) (h : (L.map Prod.fst).Nodup) : ((mdel L q).map Prod.fst).Nodup := h.sublist ((mdel_sub L q).map _)
section
variable {ops : Array Oper} {rest : List Oper} {o : Oper} {a : Act} {w : World} {Q : Exit → Act → World → Prop} {x y z : Operand} {b : Nat} {q n : Int} {f : Int → Option Int}
theorem del_at (hgd : o.guard = none) (ho : o.op = .call { callee := .builtin .delete, args := #[x, y], argTypes := #[85, 2] }) (hx : a.eval x = .map (some b)) (hy : a.eval y = .int .i64 q) (hM : PortsAt w b f)
    (h : ∀ v w', PortsAt w' b (fun k => if k = q then none else f k) → Onto b w w' → wpList Tryz.prog ops Q rest (a.put o.dst v) w') : wpList Tryz.prog ops Q (o :: rest) a w :=
  wpList_plain hgd fun _ hK => by
    obtain ⟨L, h1, h2, h3⟩ := hM
    obtain ⟨w', hr, m1, m2, m3⟩ := run_del (P := Tryz.prog) (ty := o.type) und_map Tryz.underlying2 h1 q
    have hnd : (mdel L q).map Prod.fst |>.Nodup := mdel_one L q h2
    unfold Oper.wp execOp
    simp [ho, resolve, invoke, builtin, hx, hy, hr, Result.andThen]
    exact hK _ _ (h _ _ ⟨_, m1, hnd, fun k => by rw [Reg.mget_mdel L q k h2, h3]⟩ m2)
end
set_option maxHeartbeats 1000000 in
theorem writtenAt_impl (v : Value) (m : Mc) (q n : Int) (w : World) (hm : MSl w v m) :
    Calls Tryz.prog 133 #[v, .int .i64 q, .int .i64 n] w fun e w' => ∃ v', e = .returned v' ∧ MOwn w.heap.size w' v' (m.writtenAt q n) ∧ Below w.heap.size w w' := by
  obtain ⟨vr, va, hv, hr, ha⟩ := hm
  cases hok : m.ok
  · have e : m.writtenAt q n = Mc.nul := by simp [Mc.writtenAt, hok]
    rw [e]
    go_enter Tryz.func133, Tryz.ntmps133
    go_wp2_with (first
      | (refine box_m rfl rfl hv ?_; intro w0 r0 hB0)
      | (refine al_mc rfl rfl ?_; intro w1 z1 hB1; have r1 := r0.below hB1; have hB2 := hB0.trans (hB1.mono hB0.size); have l0 := r0.lt; have lz := z1.lt)
      | (refine ld_mc rfl rfl rfl r1 ?_)
      | (go_at_call 14; refine (machineOk_impl _ m _ ⟨vr, va, rfl, hr.below hB2, ha.below hB2⟩).mono ?_; rintro e w2 ⟨rfl, hb2⟩; rw [hok]; have hB3 := hB2.trans (hb2.mono hB2.size); have z2 := z1.below hb2; replace r1 := r1.below hb2)
      | (refine bd_nul rfl rfl ?_)
      | (refine st_mc rfl rfl rfl rfl z2 rfl rfl ?_; intro w6 r6 o6 s6))
    refine ret_mc rfl rfl r6 rfl ?_
    exact ⟨_, rfl, nul_own _ _, below_onto hB3 o6 (by omega)⟩
  cases hq : bok q
  · have e : m.writtenAt q n = Mc.nul := by simp [Mc.writtenAt, hq]
    rw [e]
    go_enter Tryz.func133, Tryz.ntmps133
    go_wp2_with (first
      | (refine box_m rfl rfl hv ?_; intro w0 r0 hB0)
      | (refine al_mc rfl rfl ?_; intro w1 z1 hB1; have r1 := r0.below hB1; have hB2 := hB0.trans (hB1.mono hB0.size); have l0 := r0.lt; have lz := z1.lt)
      | (refine ld_mc rfl rfl rfl r1 ?_)
      | (go_at_call 14; refine (machineOk_impl _ m _ ⟨vr, va, rfl, hr.below hB2, ha.below hB2⟩).mono ?_; rintro e w2 ⟨rfl, hb2⟩; rw [hok]; have hB3 := hB2.trans (hb2.mono hB2.size); have z2 := z1.below hb2; replace r1 := r1.below hb2)
      | (go_at_call 48; refine (byteOk_impl _ _).mono ?_; rintro e w3 ⟨rfl, rfl⟩; rw [hq])
      | (refine bd_nul rfl rfl ?_)
      | (refine st_mc rfl rfl rfl rfl z2 rfl rfl ?_; intro w6 r6 o6 s6))
    refine ret_mc rfl rfl r6 rfl ?_
    exact ⟨_, rfl, nul_own _ _, below_onto hB3 o6 (by omega)⟩
  cases hn : bok n
  · have e : m.writtenAt q n = Mc.nul := by simp [Mc.writtenAt, hn]
    rw [e]
    go_enter Tryz.func133, Tryz.ntmps133
    go_wp2_with (first
      | (refine box_m rfl rfl hv ?_; intro w0 r0 hB0)
      | (refine al_mc rfl rfl ?_; intro w1 z1 hB1; have r1 := r0.below hB1; have hB2 := hB0.trans (hB1.mono hB0.size); have l0 := r0.lt; have lz := z1.lt)
      | (refine ld_mc rfl rfl rfl r1 ?_)
      | (go_at_call 14; refine (machineOk_impl _ m _ ⟨vr, va, rfl, hr.below hB2, ha.below hB2⟩).mono ?_; rintro e w2 ⟨rfl, hb2⟩; rw [hok]; have hB3 := hB2.trans (hb2.mono hB2.size); have z2 := z1.below hb2; replace r1 := r1.below hb2)
      | (go_at_call 48; refine (byteOk_impl _ _).mono ?_; rintro e w3 ⟨rfl, rfl⟩; first | rw [hq] | rw [hn])
      | (refine bd_nul rfl rfl ?_)
      | (refine st_mc rfl rfl rfl rfl z2 rfl rfl ?_; intro w6 r6 o6 s6))
    refine ret_mc rfl rfl r6 rfl ?_
    exact ⟨_, rfl, nul_own _ _, below_onto hB3 o6 (by omega)⟩
  have e : m.writtenAt q n = m.write q n := by simp [Mc.writtenAt, hok, hq, hn]
  rw [e]
  clear e
  have hR := Mc.right hok
  have hq' := bok_true hq
  have hn' := bok_true hn
  have hR1 := hR.rom
  have hR3 := hR.tim
  have hR2 : Hid (m.ram.length = 64) := hR.ram
  by_cases hin : 128 ≤ q ∧ q < 192
  · have e : m.write q n = { m with ram := m.ram.set (q - 128).toNat n } := by simp [Mc.write, hin]
    rw [e]
    obtain ⟨k, rfl⟩ : ∃ k : Nat, q = 128 + (k : Int) := ⟨(q - 128).toNat, by omega⟩
    have h2 : (128 + (k : Int) - 128).toNat = k := by omega
    rw [h2]
    have hs : 128 + (k : Int) - 128 = (k : Int) := by omega
    have hi : (decide (128 ≤ 128 + (k : Int)) && decide (128 + (k : Int) < 192)) = true := by simp; omega
    have hkl : k < m.ram.length := by have := hR2.out; omega
    have hkl' : (k : Int) < (m.ram.length : Int) := by omega
    clear e h2
    go_enter Tryz.func133, Tryz.ntmps133
    go_wp2_with (first
      | (refine box_m rfl rfl hv ?_; intro w0 r0 hB0)
      | (refine al_mc rfl rfl ?_; intro w1 z1 hB1; have r1 := r0.below hB1; have hB2 := hB0.trans (hB1.mono hB0.size); have l0 := r0.lt; have lz := z1.lt)
      | (refine ld_mc rfl rfl rfl r1 ?_)
      | (go_at_call 14; refine (machineOk_impl _ m _ ⟨vr, va, rfl, hr.below hB2, ha.below hB2⟩).mono ?_; rintro e w2 ⟨rfl, hb2⟩; rw [hok]; have hB3 := hB2.trans (hb2.mono hB2.size); have z2 := z1.below hb2; replace r1 := r1.below hb2)
      | (go_at_call 48; refine (byteOk_impl _ _).mono ?_; rintro e w3 ⟨rfl, rfl⟩; first | rw [hq] | rw [hn]))
    go_at_call 30
    refine (machineCopy_impl _ m _ ⟨vr, va, rfl, hr.below hB3, ha.below hB3⟩ (by omega) (by have := hR2.out; omega) (by omega) (by have := hR2.out; omega)).mono ?_
    rintro e w4 ⟨v4, rfl, ⟨x4, y4, rfl, ho4, hp4, ha4⟩, hb4⟩
    have hB4 := hB3.trans (hb4.mono hB3.size)
    have z4 := z2.below hb4
    have s34 := z2.lt
    have r4 := r1.below hb4
    have lr4 := r4.lt
    have lz4 := z4.lt
    have sB3 := hB3.size
    have sb4 := hb4.size
    have hxl := ho4.lt
    have hyl := hp4.lt
    clear z1 z2 r1
    obtain ⟨g, cap, rfl, hg1, hg2, hg3, hg4⟩ := hp4.block (by omega)
    unfold maxLen at hg4
    go_wp2_with (first
      | (refine al_mc rfl rfl ?_; intro w5 z5 hB5; have lz5 := z5.lt; have r5 := r4.below hB5; have z5' := z4.below hB5; have hp5 := hp4.below hB5; have ho5 := ho4.below hB5)
      | (refine st_mc rfl rfl rfl rfl z5 (one_own ho4) (one_own hp4) ?_; intro w6 r6 o6 s6; have k6 := (cw r6).va; have hp6 := hp5.onto o6 (fun e => by have := hyl _ e; omega); have ho6 := ho5.onto o6 (fun e => by have := hxl _ e; omega); have hc6 := hp6.cellAt (j := k) hkl; have hf6 := hp6.free k; have z6 := z5'.onto o6 (by omega))
      | (go_at_call 65; refine (inRam_impl _ _).mono ?_; rintro e w3 ⟨rfl, rfl⟩; rw [hi])
      | (refine ld_mc rfl rfl rfl (r6.setOther ⟨g, k, none⟩ (.int .i64 n) (show w4.heap.size ≠ g by omega)) ?_)
      | (refine st_mc rfl rfl rfl rfl (z6.setOther ⟨g, k, none⟩ (.int .i64 n) (show w0.heap.size ≠ g by omega)) (one_own ho4) rfl ?_; intro w7 r7 o7 s7))
    refine ret_mc rfl rfl r7 rfl ?_
    have hst := hp6.store k n
    have ho7 := ho6.grown hst.2 (fun j hj e => by cases hj; exact ha4 g e rfl)
    have hB5' := hB4.trans (hB5.mono hB4.size)
    have hB6 := below_onto hB5' o6 (by have := hB4.size; omega)
    have hB7 := hB6.setCell (p := ⟨g, k, none⟩) (by have := hyl g rfl; show w.heap.size ≤ g; omega) (.int .i64 n)
    refine ⟨_, rfl, ⟨x4, _, rfl, ?_, ?_, ha4⟩, below_onto hB7 o7 (by omega)⟩
    · exact (ho7.onto o7 (fun e => by have := hxl _ e; omega)).mono (by omega)
    · exact (hst.1.onto o7 (fun e => by simp [Value.ownBlock] at e; omega)).mono (by omega)
  · have hi : (decide (128 ≤ q) && decide (q < 192)) = false := by simp; omega
    rw [← laid_write hok hin hn']
    go_enter Tryz.func133, Tryz.ntmps133
    go_wp2_with (first
      | (refine box_m rfl rfl hv ?_; intro w0 r0 hB0)
      | (refine al_mc rfl rfl ?_; intro w1 z1 hB1; have r1 := r0.below hB1; have hB2 := hB0.trans (hB1.mono hB0.size); have l0 := r0.lt; have lz := z1.lt)
      | (refine ld_mc rfl rfl rfl r1 ?_)
      | (go_at_call 14; refine (machineOk_impl _ m _ ⟨vr, va, rfl, hr.below hB2, ha.below hB2⟩).mono ?_; rintro e w2 ⟨rfl, hb2⟩; rw [hok]; have hB3 := hB2.trans (hb2.mono hB2.size); have z2 := z1.below hb2; replace r1 := r1.below hb2)
      | (go_at_call 48; refine (byteOk_impl _ _).mono ?_; rintro e w3 ⟨rfl, rfl⟩; first | rw [hq] | rw [hn]))
    go_at_call 30
    refine (machineCopy_impl _ m _ ⟨vr, va, rfl, hr.below hB3, ha.below hB3⟩ (by omega) (by have := hR2.out; omega) (by omega) (by have := hR2.out; omega)).mono ?_
    rintro e w4 ⟨v4, rfl, ⟨x4, y4, rfl, ho4, hp4, ha4⟩, hb4⟩
    have hB4 := hB3.trans (hb4.mono hB3.size)
    have z4 := z2.below hb4
    have s34 := z2.lt
    have r4 := r1.below hb4
    have lr4 := r4.lt
    have lz4 := z4.lt
    have sB3 := hB3.size
    have sb4 := hb4.size
    have hxl := ho4.lt
    have hyl := hp4.lt
    clear z1 z2 r1
    go_wp2_with (first
      | (refine al_mc rfl rfl ?_; intro w5 z5 hB5; have lz5 := z5.lt; have r5 := r4.below hB5; have z5' := z4.below hB5; have hp5 := hp4.below hB5; have ho5 := ho4.below hB5; have hB5' := hB4.trans (hB5.mono hB4.size))
      | (refine st_mc rfl rfl rfl rfl z5 (one_own ho4) (one_own hp4) ?_; intro w6 r6 o6 s6; have hp6 := hp5.onto o6 (fun e => by have := hyl _ e; omega); have ho6 := ho5.onto o6 (fun e => by have := hxl _ e; omega); have z6 := z5'.onto o6 (by omega); have q6 := r5.onto o6 (by omega); have hB6 := below_onto hB5' o6 (by omega))
      | (go_at_call 65; refine (inRam_impl _ _).mono ?_; rintro e w3 ⟨rfl, rfl⟩; rw [hi])
      | (refine ld_mc rfl rfl rfl q6 ?_)
      | (go_at_call 66; refine (portsOf_impl _ m _ ⟨_, _, rfl, hr.below hB6, ha.below hB6⟩ hR3.1 hR3.2).mono ?_; rintro e w8 ⟨b8, rfl, hb8, hM8, hbe8⟩; have hB8 := hB6.trans (hbe8.mono hB6.size); have r8 := r6.below hbe8; have z8 := z6.below hbe8; have hp8 := hp6.below hbe8; have ho8 := ho6.below hbe8; have l8 := hM8.lt; have hxl6 := ho6.lt; have hyl6 := hp6.lt; have lr6 := r6.lt; have lz6 := z6.lt)
      | (refine del_at rfl rfl rfl rfl hM8 ?_; intro vd w9 hM9 o9; have r9 := r8.onto o9 (by omega); have z9 := z8.onto o9 (by omega); have hp9 := hp8.onto o9 (fun e => by have := hyl6 _ e; omega); have ho9 := ho8.onto o9 (fun e => by have := hxl6 _ e; omega); have hB9 := below_onto hB8 o9 (by have := hB6.size; omega))
      | (refine put_at rfl rfl rfl rfl rfl hM9 ?_; intro w10 hM10 o10; have r10 := r9.onto o10 (by omega); have z10 := z9.onto o10 (by omega); have hp10 := hp9.onto o10 (fun e => by have := hyl6 _ e; omega); have ho10 := ho9.onto o10 (fun e => by have := hxl6 _ e; omega); have hB10 := below_onto hB9 o10 (by have := hB6.size; omega))
      | (refine ld_mc rfl rfl rfl r10 ?_)
      | (go_at_call 146; refine (withPorts_impl _ m b8 (m.laid q n) _ _ ⟨x4, y4, rfl, ho10, hp10, ha4⟩ hM10 (laid_in hok hn') (by have := hB8.size; have := o9.size; have := o10.size; have := hbe8.size; omega)).mono ?_; rintro e w11 ⟨v11, rfl, ⟨x11, y11, rfl, ho11, hp11, ha11⟩, hb11⟩; have hB11 := hB10.trans (hb11.mono hB10.size); have z11 := z10.below hb11)
      | (refine st_mc rfl rfl rfl rfl z11 (one_own ho11) (one_own hp11) ?_; intro w7 r7 o7 s7))
    refine ret_mc rfl rfl r7 rfl ?_
    refine ⟨_, rfl, ⟨x11, y11, rfl, ?_, ?_, ha11⟩, below_onto hB11 o7 (by omega)⟩
    · exact (ho11.onto o7 (fun e => by have := (ho11.lt _ e).1; omega)).mono (by omega)
    · exact (hp11.onto o7 (fun e => by have := (hp11.lt _ e).1; omega)).mono (by omega)
end Go.Proofs.YtocofjimkfffeaaGreatDoor.Mem
