/-
  What FnExactStepOf leans on: part 7.
-/
import Derived.Lib.SmallJoins
import Derived.ChangeSlices
import Derived.ProofKit
import Derived.OpenShut
import Derived.ChangeVars
import Derived.ChangeArms
import Derived.Lib.LaidTab
import Derived.Deep.DeepHandedRow
import Derived.Deep.Slices
import Derived.Test.YtghmkacamabndaaGreatDoorSteP1
import Derived.Test.YtghmkacamabndaaGreatDoorSteP2
import Derived.Test.YtghmkacamabndaaGreatDoorSteP3
import Derived.Test.YtghmkacamabndaaGreatDoorSteP4
import Derived.Test.YtghmkacamabndaaGreatDoorSteP5
import Derived.Test.YtghmkacamabndaaGreatDoorSteP6
set_option linter.unusedVariables false
set_option linter.unusedSimpArgs false
set_option maxRecDepth 20000
namespace Go.Proofs.YtghmkacamabndaaGreatDoor.Mem
open Go.ChangeShapes Go.WideShapes Go.RowKit Base Num Slc Slf Rw Tmr Srl Rom Opl Reg

def St.met (s : St) (m : M3) (fin : Int) : St := if m.k = 0 then s.beats fin else { s.arrive m with u := s.u + 1 }
def St.nextAt (s : St) : Int := if s.m.p.x = 0 then 1000000101 else s.m.p.x
def St.next (s : St) (l : List M3) : M3 := if s.u < l.length ∧ (M3.at' l s.u.toNat).t ≤ s.nextAt then M3.at' l s.u.toNat else ⟨s.nextAt, 0, 0⟩
theorem arrive_used (s : St) (z : Int) (m : M3) : ({ s with u := z } : St).arrive m = { s.arrive m with u := z } := by
  unfold St.arrive
  split
  · have e : ∀ p, ({ s with u := z } : St).port p = { s.port p with u := z } := fun _ => rfl
    show (if (s.m.p.beat m.v).2.2 = true then _ else _) = _
    split <;> rfl
  split
  · show (if (s.m.p.answer m.v m.t).2 = true then _ else _) = _
    split <;> rfl
  split <;> rfl
theorem ret_unitR {fn : Func} {R : Ending → World → Prop} {a : Act} {w : World} (h : fn.results = #[]) (hde : a.defers = []) (hR : R (.returned (.tuple #[])) w) : bodyPost Tryz.prog fn R .ret a w :=
  bodyPost_ret (by simp [results, h]) hde hR
section
variable {w : World} {base g : Nat} {x y vo ve vi : Value} {s : St} {co fin : Int}
set_option maxHeartbeats 1000000 in
theorem meet_impl (m : M3) (ht : 0 ≤ m.t ∧ m.t ≤ 1000000100 ∨ m.k = 0) (hu : 0 ≤ s.u ∧ s.u ≤ 10000) (h : GRow w g x y vo ve vi s co fin) (hs : So base w x y vo ve s) (hl : s.o.length ≤ 10000) (hl2 : s.e.length ≤ 10000) :
    Calls Tryz.prog 53 #[.pointer (some ⟨g, 0, none⟩), m.val] w fun e w' => e = .returned (.tuple #[]) ∧ Gd base g w w' x y vi co fin (s.met m fin) := by
  have hgl := h.lt
  obtain ⟨vm, hvm⟩ : ∃ vm, vm = m.val := ⟨_, rfl⟩
  rw [← hvm]
  by_cases k0 : m.k = 0
  · have HQ : Hid (s.met m fin = s.beats fin) := show _ = _ by unfold St.met; rw [if_pos k0]
    go_enter Tryz.func53, Tryz.ntmps53
    go_wp2_with (first
      | (refine box_m3 rfl rfl hvm ?_; intro w0 m0 hb0; have h0 := h.below hb0; have s0 := hs.below hb0; have km : w0.cell? ⟨w.heap.size, 1, none⟩ = some (.int .i64 m.k) := m0.cell 1; rw [k0] at km)
      | (go_at_call 116; refine (sendBeat_impl h0 s0 hl).mono ?_; rintro e w1 ⟨rfl, vo1, ve1, r1, s1, M1⟩))
    refine ret_unitR rfl rfl ?_
    rw [HQ.out]
    exact ⟨rfl, vo1, ve1, r1, s1, (Mid.of hb0).trans M1⟩
  have b0 : (m.k == 0) = false := by simpa using k0
  have HQ : Hid (s.met m fin = ({ s with u := s.u + 1 } : St).arrive m) := show _ = _ by unfold St.met; rw [if_neg k0]; exact (arrive_used s (s.u + 1) m).symm
  have htt : 0 ≤ m.t ∧ m.t ≤ 1000000100 := ht.resolve_right k0
  obtain ⟨S1, hS1⟩ : ∃ S1 : St, { s with u := s.u + 1 } = S1 := ⟨_, rfl⟩
  have e1 : S1.o = s.o ∧ S1.e = s.e ∧ S1.m = s.m := by rw [← hS1]; exact ⟨rfl, rfl, rfl⟩
  have hl' : S1.o.length ≤ 10000 := by rw [e1.1]; exact hl
  have hl2' : S1.e.length ≤ 10000 := by rw [e1.2.1]; exact hl2
  rw [hS1] at HQ
  have HS1 : Hid ((gcells x y vo ve vi s co fin).setIfInBounds 27 (.int .i64 (s.u + 1)) = gcells x y vo ve vi S1 co fin) := show _ = _ by rw [← hS1]; rfl
  have HS2 : Hid (S1.m.rom = s.m.rom ∧ S1.m.ram = s.m.ram ∧ S1.o = s.o ∧ S1.e = s.e) := ⟨by rw [e1.2.2], by rw [e1.2.2], e1.1, e1.2.1⟩
  clear ht hS1 e1 hl hl2
  by_cases k1 : m.k = 1
  · have HK : Hid (m.k = 1) := k1
    go_enter Tryz.func53, Tryz.ntmps53
    go_wp2_with (first
      | (refine box_m3 rfl rfl hvm ?_; intro w0 m0 hb0; have h0 := h.below hb0; have s0 := hs.below hb0; have km : w0.cell? ⟨w.heap.size, 1, none⟩ = some (.int .i64 m.k) := m0.cell 1; have ku := (gc h0).u; have lm := m0.lt; rw [k1] at km)
      | (refine st_gn (s' := S1) rfl rfl rfl rfl h0 rfl HS1.out ?_; rintro w1 r1 o1 -; have s1 := (s0.row o1 h0 plain_g (by decide)).as (s' := S1) HS2.out.1 HS2.out.2.1 HS2.out.2.2.1 HS2.out.2.2.2; have m1 := m0.onto o1 (by omega); have km1 : w1.cell? ⟨w.heap.size, 1, none⟩ = some (.int .i64 m.k) := m1.cell 1; have kv1 : w1.cell? ⟨w.heap.size, 2, none⟩ = some (.int .i64 m.v) := m1.cell 2; rw [k1] at km1; clear km ku)
      | (refine ld_m3 rfl rfl rfl m1 ?_)
      | (go_at_call 117; refine (meetBeat_impl m HK.out htt r1 s1 hl' hl2').mono ?_; rintro e w2 ⟨rfl, vo2, ve2, r2, s2, M2⟩))
    refine ret_unit rfl rfl ?_
    rw [HQ.out]
    exact ⟨rfl, vo2, ve2, r2, s2, ((Mid.of hb0).trans (Mid.onto o1)).trans M2⟩
  by_cases k2 : m.k = 2
  · have HK : Hid (m.k = 2) := k2
    go_enter Tryz.func53, Tryz.ntmps53
    go_wp2_with (first
      | (refine box_m3 rfl rfl hvm ?_; intro w0 m0 hb0; have h0 := h.below hb0; have s0 := hs.below hb0; have km : w0.cell? ⟨w.heap.size, 1, none⟩ = some (.int .i64 m.k) := m0.cell 1; have ku := (gc h0).u; have lm := m0.lt; rw [k2] at km)
      | (refine st_gn (s' := S1) rfl rfl rfl rfl h0 rfl HS1.out ?_; rintro w1 r1 o1 -; have s1 := (s0.row o1 h0 plain_g (by decide)).as (s' := S1) HS2.out.1 HS2.out.2.1 HS2.out.2.2.1 HS2.out.2.2.2; have m1 := m0.onto o1 (by omega); have km1 : w1.cell? ⟨w.heap.size, 1, none⟩ = some (.int .i64 m.k) := m1.cell 1; have kv1 : w1.cell? ⟨w.heap.size, 2, none⟩ = some (.int .i64 m.v) := m1.cell 2; rw [k2] at km1; clear km ku)
      | (refine ld_m3 rfl rfl rfl m1 ?_)
      | (go_at_call 118; refine (meetAnswer_impl m HK.out r1 s1 hl2').mono ?_; rintro e w2 ⟨rfl, vo2, ve2, r2, s2, M2⟩))
    refine ret_unit rfl rfl ?_
    rw [HQ.out]
    exact ⟨rfl, vo2, ve2, r2, s2, ((Mid.of hb0).trans (Mid.onto o1)).trans M2⟩
  have b1 : (m.k == 1) = false := by simpa using k1
  have b2 : (m.k == 2) = false := by simpa using k2
  by_cases k3 : m.k = 3
  · have HA : Hid (S1.arrive m = ({ S1 with m := { S1.m with ky := m.v } } : St).flag 4) := show _ = _ by unfold St.arrive; rw [if_neg k1, if_neg k2, if_pos k3]; rfl
    go_enter Tryz.func53, Tryz.ntmps53
    go_wp2_with (first
      | (refine box_m3 rfl rfl hvm ?_; intro w0 m0 hb0; have h0 := h.below hb0; have s0 := hs.below hb0; have km : w0.cell? ⟨w.heap.size, 1, none⟩ = some (.int .i64 m.k) := m0.cell 1; have ku := (gc h0).u; have lm := m0.lt; rw [k3] at km)
      | (refine st_gn (s' := S1) rfl rfl rfl rfl h0 rfl HS1.out ?_; rintro w1 r1 o1 -; have s1 := (s0.row o1 h0 plain_g (by decide)).as (s' := S1) HS2.out.1 HS2.out.2.1 HS2.out.2.2.1 HS2.out.2.2.2; have m1 := m0.onto o1 (by omega); have km1 : w1.cell? ⟨w.heap.size, 1, none⟩ = some (.int .i64 m.k) := m1.cell 1; have kv1 : w1.cell? ⟨w.heap.size, 2, none⟩ = some (.int .i64 m.v) := m1.cell 2; rw [k3] at km1; clear km ku)
      | (refine st_gn (s' := ({ S1 with m := { S1.m with ky := m.v } } : St)) rfl rfl rfl rfl r1 rfl rfl ?_; rintro w2 r2 o2 -; have s2 := (s1.row o2 r1 plain_g (by decide)).as (s' := ({ S1 with m := { S1.m with ky := m.v } } : St)) rfl rfl rfl rfl)
      | (go_at_call 119; refine (raise_impl 2 4 (by simp) (by decide) r2).mono ?_; rintro e w3 ⟨rfl, r3, o3⟩; have s3 := (s2.row o3 r2 plain_g (by decide)).as (s' := (({ S1 with m := { S1.m with ky := m.v } } : St)).flag 4) rfl rfl rfl rfl))
    refine ret_unit rfl rfl ?_
    rw [HQ.out, HA.out]
    exact ⟨rfl, vo, ve, r3, s3, (((Mid.of hb0).trans (Mid.onto o1)).trans (Mid.onto o2)).trans (Mid.onto o3)⟩
  have HA : Hid (S1.arrive m = S1) := show _ = _ by unfold St.arrive; rw [if_neg k1, if_neg k2, if_neg k3]
  have b3 : (m.k == 3) = false := by simpa using k3
  go_enter Tryz.func53, Tryz.ntmps53
  go_wp2_with (first
    | (refine box_m3 rfl rfl hvm ?_; intro w0 m0 hb0; have h0 := h.below hb0; have s0 := hs.below hb0; have km : w0.cell? ⟨w.heap.size, 1, none⟩ = some (.int .i64 m.k) := m0.cell 1; have ku := (gc h0).u; have lm := m0.lt)
    | (refine st_gn (s' := S1) rfl rfl rfl rfl h0 rfl HS1.out ?_; rintro w1 r1 o1 -; have s1 := (s0.row o1 h0 plain_g (by decide)).as (s' := S1) HS2.out.1 HS2.out.2.1 HS2.out.2.2.1 HS2.out.2.2.2; have m1 := m0.onto o1 (by omega); have km1 : w1.cell? ⟨w.heap.size, 1, none⟩ = some (.int .i64 m.k) := m1.cell 1; have kv1 : w1.cell? ⟨w.heap.size, 2, none⟩ = some (.int .i64 m.v) := m1.cell 2; clear km ku))
  refine ret_unit rfl rfl ?_
  rw [HQ.out, HA.out]
  exact ⟨rfl, vo, ve, r1, s1, (Mid.of hb0).trans (Mid.onto o1)⟩
end
section
variable {op : Oper} {a : Act} {w : World} {K : Act → World → Prop} {Q : Exit → Act → World → Prop} {p : Operand} {ops : Array Oper} {rest : List Oper}
theorem ldv_op {ty : TypeId} {d : TypeDesc} {ad : Addr} {v : Value} (ho : op.op = .load ty p) (hu : Tryz.prog.underlying ty = some d) (hd : d.isRow = false) (hx : a.eval p = .pointer (some ad)) (hc : w.cell? ad = some v) (h : K (a.put op.dst v) w) : op.wp Tryz.prog a w K Q := by
  have e : (loadVar ty ad).run Tryz.prog w = .ok v w := by
    cases d <;> first | (simp [TypeDesc.isRow] at hd; done) | simp [loadVar, isAgg, run_underlying hu, run_load, hc]
  unfold Oper.wp execOp
  simp only [ho, hx, Instr.loadAt, Instr.sureAddr, Sem.run_bind, Sem.run_pure, Result.andThen_ok, e]
  exact h
theorem al_m3 (hgd : op.guard = none) (ho : op.op = .alloc 40)
    (h : ∀ w', M3Row w' w.heap.size M3.nul → Below w.heap.size w w' → wpList Tryz.prog ops Q rest (a.put op.dst (.pointer (some ⟨w.heap.size, 0, none⟩))) w') : wpList Tryz.prog ops Q (op :: rest) a w :=
  wpList_plain hgd fun _ hK => by
    have e : (execOp a.eval op).run Tryz.prog w = .ok (.value (.pointer (some ⟨w.heap.size, 0, none⟩))) (w.alloc (.cells #[.int .i64 0, .int .i64 0, .int .i64 0] 40)) := by
      unfold execOp
      rw [ho]
      kernel_rfl
    unfold Oper.wp
    rw [e]
    exact hK _ _ (h _ (Row.new _ _ _) ((Below.refl _ _).alloc (Nat.le_refl _) _))
theorem st_m3 {g : Nat} {q : Operand} {m m0 : M3} (hgd : op.guard = none) (ho : op.op = .store 40 p q) (hx : a.eval p = .pointer (some ⟨g, 0, none⟩)) (hy : a.eval q = m.val) (hr : M3Row w g m0)
    (h : ∀ w', M3Row w' g m → Onto g w w' → wpList Tryz.prog ops Q rest (a.put op.dst undef) w') : wpList Tryz.prog ops Q (op :: rest) a w :=
  st_row hgd _ p q ho hx hy hr info_m3 rfl (by simp [Value.oneCell']) (fun w' h1 h2 _ => h w' h1 h2)
theorem st_m3t {g : Nat} {q : Operand} {m : M3} {z : Int} (hgd : op.guard = none) (ho : op.op = .store 2 p q) (hx : a.eval p = .pointer (some ⟨g, 0, none⟩)) (hy : a.eval q = .int .i64 z) (hr : M3Row w g m)
    (h : ∀ w', M3Row w' g ⟨z, m.k, m.v⟩ → Onto g w w' → wpList Tryz.prog ops Q rest (a.put op.dst undef) w') : wpList Tryz.prog ops Q (op :: rest) a w :=
  st_in (vs := [.int .i64 z]) (cs' := #[.int .i64 z, .int .i64 m.k, .int .i64 m.v]) hgd ho hx hy hr rfl info_i rfl rfl rfl (fun w' h1 h2 _ => h w' h1 h2)
theorem built_m2 (z : Int) : Tryz.prog.built 40 [(0, .int .i64 z), (1, .int .i64 0)] = some #[.int .i64 z, .int .i64 0, .int .i64 0] := by kernel_rfl
theorem bd_m2 {z : Int} (hgd : op.guard = none) (ho : op.op = .build 40 #[(0, p), (1, .const (.int .i64 0))]) (hp : a.eval p = .int .i64 z) (h : wpList Tryz.prog ops Q rest (a.put op.dst (M3.val ⟨z, 0, 0⟩)) w) : wpList Tryz.prog ops Q (op :: rest) a w :=
  wpList_plain hgd fun _ hK => build_op (parts := [(0, p), (1, .const (.int .i64 0))]) (vals := [(0, .int .i64 z), (1, .int .i64 0)]) ho (by simp only [List.map_cons, List.map_nil, hp]; rfl) (built_m2 z) (hK _ _ h)
theorem ret_m3 {fn : Func} {R : Ending → World → Prop} {q : Tmp} {g : Nat} {m : M3} (h : fn.results = #[.cell q 40]) (hp : a.tmps.getD q undef = .pointer (some ⟨g, 0, none⟩)) (hr : M3Row w g m) (hde : a.defers = []) (hR : R (.returned m.val) w) :
    bodyPost Tryz.prog fn R .ret a w := ret_row h hp hr Tryz.underlying40 rfl info_m3 hde hR
end
theorem slF_onto {α : Type} {f : Fl α} {p : Nat} {w w' : World} {v : Value} {l : List α} (h : SlF f w v l) (ho : Onto p w w') (hv : 0 < l.length → ∀ k, v.ownBlock = some k → k ≠ p) : SlF f w' v l := by
  obtain ⟨a, cap, rfl, h1, h2⟩ := h
  exact ⟨a, cap, rfl, h1.onto ho (fun h0 x hx => hv h0 _ (by subst hx; rfl)), h2⟩
structure Gn (w : World) (g go gr : Nat) (x y vo ve vi : Value) (s : St) (co fin : Int) (l : List M3) (own : M3) (W : World) : Prop where
  row : GRow W g x y vo ve vi s co fin
  own : M3Row W go own
  res : M3Row W gr M3.nul
  sl : SlF fM W vi l
  bel : Below w.heap.size w W
section
variable {w W W' : World} {base g go gr : Nat} {x y vo ve vi : Value} {s : St} {co fin : Int} {l : List M3} {own : M3}
theorem Gn.below (h : Gn w g go gr x y vo ve vi s co fin l own W) (hb : Below W.heap.size W W') : Gn w g go gr x y vo ve vi s co fin l own W' := ⟨h.row.below hb, h.own.below hb, h.res.below hb, h.sl.below hb, below_more h.bel hb⟩
theorem Gn.drew (h : Gn w g go gr x y vo ve vi s co fin l own W) : Gn w g go gr x y vo ve vi s co fin l own W.drew := h.below (drew_below (n := 1) rfl)
set_option maxHeartbeats 2000000 in
theorem next_impl (hu : 0 ≤ s.u) (h : GRow w g x y vo ve vi s co fin) (hsl : SlF fM w vi l) :
    Calls Tryz.prog 115 #[.pointer (some ⟨g, 0, none⟩)] w fun e w' => e = .returned (s.next l).val ∧ Below w.heap.size w w' := by
  have hgl := h.lt
  obtain ⟨j, hj⟩ : ∃ j : Nat, s.u = (j : Int) := ⟨s.u.toNat, by omega⟩
  have hju : s.u.toNat = j := by omega
  obtain ⟨X, hX⟩ : ∃ X, s.m.p.x = X := ⟨_, rfl⟩
  obtain ⟨a, c, rfl, -, hlc, hcm, -⟩ := id hsl
  unfold maxLen at hcm
  obtain ⟨r, hr⟩ : ∃ r, s.next l = r := ⟨_, rfl⟩
  rw [hr]
  have HU : Hid (s.u = (j : Int)) := hj
  have kx : w.cell? ⟨g, 22, none⟩ = some (.int .i64 X) := by rw [← hX]; exact (gc h).px
  obtain ⟨N, hN⟩ : ∃ N, s.nextAt = N := ⟨_, rfl⟩
  have hNX : N = if X = 0 then 1000000101 else X := by rw [← hN, ← hX]; rfl
  by_cases hx : X = 0
  · rw [if_pos hx] at hNX
    subst hx
    go_enter Tryz.func115, Tryz.ntmps115
    go_wp2_with (first
      | (refine al_m3 rfl rfl ?_; intro w0 z0 hb0; have h0 := h.below hb0; have sl0 := hsl.below hb0; have lz0 := z0.lt; have kx0 : w0.cell? ⟨g, 22, none⟩ = some (.int .i64 0) := by rw [hb0.cell (p := ⟨g, 22, none⟩) hgl]; exact kx)
      | (refine bd_m2 rfl rfl rfl ?_)
      | (refine al_m3 rfl rfl ?_; intro w1 q1 hb1; have h1 := h0.below hb1; have sl1 := sl0.below hb1; have z1 := z0.below hb1; have lq1 := q1.lt)
      | (refine st_m3 (m := ⟨0, 0, 0⟩) rfl rfl rfl rfl q1 ?_; rintro w2 q2 o2; have h2 := h1.onto o2 (by omega); have z2 := z1.onto o2 (by omega); have B2 := below_onto (below_more hb0 hb1) o2 (by omega); have sl2 := slF_onto sl1 o2 (fun h0' k hk => by have := sl0.lt h0' k hk; omega); have kq2 : w2.cell? ⟨w0.heap.size, 0, none⟩ = some (.int .i64 0) := q2.cell 0; clear kx kx0)
      | (refine st_m3t rfl rfl rfl rfl q2 ?_; rintro w3 q3 o3; have h3 := h2.onto o3 (by omega); have z3 := z2.onto o3 (by omega); have B3 := below_onto B2 o3 (by omega); have sl3 := slF_onto sl2 o3 (fun h0' k hk => by have := sl0.lt h0' k hk; omega)))
    have hG : Gn w g w0.heap.size w.heap.size x y vo ve (.slice a l.length c) s co fin l ⟨N, 0, 0⟩ w3 := ⟨h3, by rw [hNX]; exact q3, z3, sl3, B3⟩
    by_cases hlt : j < l.length
    · obtain ⟨b, off, c', e, -, -, -⟩ := hG.sl.shape (by omega)
      simp only [Value.slice.injEq] at e
      obtain ⟨rfl, -, rfl⟩ := e
      have hlt' : (j : Int) < (l.length : Int) := by omega
      obtain ⟨tt, htt⟩ : ∃ tt, (M3.at' l j).t = tt := ⟨_, rfl⟩
      have HT : Hid ((M3.at' l j).t = tt) := htt
      by_cases hn : tt ≤ N
      · have HR : Hid (r = M3.at' l j) := show _ = _ by rw [← hr]; unfold St.next; rw [hju, if_pos ⟨by omega, by rw [hN, htt]; exact hn⟩]
        clear htt hr hN hNX hX hju hj
        refine region_known (by kernel_rfl) (by kernel_rfl) 0 (by decide) (by kernel_rfl) (fun _ W => Gn w g w0.heap.size w.heap.size x y vo ve (.slice (some ⟨b, off, none⟩) l.length c) s co fin l ⟨N, 0, 0⟩ W) [.pointer (some ⟨g, 0, none⟩), .pointer (some ⟨g, 0, none⟩), .pointer (some ⟨g, 0, none⟩), .pointer (some ⟨g, 27, none⟩), .int .i64 (j : Int), .pointer (some ⟨g, 0, none⟩), .pointer (some ⟨g, 0, none⟩), .pointer (some ⟨g, 28, none⟩), .slice (some ⟨b, off, none⟩) l.length c, .int .i64 (l.length : Int), .bool true, .bool true, .pointer (some ⟨g, 0, none⟩), .pointer (some ⟨g, 0, none⟩), .pointer (some ⟨g, 28, none⟩), .slice (some ⟨b, off, none⟩) l.length c, .pointer (some ⟨g, 0, none⟩), .pointer (some ⟨g, 0, none⟩), .pointer (some ⟨g, 0, none⟩), .pointer (some ⟨g, 27, none⟩), .int .i64 (j : Int), .pointer (some ⟨b, off + j * 3, none⟩), .pointer (some ⟨b, off + j * 3, none⟩), .int .i64 tt, .pointer (some ⟨w0.heap.size, 0, none⟩), .int .i64 N, .bool true, .bool true] hG.drew ?step ?done
        case step =>
          intro L ix o' A W hj hI hL hd
          have hin : ix < 28 := by
            by_cases hl : ix < 28
            · exact hl
            · simp [hl] at hj
          have hsz : A.tmps.size = 56 := hI.size
          have hg := hI.g
          rcases ix with _ | ix
          · cases hj
            have e0 : A.eval (.tmp 0) = .pointer (some ⟨g, 0, none⟩) := hI.old 0 (by kernel_rfl)
            exact at_op rfl rfl (move_op rfl ⟨_, rfl, e0, hg⟩)
          rcases ix with _ | ix
          · cases hj
            have e0 : A.eval (.tmp 16) = .pointer (some ⟨g, 0, none⟩) := hI.val hd 0 16 rfl rfl (by kernel_rfl)
            exact at_op rfl rfl (nil_op rfl e0 ⟨_, rfl, rfl, hg⟩)
          rcases ix with _ | ix
          · cases hj
            have e0 : A.eval (.tmp 17) = .pointer (some ⟨g, 0, none⟩) := hI.val hd 1 17 rfl rfl (by kernel_rfl)
            refine at_op rfl rfl (val_op (v := .pointer (some ⟨g, 0, none⟩)) ?_ ⟨_, rfl, rfl, hg⟩)
            unfold execOp
            simp only [List.getElem_toArray, List.getElem_cons_zero, List.getElem_cons_succ, e0]
            simp [go_sem]
          rcases ix with _ | ix
          · cases hj
            have e0 : A.eval (.tmp 18) = .pointer (some ⟨g, 0, none⟩) := hI.val hd 2 18 rfl rfl (by kernel_rfl)
            refine at_op rfl rfl (val_op (v := .pointer (some ⟨g, 27, none⟩)) ?_ ⟨_, rfl, rfl, hg⟩)
            unfold execOp
            simp only [List.getElem_toArray, List.getElem_cons_zero, List.getElem_cons_succ, e0]
            simp [go_sem]
          rcases ix with _ | ix
          · cases hj
            have e0 : A.eval (.tmp 19) = .pointer (some ⟨g, 27, none⟩) := hI.val hd 3 19 rfl rfl (by kernel_rfl)
            exact at_op rfl rfl (load_op rfl Tryz.underlying2 e0 (by have := (gc hg.row).u; rwa [HU.out] at this) ⟨_, rfl, rfl, hg⟩)
          rcases ix with _ | ix
          · cases hj
            have e0 : A.eval (.tmp 0) = .pointer (some ⟨g, 0, none⟩) := hI.old 0 (by kernel_rfl)
            exact at_op rfl rfl (move_op rfl ⟨_, rfl, e0, hg⟩)
          rcases ix with _ | ix
          · cases hj
            have e0 : A.eval (.tmp 21) = .pointer (some ⟨g, 0, none⟩) := hI.val hd 5 21 rfl rfl (by kernel_rfl)
            exact at_op rfl rfl (nil_op rfl e0 ⟨_, rfl, rfl, hg⟩)
          rcases ix with _ | ix
          · cases hj
            have e0 : A.eval (.tmp 22) = .pointer (some ⟨g, 0, none⟩) := hI.val hd 6 22 rfl rfl (by kernel_rfl)
            refine at_op rfl rfl (val_op (v := .pointer (some ⟨g, 28, none⟩)) ?_ ⟨_, rfl, rfl, hg⟩)
            unfold execOp
            simp only [List.getElem_toArray, List.getElem_cons_zero, List.getElem_cons_succ, e0]
            simp [go_sem]
          rcases ix with _ | ix
          · cases hj
            have e0 : A.eval (.tmp 23) = .pointer (some ⟨g, 28, none⟩) := hI.val hd 7 23 rfl rfl (by kernel_rfl)
            exact at_op rfl rfl (ldv_op rfl Tryz.underlying31 rfl e0 (gc hg.row).vi ⟨_, rfl, rfl, hg⟩)
          rcases ix with _ | ix
          · cases hj
            have e0 : A.eval (.tmp 24) = .slice (some ⟨b, off, none⟩) l.length c := hI.val hd 8 24 rfl rfl (by kernel_rfl)
            exact at_op rfl rfl (lenM_op rfl e0 ⟨_, rfl, rfl, hg⟩)
          rcases ix with _ | ix
          · cases hj
            have e0 : A.eval (.tmp 20) = .int .i64 (j : Int) := hI.val hd 4 20 rfl rfl (by kernel_rfl)
            have e1 : A.eval (.tmp 25) = .int .i64 (l.length : Int) := hI.val hd 9 25 rfl rfl (by kernel_rfl)
            exact at_op rfl rfl (bin_op rfl e0 e1 (fun w => by first | (simp [go_sem]; done) | (simp [go_sem]; omega)) ⟨_, rfl, rfl, hg⟩)
          rcases ix with _ | ix
          · cases hj
            have e0 : A.eval (.tmp 26) = .bool true := hI.val hd 10 26 rfl rfl (by kernel_rfl)
            exact at_op rfl rfl (move_op rfl ⟨_, rfl, e0, hg⟩)
          rcases ix with _ | ix
          · cases hj
            have hgv : A.tmps.getD 27 undef = .bool true := hI.val hd 11 27 rfl rfl (by kernel_rfl)
            have e0 : A.eval (.tmp 0) = .pointer (some ⟨g, 0, none⟩) := hI.old 0 (by kernel_rfl)
            exact at_guard rfl rfl (j := 11) (k := 27) rfl (by omega) hgv (move_op rfl ⟨_, rfl, e0, hg⟩)
          rcases ix with _ | ix
          · cases hj
            have hgv : A.tmps.getD 27 undef = .bool true := hI.val hd 11 27 rfl rfl (by kernel_rfl)
            have e0 : A.eval (.tmp 28) = .pointer (some ⟨g, 0, none⟩) := hI.val hd 12 28 rfl rfl (by kernel_rfl)
            exact at_guard rfl rfl (j := 11) (k := 27) rfl (by omega) hgv (nil_op rfl e0 ⟨_, rfl, rfl, hg⟩)
          rcases ix with _ | ix
          · cases hj
            have hgv : A.tmps.getD 27 undef = .bool true := hI.val hd 11 27 rfl rfl (by kernel_rfl)
            have e0 : A.eval (.tmp 29) = .pointer (some ⟨g, 0, none⟩) := hI.val hd 13 29 rfl rfl (by kernel_rfl)
            refine at_guard rfl rfl (j := 11) (k := 27) rfl (by omega) hgv (val_op (v := .pointer (some ⟨g, 28, none⟩)) ?_ ⟨_, rfl, rfl, hg⟩)
            unfold execOp
            simp only [List.getElem_toArray, List.getElem_cons_zero, List.getElem_cons_succ, e0]
            simp [go_sem]
          rcases ix with _ | ix
          · cases hj
            have hgv : A.tmps.getD 27 undef = .bool true := hI.val hd 11 27 rfl rfl (by kernel_rfl)
            have e0 : A.eval (.tmp 30) = .pointer (some ⟨g, 28, none⟩) := hI.val hd 14 30 rfl rfl (by kernel_rfl)
            exact at_guard rfl rfl (j := 11) (k := 27) rfl (by omega) hgv (ldv_op rfl Tryz.underlying31 rfl e0 (gc hg.row).vi ⟨_, rfl, rfl, hg⟩)
          rcases ix with _ | ix
          · cases hj
            have hgv : A.tmps.getD 27 undef = .bool true := hI.val hd 11 27 rfl rfl (by kernel_rfl)
            have e0 : A.eval (.tmp 0) = .pointer (some ⟨g, 0, none⟩) := hI.old 0 (by kernel_rfl)
            exact at_guard rfl rfl (j := 11) (k := 27) rfl (by omega) hgv (move_op rfl ⟨_, rfl, e0, hg⟩)
          rcases ix with _ | ix
          · cases hj
            have hgv : A.tmps.getD 27 undef = .bool true := hI.val hd 11 27 rfl rfl (by kernel_rfl)
            have e0 : A.eval (.tmp 32) = .pointer (some ⟨g, 0, none⟩) := hI.val hd 16 32 rfl rfl (by kernel_rfl)
            exact at_guard rfl rfl (j := 11) (k := 27) rfl (by omega) hgv (nil_op rfl e0 ⟨_, rfl, rfl, hg⟩)
          rcases ix with _ | ix
          · cases hj
            have hgv : A.tmps.getD 27 undef = .bool true := hI.val hd 11 27 rfl rfl (by kernel_rfl)
            have e0 : A.eval (.tmp 33) = .pointer (some ⟨g, 0, none⟩) := hI.val hd 17 33 rfl rfl (by kernel_rfl)
            refine at_guard rfl rfl (j := 11) (k := 27) rfl (by omega) hgv (val_op (v := .pointer (some ⟨g, 0, none⟩)) ?_ ⟨_, rfl, rfl, hg⟩)
            unfold execOp
            simp only [List.getElem_toArray, List.getElem_cons_zero, List.getElem_cons_succ, e0]
            simp [go_sem]
          rcases ix with _ | ix
          · cases hj
            have hgv : A.tmps.getD 27 undef = .bool true := hI.val hd 11 27 rfl rfl (by kernel_rfl)
            have e0 : A.eval (.tmp 34) = .pointer (some ⟨g, 0, none⟩) := hI.val hd 18 34 rfl rfl (by kernel_rfl)
            refine at_guard rfl rfl (j := 11) (k := 27) rfl (by omega) hgv (val_op (v := .pointer (some ⟨g, 27, none⟩)) ?_ ⟨_, rfl, rfl, hg⟩)
            unfold execOp
            simp only [List.getElem_toArray, List.getElem_cons_zero, List.getElem_cons_succ, e0]
            simp [go_sem]
          rcases ix with _ | ix
          · cases hj
            have hgv : A.tmps.getD 27 undef = .bool true := hI.val hd 11 27 rfl rfl (by kernel_rfl)
            have e0 : A.eval (.tmp 35) = .pointer (some ⟨g, 27, none⟩) := hI.val hd 19 35 rfl rfl (by kernel_rfl)
            exact at_guard rfl rfl (j := 11) (k := 27) rfl (by omega) hgv (load_op rfl Tryz.underlying2 e0 (by have := (gc hg.row).u; rwa [HU.out] at this) ⟨_, rfl, rfl, hg⟩)
          rcases ix with _ | ix
          · cases hj
            have hgv : A.tmps.getD 27 undef = .bool true := hI.val hd 11 27 rfl rfl (by kernel_rfl)
            have e0 : A.eval (.tmp 31) = .slice (some ⟨b, off, none⟩) l.length c := hI.val hd 15 31 rfl rfl (by kernel_rfl)
            have e1 : A.eval (.tmp 36) = .int .i64 (j : Int) := hI.val hd 20 36 rfl rfl (by kernel_rfl)
            exact at_guard rfl rfl (j := 11) (k := 27) rfl (by omega) hgv (ixF_op okM rfl e0 e1 (by omega) ⟨_, rfl, rfl, hg⟩)
          rcases ix with _ | ix
          · cases hj
            have hgv : A.tmps.getD 27 undef = .bool true := hI.val hd 11 27 rfl rfl (by kernel_rfl)
            have e0 : A.eval (.tmp 37) = .pointer (some ⟨b, off + j * 3, none⟩) := hI.val hd 21 37 rfl rfl (by kernel_rfl)
            refine at_guard rfl rfl (j := 11) (k := 27) rfl (by omega) hgv (val_op (v := .pointer (some ⟨b, off + j * 3, none⟩)) ?_ ⟨_, rfl, rfl, hg⟩)
            unfold execOp
            simp only [List.getElem_toArray, List.getElem_cons_zero, List.getElem_cons_succ, e0]
            simp [go_sem]
          rcases ix with _ | ix
          · cases hj
            have hgv : A.tmps.getD 27 undef = .bool true := hI.val hd 11 27 rfl rfl (by kernel_rfl)
            have e0 : A.eval (.tmp 38) = .pointer (some ⟨b, off + j * 3, none⟩) := hI.val hd 22 38 rfl rfl (by kernel_rfl)
            exact at_guard rfl rfl (j := 11) (k := 27) rfl (by omega) hgv (load_op rfl Tryz.underlying2 e0 (by rw [← HT.out]; exact hg.sl.cell okM (at_some (by omega)) (j := 0) (by decide)) ⟨_, rfl, rfl, hg⟩)
          rcases ix with _ | ix
          · cases hj
            have hgv : A.tmps.getD 27 undef = .bool true := hI.val hd 11 27 rfl rfl (by kernel_rfl)
            have e0 : A.eval (.tmp 3) = .pointer (some ⟨w0.heap.size, 0, none⟩) := hI.old 3 (by kernel_rfl)
            refine at_guard rfl rfl (j := 11) (k := 27) rfl (by omega) hgv (val_op (v := .pointer (some ⟨w0.heap.size, 0, none⟩)) ?_ ⟨_, rfl, rfl, hg⟩)
            unfold execOp
            simp only [List.getElem_toArray, List.getElem_cons_zero, List.getElem_cons_succ, e0]
            simp [go_sem]
          rcases ix with _ | ix
          · cases hj
            have hgv : A.tmps.getD 27 undef = .bool true := hI.val hd 11 27 rfl rfl (by kernel_rfl)
            have e0 : A.eval (.tmp 40) = .pointer (some ⟨w0.heap.size, 0, none⟩) := hI.val hd 24 40 rfl rfl (by kernel_rfl)
            exact at_guard rfl rfl (j := 11) (k := 27) rfl (by omega) hgv (load_op rfl Tryz.underlying2 e0 (hg.own.cell 0) ⟨_, rfl, rfl, hg⟩)
          rcases ix with _ | ix
          · cases hj
            have hgv : A.tmps.getD 27 undef = .bool true := hI.val hd 11 27 rfl rfl (by kernel_rfl)
            have e0 : A.eval (.tmp 39) = .int .i64 tt := hI.val hd 23 39 rfl rfl (by kernel_rfl)
            have e1 : A.eval (.tmp 41) = .int .i64 N := hI.val hd 25 41 rfl rfl (by kernel_rfl)
            exact at_guard rfl rfl (j := 11) (k := 27) rfl (by omega) hgv (bin_op rfl e0 e1 (fun w => by first | (simp [go_sem, hn]; done) | (simp [go_sem]; omega)) ⟨_, rfl, rfl, hg⟩)
          rcases ix with _ | ix
          · cases hj
            have e0 : A.eval (.tmp 27) = .bool true := hI.val hd 11 27 rfl rfl (by kernel_rfl)
            have e1 : A.eval (.tmp 42) = .bool true := hI.val hd 26 42 rfl rfl (by kernel_rfl)
            exact at_op rfl rfl (pick_op rfl e0 ⟨_, rfl, e1, hg⟩)
          omega
        case done =>
          intro A W hI
          have hg := hI.g
          have s43 : A.tmps.getD 43 undef = .bool true := hI.last 27 43 rfl
          have hA := hI.frame [16, 17, 18, 19, 20, 21, 22, 23, 24, 25, 26, 27, 28, 29, 30, 31, 32, 33, 34, 35, 36, 37, 38, 39, 40, 41, 42, 43] (by kernel_rfl)
          rw [hA]
          simp only [putAll, List.foldl_cons, List.foldl_nil, s43, Act.put, List.setIfInBounds_toArray, List.set_cons_zero, List.set_cons_succ]
          clear hA hI s43
          go_wp2_with fail
          refine region_last (by kernel_rfl) (by kernel_rfl) 11 (by decide) (by kernel_rfl) (by kernel_rfl) (fun W => Gn w g w0.heap.size w.heap.size x y vo ve (.slice (some ⟨b, off, none⟩) l.length c) s co fin l ⟨N, 0, 0⟩ W) (fun W => M3Row W w.heap.size (M3.at' l j) ∧ Below w.heap.size w W) [.pointer (some ⟨g, 0, none⟩), .pointer (some ⟨g, 0, none⟩), .pointer (some ⟨g, 28, none⟩), .slice (some ⟨b, off, none⟩) l.length c, .pointer (some ⟨g, 0, none⟩), .pointer (some ⟨g, 0, none⟩), .pointer (some ⟨g, 0, none⟩), .pointer (some ⟨g, 27, none⟩), .int .i64 (j : Int), .pointer (some ⟨b, off + j * 3, none⟩), (M3.at' l j).val, undef] hg.drew ?step ?last ?done
          case step =>
            intro L ix o' A W hne hj hI hg hd
            have hin : ix < 12 := by
              by_cases hl : ix < 12
              · exact hl
              · simp [hl] at hj
            have hsz : A.tmps.size = 56 := hI.size
            rcases ix with _ | ix
            · cases hj
              have e0 : A.eval (.tmp 0) = .pointer (some ⟨g, 0, none⟩) := hI.old 0 (by kernel_rfl)
              exact at_op rfl rfl (move_op rfl ⟨_, rfl, e0, hg⟩)
            rcases ix with _ | ix
            · cases hj
              have e0 : A.eval (.tmp 44) = .pointer (some ⟨g, 0, none⟩) := hI.val hd 0 44 rfl rfl (by kernel_rfl)
              exact at_op rfl rfl (nil_op rfl e0 ⟨_, rfl, rfl, hg⟩)
            rcases ix with _ | ix
            · cases hj
              have e0 : A.eval (.tmp 45) = .pointer (some ⟨g, 0, none⟩) := hI.val hd 1 45 rfl rfl (by kernel_rfl)
              refine at_op rfl rfl (val_op (v := .pointer (some ⟨g, 28, none⟩)) ?_ ⟨_, rfl, rfl, hg⟩)
              unfold execOp
              simp only [List.getElem_toArray, List.getElem_cons_zero, List.getElem_cons_succ, e0]
              simp [go_sem]
            rcases ix with _ | ix
            · cases hj
              have e0 : A.eval (.tmp 46) = .pointer (some ⟨g, 28, none⟩) := hI.val hd 2 46 rfl rfl (by kernel_rfl)
              exact at_op rfl rfl (ldv_op rfl Tryz.underlying31 rfl e0 (gc hg.row).vi ⟨_, rfl, rfl, hg⟩)
            rcases ix with _ | ix
            · cases hj
              have e0 : A.eval (.tmp 0) = .pointer (some ⟨g, 0, none⟩) := hI.old 0 (by kernel_rfl)
              exact at_op rfl rfl (move_op rfl ⟨_, rfl, e0, hg⟩)
            rcases ix with _ | ix
            · cases hj
              have e0 : A.eval (.tmp 48) = .pointer (some ⟨g, 0, none⟩) := hI.val hd 4 48 rfl rfl (by kernel_rfl)
              exact at_op rfl rfl (nil_op rfl e0 ⟨_, rfl, rfl, hg⟩)
            rcases ix with _ | ix
            · cases hj
              have e0 : A.eval (.tmp 49) = .pointer (some ⟨g, 0, none⟩) := hI.val hd 5 49 rfl rfl (by kernel_rfl)
              refine at_op rfl rfl (val_op (v := .pointer (some ⟨g, 0, none⟩)) ?_ ⟨_, rfl, rfl, hg⟩)
              unfold execOp
              simp only [List.getElem_toArray, List.getElem_cons_zero, List.getElem_cons_succ, e0]
              simp [go_sem]
            rcases ix with _ | ix
            · cases hj
              have e0 : A.eval (.tmp 50) = .pointer (some ⟨g, 0, none⟩) := hI.val hd 6 50 rfl rfl (by kernel_rfl)
              refine at_op rfl rfl (val_op (v := .pointer (some ⟨g, 27, none⟩)) ?_ ⟨_, rfl, rfl, hg⟩)
              unfold execOp
              simp only [List.getElem_toArray, List.getElem_cons_zero, List.getElem_cons_succ, e0]
              simp [go_sem]
            rcases ix with _ | ix
            · cases hj
              have e0 : A.eval (.tmp 51) = .pointer (some ⟨g, 27, none⟩) := hI.val hd 7 51 rfl rfl (by kernel_rfl)
              exact at_op rfl rfl (load_op rfl Tryz.underlying2 e0 (by have := (gc hg.row).u; rwa [HU.out] at this) ⟨_, rfl, rfl, hg⟩)
            rcases ix with _ | ix
            · cases hj
              have e0 : A.eval (.tmp 47) = .slice (some ⟨b, off, none⟩) l.length c := hI.val hd 3 47 rfl rfl (by kernel_rfl)
              have e1 : A.eval (.tmp 52) = .int .i64 (j : Int) := hI.val hd 8 52 rfl rfl (by kernel_rfl)
              exact at_op rfl rfl (ixF_op okM rfl e0 e1 (by omega) ⟨_, rfl, rfl, hg⟩)
            rcases ix with _ | ix
            · cases hj
              have e0 : A.eval (.tmp 53) = .pointer (some ⟨b, off + j * 3, none⟩) := hI.val hd 9 53 rfl rfl (by kernel_rfl)
              exact at_op rfl rfl (elF_op okM rfl e0 (hg.sl.range okM (at_some (by omega))) ⟨_, rfl, rfl, hg⟩)
            rcases ix with _ | ix
            · exact absurd rfl hne
            omega
          case last =>
            intro L o' A W hj hI hg hd
            cases hj
            have e0 : A.eval (.tmp 2) = .pointer (some ⟨w.heap.size, 0, none⟩) := hI.old 2 (by kernel_rfl)
            have e1 : A.eval (.tmp 54) = (M3.at' l j).val := hI.val hd 10 54 rfl rfl (by kernel_rfl)
            exact at_op rfl rfl (stRow_op rfl e0 e1 hg.res info_m3 rfl (by simp [Value.oneCell']) (fun W2 r2 o2 => ⟨_, rfl, rfl, r2, below_onto hg.bel o2 (Nat.le_refl _)⟩))
          case done =>
            intro A W hI hE
            have hA := hI.frame [44, 45, 46, 47, 48, 49, 50, 51, 52, 53, 54] (by kernel_rfl)
            rw [hA]
            simp only [putAll, List.foldl_cons, List.foldl_nil, Act.put, List.setIfInBounds_toArray, List.set_cons_zero, List.set_cons_succ]
            clear hA hI 
            go_wp2_with fail
            refine ret_m3 rfl rfl hE.1 rfl ?_
            exact ⟨by rw [HR.out], hE.2⟩
      · have HR : Hid (r = ⟨N, 0, 0⟩) := show _ = _ by rw [← hr]; unfold St.next; rw [hju, if_neg (fun hh => hn (by have := hh.2; rwa [hN, htt] at this)), hN]
        clear htt hr hN hNX hX hju hj
        refine region_known (by kernel_rfl) (by kernel_rfl) 0 (by decide) (by kernel_rfl) (fun _ W => Gn w g w0.heap.size w.heap.size x y vo ve (.slice (some ⟨b, off, none⟩) l.length c) s co fin l ⟨N, 0, 0⟩ W) [.pointer (some ⟨g, 0, none⟩), .pointer (some ⟨g, 0, none⟩), .pointer (some ⟨g, 0, none⟩), .pointer (some ⟨g, 27, none⟩), .int .i64 (j : Int), .pointer (some ⟨g, 0, none⟩), .pointer (some ⟨g, 0, none⟩), .pointer (some ⟨g, 28, none⟩), .slice (some ⟨b, off, none⟩) l.length c, .int .i64 (l.length : Int), .bool true, .bool true, .pointer (some ⟨g, 0, none⟩), .pointer (some ⟨g, 0, none⟩), .pointer (some ⟨g, 28, none⟩), .slice (some ⟨b, off, none⟩) l.length c, .pointer (some ⟨g, 0, none⟩), .pointer (some ⟨g, 0, none⟩), .pointer (some ⟨g, 0, none⟩), .pointer (some ⟨g, 27, none⟩), .int .i64 (j : Int), .pointer (some ⟨b, off + j * 3, none⟩), .pointer (some ⟨b, off + j * 3, none⟩), .int .i64 tt, .pointer (some ⟨w0.heap.size, 0, none⟩), .int .i64 N, .bool false, .bool false] hG.drew ?step ?done
        case step =>
          intro L ix o' A W hj hI hL hd
          have hin : ix < 28 := by
            by_cases hl : ix < 28
            · exact hl
            · simp [hl] at hj
          have hsz : A.tmps.size = 56 := hI.size
          have hg := hI.g
          rcases ix with _ | ix
          · cases hj
            have e0 : A.eval (.tmp 0) = .pointer (some ⟨g, 0, none⟩) := hI.old 0 (by kernel_rfl)
            exact at_op rfl rfl (move_op rfl ⟨_, rfl, e0, hg⟩)
          rcases ix with _ | ix
          · cases hj
            have e0 : A.eval (.tmp 16) = .pointer (some ⟨g, 0, none⟩) := hI.val hd 0 16 rfl rfl (by kernel_rfl)
            exact at_op rfl rfl (nil_op rfl e0 ⟨_, rfl, rfl, hg⟩)
          rcases ix with _ | ix
          · cases hj
            have e0 : A.eval (.tmp 17) = .pointer (some ⟨g, 0, none⟩) := hI.val hd 1 17 rfl rfl (by kernel_rfl)
            refine at_op rfl rfl (val_op (v := .pointer (some ⟨g, 0, none⟩)) ?_ ⟨_, rfl, rfl, hg⟩)
            unfold execOp
            simp only [List.getElem_toArray, List.getElem_cons_zero, List.getElem_cons_succ, e0]
            simp [go_sem]
          rcases ix with _ | ix
          · cases hj
            have e0 : A.eval (.tmp 18) = .pointer (some ⟨g, 0, none⟩) := hI.val hd 2 18 rfl rfl (by kernel_rfl)
            refine at_op rfl rfl (val_op (v := .pointer (some ⟨g, 27, none⟩)) ?_ ⟨_, rfl, rfl, hg⟩)
            unfold execOp
            simp only [List.getElem_toArray, List.getElem_cons_zero, List.getElem_cons_succ, e0]
            simp [go_sem]
          rcases ix with _ | ix
          · cases hj
            have e0 : A.eval (.tmp 19) = .pointer (some ⟨g, 27, none⟩) := hI.val hd 3 19 rfl rfl (by kernel_rfl)
            exact at_op rfl rfl (load_op rfl Tryz.underlying2 e0 (by have := (gc hg.row).u; rwa [HU.out] at this) ⟨_, rfl, rfl, hg⟩)
          rcases ix with _ | ix
          · cases hj
            have e0 : A.eval (.tmp 0) = .pointer (some ⟨g, 0, none⟩) := hI.old 0 (by kernel_rfl)
            exact at_op rfl rfl (move_op rfl ⟨_, rfl, e0, hg⟩)
          rcases ix with _ | ix
          · cases hj
            have e0 : A.eval (.tmp 21) = .pointer (some ⟨g, 0, none⟩) := hI.val hd 5 21 rfl rfl (by kernel_rfl)
            exact at_op rfl rfl (nil_op rfl e0 ⟨_, rfl, rfl, hg⟩)
          rcases ix with _ | ix
          · cases hj
            have e0 : A.eval (.tmp 22) = .pointer (some ⟨g, 0, none⟩) := hI.val hd 6 22 rfl rfl (by kernel_rfl)
            refine at_op rfl rfl (val_op (v := .pointer (some ⟨g, 28, none⟩)) ?_ ⟨_, rfl, rfl, hg⟩)
            unfold execOp
            simp only [List.getElem_toArray, List.getElem_cons_zero, List.getElem_cons_succ, e0]
            simp [go_sem]
          rcases ix with _ | ix
          · cases hj
            have e0 : A.eval (.tmp 23) = .pointer (some ⟨g, 28, none⟩) := hI.val hd 7 23 rfl rfl (by kernel_rfl)
            exact at_op rfl rfl (ldv_op rfl Tryz.underlying31 rfl e0 (gc hg.row).vi ⟨_, rfl, rfl, hg⟩)
          rcases ix with _ | ix
          · cases hj
            have e0 : A.eval (.tmp 24) = .slice (some ⟨b, off, none⟩) l.length c := hI.val hd 8 24 rfl rfl (by kernel_rfl)
            exact at_op rfl rfl (lenM_op rfl e0 ⟨_, rfl, rfl, hg⟩)
          rcases ix with _ | ix
          · cases hj
            have e0 : A.eval (.tmp 20) = .int .i64 (j : Int) := hI.val hd 4 20 rfl rfl (by kernel_rfl)
            have e1 : A.eval (.tmp 25) = .int .i64 (l.length : Int) := hI.val hd 9 25 rfl rfl (by kernel_rfl)
            exact at_op rfl rfl (bin_op rfl e0 e1 (fun w => by first | (simp [go_sem]; done) | (simp [go_sem]; omega)) ⟨_, rfl, rfl, hg⟩)
          rcases ix with _ | ix
          · cases hj
            have e0 : A.eval (.tmp 26) = .bool true := hI.val hd 10 26 rfl rfl (by kernel_rfl)
            exact at_op rfl rfl (move_op rfl ⟨_, rfl, e0, hg⟩)
          rcases ix with _ | ix
          · cases hj
            have hgv : A.tmps.getD 27 undef = .bool true := hI.val hd 11 27 rfl rfl (by kernel_rfl)
            have e0 : A.eval (.tmp 0) = .pointer (some ⟨g, 0, none⟩) := hI.old 0 (by kernel_rfl)
            exact at_guard rfl rfl (j := 11) (k := 27) rfl (by omega) hgv (move_op rfl ⟨_, rfl, e0, hg⟩)
          rcases ix with _ | ix
          · cases hj
            have hgv : A.tmps.getD 27 undef = .bool true := hI.val hd 11 27 rfl rfl (by kernel_rfl)
            have e0 : A.eval (.tmp 28) = .pointer (some ⟨g, 0, none⟩) := hI.val hd 12 28 rfl rfl (by kernel_rfl)
            exact at_guard rfl rfl (j := 11) (k := 27) rfl (by omega) hgv (nil_op rfl e0 ⟨_, rfl, rfl, hg⟩)
          rcases ix with _ | ix
          · cases hj
            have hgv : A.tmps.getD 27 undef = .bool true := hI.val hd 11 27 rfl rfl (by kernel_rfl)
            have e0 : A.eval (.tmp 29) = .pointer (some ⟨g, 0, none⟩) := hI.val hd 13 29 rfl rfl (by kernel_rfl)
            refine at_guard rfl rfl (j := 11) (k := 27) rfl (by omega) hgv (val_op (v := .pointer (some ⟨g, 28, none⟩)) ?_ ⟨_, rfl, rfl, hg⟩)
            unfold execOp
            simp only [List.getElem_toArray, List.getElem_cons_zero, List.getElem_cons_succ, e0]
            simp [go_sem]
          rcases ix with _ | ix
          · cases hj
            have hgv : A.tmps.getD 27 undef = .bool true := hI.val hd 11 27 rfl rfl (by kernel_rfl)
            have e0 : A.eval (.tmp 30) = .pointer (some ⟨g, 28, none⟩) := hI.val hd 14 30 rfl rfl (by kernel_rfl)
            exact at_guard rfl rfl (j := 11) (k := 27) rfl (by omega) hgv (ldv_op rfl Tryz.underlying31 rfl e0 (gc hg.row).vi ⟨_, rfl, rfl, hg⟩)
          rcases ix with _ | ix
          · cases hj
            have hgv : A.tmps.getD 27 undef = .bool true := hI.val hd 11 27 rfl rfl (by kernel_rfl)
            have e0 : A.eval (.tmp 0) = .pointer (some ⟨g, 0, none⟩) := hI.old 0 (by kernel_rfl)
            exact at_guard rfl rfl (j := 11) (k := 27) rfl (by omega) hgv (move_op rfl ⟨_, rfl, e0, hg⟩)
          rcases ix with _ | ix
          · cases hj
            have hgv : A.tmps.getD 27 undef = .bool true := hI.val hd 11 27 rfl rfl (by kernel_rfl)
            have e0 : A.eval (.tmp 32) = .pointer (some ⟨g, 0, none⟩) := hI.val hd 16 32 rfl rfl (by kernel_rfl)
            exact at_guard rfl rfl (j := 11) (k := 27) rfl (by omega) hgv (nil_op rfl e0 ⟨_, rfl, rfl, hg⟩)
          rcases ix with _ | ix
          · cases hj
            have hgv : A.tmps.getD 27 undef = .bool true := hI.val hd 11 27 rfl rfl (by kernel_rfl)
            have e0 : A.eval (.tmp 33) = .pointer (some ⟨g, 0, none⟩) := hI.val hd 17 33 rfl rfl (by kernel_rfl)
            refine at_guard rfl rfl (j := 11) (k := 27) rfl (by omega) hgv (val_op (v := .pointer (some ⟨g, 0, none⟩)) ?_ ⟨_, rfl, rfl, hg⟩)
            unfold execOp
            simp only [List.getElem_toArray, List.getElem_cons_zero, List.getElem_cons_succ, e0]
            simp [go_sem]
          rcases ix with _ | ix
          · cases hj
            have hgv : A.tmps.getD 27 undef = .bool true := hI.val hd 11 27 rfl rfl (by kernel_rfl)
            have e0 : A.eval (.tmp 34) = .pointer (some ⟨g, 0, none⟩) := hI.val hd 18 34 rfl rfl (by kernel_rfl)
            refine at_guard rfl rfl (j := 11) (k := 27) rfl (by omega) hgv (val_op (v := .pointer (some ⟨g, 27, none⟩)) ?_ ⟨_, rfl, rfl, hg⟩)
            unfold execOp
            simp only [List.getElem_toArray, List.getElem_cons_zero, List.getElem_cons_succ, e0]
            simp [go_sem]
          rcases ix with _ | ix
          · cases hj
            have hgv : A.tmps.getD 27 undef = .bool true := hI.val hd 11 27 rfl rfl (by kernel_rfl)
            have e0 : A.eval (.tmp 35) = .pointer (some ⟨g, 27, none⟩) := hI.val hd 19 35 rfl rfl (by kernel_rfl)
            exact at_guard rfl rfl (j := 11) (k := 27) rfl (by omega) hgv (load_op rfl Tryz.underlying2 e0 (by have := (gc hg.row).u; rwa [HU.out] at this) ⟨_, rfl, rfl, hg⟩)
          rcases ix with _ | ix
          · cases hj
            have hgv : A.tmps.getD 27 undef = .bool true := hI.val hd 11 27 rfl rfl (by kernel_rfl)
            have e0 : A.eval (.tmp 31) = .slice (some ⟨b, off, none⟩) l.length c := hI.val hd 15 31 rfl rfl (by kernel_rfl)
            have e1 : A.eval (.tmp 36) = .int .i64 (j : Int) := hI.val hd 20 36 rfl rfl (by kernel_rfl)
            exact at_guard rfl rfl (j := 11) (k := 27) rfl (by omega) hgv (ixF_op okM rfl e0 e1 (by omega) ⟨_, rfl, rfl, hg⟩)
          rcases ix with _ | ix
          · cases hj
            have hgv : A.tmps.getD 27 undef = .bool true := hI.val hd 11 27 rfl rfl (by kernel_rfl)
            have e0 : A.eval (.tmp 37) = .pointer (some ⟨b, off + j * 3, none⟩) := hI.val hd 21 37 rfl rfl (by kernel_rfl)
            refine at_guard rfl rfl (j := 11) (k := 27) rfl (by omega) hgv (val_op (v := .pointer (some ⟨b, off + j * 3, none⟩)) ?_ ⟨_, rfl, rfl, hg⟩)
            unfold execOp
            simp only [List.getElem_toArray, List.getElem_cons_zero, List.getElem_cons_succ, e0]
            simp [go_sem]
          rcases ix with _ | ix
          · cases hj
            have hgv : A.tmps.getD 27 undef = .bool true := hI.val hd 11 27 rfl rfl (by kernel_rfl)
            have e0 : A.eval (.tmp 38) = .pointer (some ⟨b, off + j * 3, none⟩) := hI.val hd 22 38 rfl rfl (by kernel_rfl)
            exact at_guard rfl rfl (j := 11) (k := 27) rfl (by omega) hgv (load_op rfl Tryz.underlying2 e0 (by rw [← HT.out]; exact hg.sl.cell okM (at_some (by omega)) (j := 0) (by decide)) ⟨_, rfl, rfl, hg⟩)
          rcases ix with _ | ix
          · cases hj
            have hgv : A.tmps.getD 27 undef = .bool true := hI.val hd 11 27 rfl rfl (by kernel_rfl)
            have e0 : A.eval (.tmp 3) = .pointer (some ⟨w0.heap.size, 0, none⟩) := hI.old 3 (by kernel_rfl)
            refine at_guard rfl rfl (j := 11) (k := 27) rfl (by omega) hgv (val_op (v := .pointer (some ⟨w0.heap.size, 0, none⟩)) ?_ ⟨_, rfl, rfl, hg⟩)
            unfold execOp
            simp only [List.getElem_toArray, List.getElem_cons_zero, List.getElem_cons_succ, e0]
            simp [go_sem]
          rcases ix with _ | ix
          · cases hj
            have hgv : A.tmps.getD 27 undef = .bool true := hI.val hd 11 27 rfl rfl (by kernel_rfl)
            have e0 : A.eval (.tmp 40) = .pointer (some ⟨w0.heap.size, 0, none⟩) := hI.val hd 24 40 rfl rfl (by kernel_rfl)
            exact at_guard rfl rfl (j := 11) (k := 27) rfl (by omega) hgv (load_op rfl Tryz.underlying2 e0 (hg.own.cell 0) ⟨_, rfl, rfl, hg⟩)
          rcases ix with _ | ix
          · cases hj
            have hgv : A.tmps.getD 27 undef = .bool true := hI.val hd 11 27 rfl rfl (by kernel_rfl)
            have e0 : A.eval (.tmp 39) = .int .i64 tt := hI.val hd 23 39 rfl rfl (by kernel_rfl)
            have e1 : A.eval (.tmp 41) = .int .i64 N := hI.val hd 25 41 rfl rfl (by kernel_rfl)
            exact at_guard rfl rfl (j := 11) (k := 27) rfl (by omega) hgv (bin_op rfl e0 e1 (fun w => by first | (simp [go_sem, hn]; done) | (simp [go_sem]; omega)) ⟨_, rfl, rfl, hg⟩)
          rcases ix with _ | ix
          · cases hj
            have e0 : A.eval (.tmp 27) = .bool true := hI.val hd 11 27 rfl rfl (by kernel_rfl)
            have e1 : A.eval (.tmp 42) = .bool false := hI.val hd 26 42 rfl rfl (by kernel_rfl)
            exact at_op rfl rfl (pick_op rfl e0 ⟨_, rfl, e1, hg⟩)
          omega
        case done =>
          intro A W hI
          have hg := hI.g
          have s43 : A.tmps.getD 43 undef = .bool false := hI.last 27 43 rfl
          have hA := hI.frame [16, 17, 18, 19, 20, 21, 22, 23, 24, 25, 26, 27, 28, 29, 30, 31, 32, 33, 34, 35, 36, 37, 38, 39, 40, 41, 42, 43] (by kernel_rfl)
          rw [hA]
          simp only [putAll, List.foldl_cons, List.foldl_nil, s43, Act.put, List.setIfInBounds_toArray, List.set_cons_zero, List.set_cons_succ]
          clear hA hI s43
          go_wp2_with (first
            | (refine ld_m3 rfl rfl rfl hg.own ?_)
            | (refine st_m3 rfl rfl rfl rfl hg.res ?_; rintro w9 r9 o9; have hB9 := below_onto hg.bel o9 (Nat.le_refl _)))
          refine ret_m3 rfl rfl r9 rfl ?_
          exact ⟨by rw [HR.out], hB9⟩
    · have hlt' : ¬ (j : Int) < (l.length : Int) := by omega
      have HR : Hid (r = ⟨N, 0, 0⟩) := show _ = _ by rw [← hr]; unfold St.next; rw [if_neg (fun hh => by have := hh.1; omega), hN]
      clear hr hN hNX hX hju hj
      refine region_known (by kernel_rfl) (by kernel_rfl) 0 (by decide) (by kernel_rfl) (fun _ W => Gn w g w0.heap.size w.heap.size x y vo ve (.slice a l.length c) s co fin l ⟨N, 0, 0⟩ W) [.pointer (some ⟨g, 0, none⟩), .pointer (some ⟨g, 0, none⟩), .pointer (some ⟨g, 0, none⟩), .pointer (some ⟨g, 27, none⟩), .int .i64 (j : Int), .pointer (some ⟨g, 0, none⟩), .pointer (some ⟨g, 0, none⟩), .pointer (some ⟨g, 28, none⟩), .slice a l.length c, .int .i64 (l.length : Int), .bool false, .bool false, undef, undef, undef, undef, undef, undef, undef, undef, undef, undef, undef, undef, undef, undef, undef, .bool false] hG.drew ?step ?done
      case step =>
        intro L ix o' A W hj hI hL hd
        have hin : ix < 28 := by
          by_cases hl : ix < 28
          · exact hl
          · simp [hl] at hj
        have hsz : A.tmps.size = 56 := hI.size
        have hg := hI.g
        rcases ix with _ | ix
        · cases hj
          have e0 : A.eval (.tmp 0) = .pointer (some ⟨g, 0, none⟩) := hI.old 0 (by kernel_rfl)
          exact at_op rfl rfl (move_op rfl ⟨_, rfl, e0, hg⟩)
        rcases ix with _ | ix
        · cases hj
          have e0 : A.eval (.tmp 16) = .pointer (some ⟨g, 0, none⟩) := hI.val hd 0 16 rfl rfl (by kernel_rfl)
          exact at_op rfl rfl (nil_op rfl e0 ⟨_, rfl, rfl, hg⟩)
        rcases ix with _ | ix
        · cases hj
          have e0 : A.eval (.tmp 17) = .pointer (some ⟨g, 0, none⟩) := hI.val hd 1 17 rfl rfl (by kernel_rfl)
          refine at_op rfl rfl (val_op (v := .pointer (some ⟨g, 0, none⟩)) ?_ ⟨_, rfl, rfl, hg⟩)
          unfold execOp
          simp only [List.getElem_toArray, List.getElem_cons_zero, List.getElem_cons_succ, e0]
          simp [go_sem]
        rcases ix with _ | ix
        · cases hj
          have e0 : A.eval (.tmp 18) = .pointer (some ⟨g, 0, none⟩) := hI.val hd 2 18 rfl rfl (by kernel_rfl)
          refine at_op rfl rfl (val_op (v := .pointer (some ⟨g, 27, none⟩)) ?_ ⟨_, rfl, rfl, hg⟩)
          unfold execOp
          simp only [List.getElem_toArray, List.getElem_cons_zero, List.getElem_cons_succ, e0]
          simp [go_sem]
        rcases ix with _ | ix
        · cases hj
          have e0 : A.eval (.tmp 19) = .pointer (some ⟨g, 27, none⟩) := hI.val hd 3 19 rfl rfl (by kernel_rfl)
          exact at_op rfl rfl (load_op rfl Tryz.underlying2 e0 (by have := (gc hg.row).u; rwa [HU.out] at this) ⟨_, rfl, rfl, hg⟩)
        rcases ix with _ | ix
        · cases hj
          have e0 : A.eval (.tmp 0) = .pointer (some ⟨g, 0, none⟩) := hI.old 0 (by kernel_rfl)
          exact at_op rfl rfl (move_op rfl ⟨_, rfl, e0, hg⟩)
        rcases ix with _ | ix
        · cases hj
          have e0 : A.eval (.tmp 21) = .pointer (some ⟨g, 0, none⟩) := hI.val hd 5 21 rfl rfl (by kernel_rfl)
          exact at_op rfl rfl (nil_op rfl e0 ⟨_, rfl, rfl, hg⟩)
        rcases ix with _ | ix
        · cases hj
          have e0 : A.eval (.tmp 22) = .pointer (some ⟨g, 0, none⟩) := hI.val hd 6 22 rfl rfl (by kernel_rfl)
          refine at_op rfl rfl (val_op (v := .pointer (some ⟨g, 28, none⟩)) ?_ ⟨_, rfl, rfl, hg⟩)
          unfold execOp
          simp only [List.getElem_toArray, List.getElem_cons_zero, List.getElem_cons_succ, e0]
          simp [go_sem]
        rcases ix with _ | ix
        · cases hj
          have e0 : A.eval (.tmp 23) = .pointer (some ⟨g, 28, none⟩) := hI.val hd 7 23 rfl rfl (by kernel_rfl)
          exact at_op rfl rfl (ldv_op rfl Tryz.underlying31 rfl e0 (gc hg.row).vi ⟨_, rfl, rfl, hg⟩)
        rcases ix with _ | ix
        · cases hj
          have e0 : A.eval (.tmp 24) = .slice a l.length c := hI.val hd 8 24 rfl rfl (by kernel_rfl)
          exact at_op rfl rfl (lenM_op rfl e0 ⟨_, rfl, rfl, hg⟩)
        rcases ix with _ | ix
        · cases hj
          have e0 : A.eval (.tmp 20) = .int .i64 (j : Int) := hI.val hd 4 20 rfl rfl (by kernel_rfl)
          have e1 : A.eval (.tmp 25) = .int .i64 (l.length : Int) := hI.val hd 9 25 rfl rfl (by kernel_rfl)
          exact at_op rfl rfl (bin_op rfl e0 e1 (fun w => by first | (simp [go_sem]; done) | (simp [go_sem]; omega)) ⟨_, rfl, rfl, hg⟩)
        rcases ix with _ | ix
        · cases hj
          have e0 : A.eval (.tmp 26) = .bool false := hI.val hd 10 26 rfl rfl (by kernel_rfl)
          exact at_op rfl rfl (move_op rfl ⟨_, rfl, e0, hg⟩)
        rcases ix with _ | ix
        · cases hj
          have hgv : A.tmps.getD 27 undef = .bool false := hI.val hd 11 27 rfl rfl (by kernel_rfl)
          exact at_skip rfl rfl (j := 11) (k := 27) rfl (by rw [hgv]; simp [undef]) ⟨_, rfl, rfl, hg⟩
        rcases ix with _ | ix
        · cases hj
          have hgv : A.tmps.getD 27 undef = .bool false := hI.val hd 11 27 rfl rfl (by kernel_rfl)
          exact at_skip rfl rfl (j := 11) (k := 27) rfl (by rw [hgv]; simp [undef]) ⟨_, rfl, rfl, hg⟩
        rcases ix with _ | ix
        · cases hj
          have hgv : A.tmps.getD 27 undef = .bool false := hI.val hd 11 27 rfl rfl (by kernel_rfl)
          exact at_skip rfl rfl (j := 11) (k := 27) rfl (by rw [hgv]; simp [undef]) ⟨_, rfl, rfl, hg⟩
        rcases ix with _ | ix
        · cases hj
          have hgv : A.tmps.getD 27 undef = .bool false := hI.val hd 11 27 rfl rfl (by kernel_rfl)
          exact at_skip rfl rfl (j := 11) (k := 27) rfl (by rw [hgv]; simp [undef]) ⟨_, rfl, rfl, hg⟩
        rcases ix with _ | ix
        · cases hj
          have hgv : A.tmps.getD 27 undef = .bool false := hI.val hd 11 27 rfl rfl (by kernel_rfl)
          exact at_skip rfl rfl (j := 11) (k := 27) rfl (by rw [hgv]; simp [undef]) ⟨_, rfl, rfl, hg⟩
        rcases ix with _ | ix
        · cases hj
          have hgv : A.tmps.getD 27 undef = .bool false := hI.val hd 11 27 rfl rfl (by kernel_rfl)
          exact at_skip rfl rfl (j := 11) (k := 27) rfl (by rw [hgv]; simp [undef]) ⟨_, rfl, rfl, hg⟩
        rcases ix with _ | ix
        · cases hj
          have hgv : A.tmps.getD 27 undef = .bool false := hI.val hd 11 27 rfl rfl (by kernel_rfl)
          exact at_skip rfl rfl (j := 11) (k := 27) rfl (by rw [hgv]; simp [undef]) ⟨_, rfl, rfl, hg⟩
        rcases ix with _ | ix
        · cases hj
          have hgv : A.tmps.getD 27 undef = .bool false := hI.val hd 11 27 rfl rfl (by kernel_rfl)
          exact at_skip rfl rfl (j := 11) (k := 27) rfl (by rw [hgv]; simp [undef]) ⟨_, rfl, rfl, hg⟩
        rcases ix with _ | ix
        · cases hj
          have hgv : A.tmps.getD 27 undef = .bool false := hI.val hd 11 27 rfl rfl (by kernel_rfl)
          exact at_skip rfl rfl (j := 11) (k := 27) rfl (by rw [hgv]; simp [undef]) ⟨_, rfl, rfl, hg⟩
        rcases ix with _ | ix
        · cases hj
          have hgv : A.tmps.getD 27 undef = .bool false := hI.val hd 11 27 rfl rfl (by kernel_rfl)
          exact at_skip rfl rfl (j := 11) (k := 27) rfl (by rw [hgv]; simp [undef]) ⟨_, rfl, rfl, hg⟩
        rcases ix with _ | ix
        · cases hj
          have hgv : A.tmps.getD 27 undef = .bool false := hI.val hd 11 27 rfl rfl (by kernel_rfl)
          exact at_skip rfl rfl (j := 11) (k := 27) rfl (by rw [hgv]; simp [undef]) ⟨_, rfl, rfl, hg⟩
        rcases ix with _ | ix
        · cases hj
          have hgv : A.tmps.getD 27 undef = .bool false := hI.val hd 11 27 rfl rfl (by kernel_rfl)
          exact at_skip rfl rfl (j := 11) (k := 27) rfl (by rw [hgv]; simp [undef]) ⟨_, rfl, rfl, hg⟩
        rcases ix with _ | ix
        · cases hj
          have hgv : A.tmps.getD 27 undef = .bool false := hI.val hd 11 27 rfl rfl (by kernel_rfl)
          exact at_skip rfl rfl (j := 11) (k := 27) rfl (by rw [hgv]; simp [undef]) ⟨_, rfl, rfl, hg⟩
        rcases ix with _ | ix
        · cases hj
          have hgv : A.tmps.getD 27 undef = .bool false := hI.val hd 11 27 rfl rfl (by kernel_rfl)
          exact at_skip rfl rfl (j := 11) (k := 27) rfl (by rw [hgv]; simp [undef]) ⟨_, rfl, rfl, hg⟩
        rcases ix with _ | ix
        · cases hj
          have hgv : A.tmps.getD 27 undef = .bool false := hI.val hd 11 27 rfl rfl (by kernel_rfl)
          exact at_skip rfl rfl (j := 11) (k := 27) rfl (by rw [hgv]; simp [undef]) ⟨_, rfl, rfl, hg⟩
        rcases ix with _ | ix
        · cases hj
          have e0 : A.eval (.tmp 27) = .bool false := hI.val hd 11 27 rfl rfl (by kernel_rfl)
          have e1 : A.eval (.tmp 42) = undef := hI.val hd 26 42 rfl rfl (by kernel_rfl)
          exact at_op rfl rfl (pick_op rfl e0 ⟨_, rfl, rfl, hg⟩)
        omega
      case done =>
        intro A W hI
        have hg := hI.g
        have s43 : A.tmps.getD 43 undef = .bool false := hI.last 27 43 rfl
        have hA := hI.frame [16, 17, 18, 19, 20, 21, 22, 23, 24, 25, 26, 27, 28, 29, 30, 31, 32, 33, 34, 35, 36, 37, 38, 39, 40, 41, 42, 43] (by kernel_rfl)
        rw [hA]
        simp only [putAll, List.foldl_cons, List.foldl_nil, s43, Act.put, List.setIfInBounds_toArray, List.set_cons_zero, List.set_cons_succ]
        clear hA hI s43
        go_wp2_with (first
          | (refine ld_m3 rfl rfl rfl hg.own ?_)
          | (refine st_m3 rfl rfl rfl rfl hg.res ?_; rintro w9 r9 o9; have hB9 := below_onto hg.bel o9 (Nat.le_refl _)))
        refine ret_m3 rfl rfl r9 rfl ?_
        exact ⟨by rw [HR.out], hB9⟩
  · rw [if_neg hx] at hNX
    have hd : (X == 0) = false := by simpa using hx
    go_enter Tryz.func115, Tryz.ntmps115
    go_wp2_with (first
      | (refine al_m3 rfl rfl ?_; intro w0 z0 hb0; have h0 := h.below hb0; have sl0 := hsl.below hb0; have lz0 := z0.lt; have kx0 : w0.cell? ⟨g, 22, none⟩ = some (.int .i64 X) := by rw [hb0.cell (p := ⟨g, 22, none⟩) hgl]; exact kx)
      | (refine bd_m2 rfl rfl rfl ?_)
      | (refine al_m3 rfl rfl ?_; intro w1 q1 hb1; have h1 := h0.below hb1; have sl1 := sl0.below hb1; have z1 := z0.below hb1; have lq1 := q1.lt)
      | (refine st_m3 (m := ⟨X, 0, 0⟩) rfl rfl rfl rfl q1 ?_; rintro w2 q2 o2; have h2 := h1.onto o2 (by omega); have z2 := z1.onto o2 (by omega); have B2 := below_onto (below_more hb0 hb1) o2 (by omega); have sl2 := slF_onto sl1 o2 (fun h0' k hk => by have := sl0.lt h0' k hk; omega); have kq2 : w2.cell? ⟨w0.heap.size, 0, none⟩ = some (.int .i64 X) := q2.cell 0; clear kx kx0))
    have hG : Gn w g w0.heap.size w.heap.size x y vo ve (.slice a l.length c) s co fin l ⟨N, 0, 0⟩ w2 := ⟨h2, by rw [hNX]; exact q2, z2, sl2, B2⟩
    by_cases hlt : j < l.length
    · obtain ⟨b, off, c', e, -, -, -⟩ := hG.sl.shape (by omega)
      simp only [Value.slice.injEq] at e
      obtain ⟨rfl, -, rfl⟩ := e
      have hlt' : (j : Int) < (l.length : Int) := by omega
      obtain ⟨tt, htt⟩ : ∃ tt, (M3.at' l j).t = tt := ⟨_, rfl⟩
      have HT : Hid ((M3.at' l j).t = tt) := htt
      by_cases hn : tt ≤ N
      · have HR : Hid (r = M3.at' l j) := show _ = _ by rw [← hr]; unfold St.next; rw [hju, if_pos ⟨by omega, by rw [hN, htt]; exact hn⟩]
        clear htt hr hN hNX hX hju hj
        refine region_known (by kernel_rfl) (by kernel_rfl) 0 (by decide) (by kernel_rfl) (fun _ W => Gn w g w0.heap.size w.heap.size x y vo ve (.slice (some ⟨b, off, none⟩) l.length c) s co fin l ⟨N, 0, 0⟩ W) [.pointer (some ⟨g, 0, none⟩), .pointer (some ⟨g, 0, none⟩), .pointer (some ⟨g, 0, none⟩), .pointer (some ⟨g, 27, none⟩), .int .i64 (j : Int), .pointer (some ⟨g, 0, none⟩), .pointer (some ⟨g, 0, none⟩), .pointer (some ⟨g, 28, none⟩), .slice (some ⟨b, off, none⟩) l.length c, .int .i64 (l.length : Int), .bool true, .bool true, .pointer (some ⟨g, 0, none⟩), .pointer (some ⟨g, 0, none⟩), .pointer (some ⟨g, 28, none⟩), .slice (some ⟨b, off, none⟩) l.length c, .pointer (some ⟨g, 0, none⟩), .pointer (some ⟨g, 0, none⟩), .pointer (some ⟨g, 0, none⟩), .pointer (some ⟨g, 27, none⟩), .int .i64 (j : Int), .pointer (some ⟨b, off + j * 3, none⟩), .pointer (some ⟨b, off + j * 3, none⟩), .int .i64 tt, .pointer (some ⟨w0.heap.size, 0, none⟩), .int .i64 N, .bool true, .bool true] hG.drew ?step ?done
        case step =>
          intro L ix o' A W hj hI hL hd
          have hin : ix < 28 := by
            by_cases hl : ix < 28
            · exact hl
            · simp [hl] at hj
          have hsz : A.tmps.size = 56 := hI.size
          have hg := hI.g
          rcases ix with _ | ix
          · cases hj
            have e0 : A.eval (.tmp 0) = .pointer (some ⟨g, 0, none⟩) := hI.old 0 (by kernel_rfl)
            exact at_op rfl rfl (move_op rfl ⟨_, rfl, e0, hg⟩)
          rcases ix with _ | ix
          · cases hj
            have e0 : A.eval (.tmp 16) = .pointer (some ⟨g, 0, none⟩) := hI.val hd 0 16 rfl rfl (by kernel_rfl)
            exact at_op rfl rfl (nil_op rfl e0 ⟨_, rfl, rfl, hg⟩)
          rcases ix with _ | ix
          · cases hj
            have e0 : A.eval (.tmp 17) = .pointer (some ⟨g, 0, none⟩) := hI.val hd 1 17 rfl rfl (by kernel_rfl)
            refine at_op rfl rfl (val_op (v := .pointer (some ⟨g, 0, none⟩)) ?_ ⟨_, rfl, rfl, hg⟩)
            unfold execOp
            simp only [List.getElem_toArray, List.getElem_cons_zero, List.getElem_cons_succ, e0]
            simp [go_sem]
          rcases ix with _ | ix
          · cases hj
            have e0 : A.eval (.tmp 18) = .pointer (some ⟨g, 0, none⟩) := hI.val hd 2 18 rfl rfl (by kernel_rfl)
            refine at_op rfl rfl (val_op (v := .pointer (some ⟨g, 27, none⟩)) ?_ ⟨_, rfl, rfl, hg⟩)
            unfold execOp
            simp only [List.getElem_toArray, List.getElem_cons_zero, List.getElem_cons_succ, e0]
            simp [go_sem]
          rcases ix with _ | ix
          · cases hj
            have e0 : A.eval (.tmp 19) = .pointer (some ⟨g, 27, none⟩) := hI.val hd 3 19 rfl rfl (by kernel_rfl)
            exact at_op rfl rfl (load_op rfl Tryz.underlying2 e0 (by have := (gc hg.row).u; rwa [HU.out] at this) ⟨_, rfl, rfl, hg⟩)
          rcases ix with _ | ix
          · cases hj
            have e0 : A.eval (.tmp 0) = .pointer (some ⟨g, 0, none⟩) := hI.old 0 (by kernel_rfl)
            exact at_op rfl rfl (move_op rfl ⟨_, rfl, e0, hg⟩)
          rcases ix with _ | ix
          · cases hj
            have e0 : A.eval (.tmp 21) = .pointer (some ⟨g, 0, none⟩) := hI.val hd 5 21 rfl rfl (by kernel_rfl)
            exact at_op rfl rfl (nil_op rfl e0 ⟨_, rfl, rfl, hg⟩)
          rcases ix with _ | ix
          · cases hj
            have e0 : A.eval (.tmp 22) = .pointer (some ⟨g, 0, none⟩) := hI.val hd 6 22 rfl rfl (by kernel_rfl)
            refine at_op rfl rfl (val_op (v := .pointer (some ⟨g, 28, none⟩)) ?_ ⟨_, rfl, rfl, hg⟩)
            unfold execOp
            simp only [List.getElem_toArray, List.getElem_cons_zero, List.getElem_cons_succ, e0]
            simp [go_sem]
          rcases ix with _ | ix
          · cases hj
            have e0 : A.eval (.tmp 23) = .pointer (some ⟨g, 28, none⟩) := hI.val hd 7 23 rfl rfl (by kernel_rfl)
            exact at_op rfl rfl (ldv_op rfl Tryz.underlying31 rfl e0 (gc hg.row).vi ⟨_, rfl, rfl, hg⟩)
          rcases ix with _ | ix
          · cases hj
            have e0 : A.eval (.tmp 24) = .slice (some ⟨b, off, none⟩) l.length c := hI.val hd 8 24 rfl rfl (by kernel_rfl)
            exact at_op rfl rfl (lenM_op rfl e0 ⟨_, rfl, rfl, hg⟩)
          rcases ix with _ | ix
          · cases hj
            have e0 : A.eval (.tmp 20) = .int .i64 (j : Int) := hI.val hd 4 20 rfl rfl (by kernel_rfl)
            have e1 : A.eval (.tmp 25) = .int .i64 (l.length : Int) := hI.val hd 9 25 rfl rfl (by kernel_rfl)
            exact at_op rfl rfl (bin_op rfl e0 e1 (fun w => by first | (simp [go_sem]; done) | (simp [go_sem]; omega)) ⟨_, rfl, rfl, hg⟩)
          rcases ix with _ | ix
          · cases hj
            have e0 : A.eval (.tmp 26) = .bool true := hI.val hd 10 26 rfl rfl (by kernel_rfl)
            exact at_op rfl rfl (move_op rfl ⟨_, rfl, e0, hg⟩)
          rcases ix with _ | ix
          · cases hj
            have hgv : A.tmps.getD 27 undef = .bool true := hI.val hd 11 27 rfl rfl (by kernel_rfl)
            have e0 : A.eval (.tmp 0) = .pointer (some ⟨g, 0, none⟩) := hI.old 0 (by kernel_rfl)
            exact at_guard rfl rfl (j := 11) (k := 27) rfl (by omega) hgv (move_op rfl ⟨_, rfl, e0, hg⟩)
          rcases ix with _ | ix
          · cases hj
            have hgv : A.tmps.getD 27 undef = .bool true := hI.val hd 11 27 rfl rfl (by kernel_rfl)
            have e0 : A.eval (.tmp 28) = .pointer (some ⟨g, 0, none⟩) := hI.val hd 12 28 rfl rfl (by kernel_rfl)
            exact at_guard rfl rfl (j := 11) (k := 27) rfl (by omega) hgv (nil_op rfl e0 ⟨_, rfl, rfl, hg⟩)
          rcases ix with _ | ix
          · cases hj
            have hgv : A.tmps.getD 27 undef = .bool true := hI.val hd 11 27 rfl rfl (by kernel_rfl)
            have e0 : A.eval (.tmp 29) = .pointer (some ⟨g, 0, none⟩) := hI.val hd 13 29 rfl rfl (by kernel_rfl)
            refine at_guard rfl rfl (j := 11) (k := 27) rfl (by omega) hgv (val_op (v := .pointer (some ⟨g, 28, none⟩)) ?_ ⟨_, rfl, rfl, hg⟩)
            unfold execOp
            simp only [List.getElem_toArray, List.getElem_cons_zero, List.getElem_cons_succ, e0]
            simp [go_sem]
          rcases ix with _ | ix
          · cases hj
            have hgv : A.tmps.getD 27 undef = .bool true := hI.val hd 11 27 rfl rfl (by kernel_rfl)
            have e0 : A.eval (.tmp 30) = .pointer (some ⟨g, 28, none⟩) := hI.val hd 14 30 rfl rfl (by kernel_rfl)
            exact at_guard rfl rfl (j := 11) (k := 27) rfl (by omega) hgv (ldv_op rfl Tryz.underlying31 rfl e0 (gc hg.row).vi ⟨_, rfl, rfl, hg⟩)
          rcases ix with _ | ix
          · cases hj
            have hgv : A.tmps.getD 27 undef = .bool true := hI.val hd 11 27 rfl rfl (by kernel_rfl)
            have e0 : A.eval (.tmp 0) = .pointer (some ⟨g, 0, none⟩) := hI.old 0 (by kernel_rfl)
            exact at_guard rfl rfl (j := 11) (k := 27) rfl (by omega) hgv (move_op rfl ⟨_, rfl, e0, hg⟩)
          rcases ix with _ | ix
          · cases hj
            have hgv : A.tmps.getD 27 undef = .bool true := hI.val hd 11 27 rfl rfl (by kernel_rfl)
            have e0 : A.eval (.tmp 32) = .pointer (some ⟨g, 0, none⟩) := hI.val hd 16 32 rfl rfl (by kernel_rfl)
            exact at_guard rfl rfl (j := 11) (k := 27) rfl (by omega) hgv (nil_op rfl e0 ⟨_, rfl, rfl, hg⟩)
          rcases ix with _ | ix
          · cases hj
            have hgv : A.tmps.getD 27 undef = .bool true := hI.val hd 11 27 rfl rfl (by kernel_rfl)
            have e0 : A.eval (.tmp 33) = .pointer (some ⟨g, 0, none⟩) := hI.val hd 17 33 rfl rfl (by kernel_rfl)
            refine at_guard rfl rfl (j := 11) (k := 27) rfl (by omega) hgv (val_op (v := .pointer (some ⟨g, 0, none⟩)) ?_ ⟨_, rfl, rfl, hg⟩)
            unfold execOp
            simp only [List.getElem_toArray, List.getElem_cons_zero, List.getElem_cons_succ, e0]
            simp [go_sem]
          rcases ix with _ | ix
          · cases hj
            have hgv : A.tmps.getD 27 undef = .bool true := hI.val hd 11 27 rfl rfl (by kernel_rfl)
            have e0 : A.eval (.tmp 34) = .pointer (some ⟨g, 0, none⟩) := hI.val hd 18 34 rfl rfl (by kernel_rfl)
            refine at_guard rfl rfl (j := 11) (k := 27) rfl (by omega) hgv (val_op (v := .pointer (some ⟨g, 27, none⟩)) ?_ ⟨_, rfl, rfl, hg⟩)
            unfold execOp
            simp only [List.getElem_toArray, List.getElem_cons_zero, List.getElem_cons_succ, e0]
            simp [go_sem]
          rcases ix with _ | ix
          · cases hj
            have hgv : A.tmps.getD 27 undef = .bool true := hI.val hd 11 27 rfl rfl (by kernel_rfl)
            have e0 : A.eval (.tmp 35) = .pointer (some ⟨g, 27, none⟩) := hI.val hd 19 35 rfl rfl (by kernel_rfl)
            exact at_guard rfl rfl (j := 11) (k := 27) rfl (by omega) hgv (load_op rfl Tryz.underlying2 e0 (by have := (gc hg.row).u; rwa [HU.out] at this) ⟨_, rfl, rfl, hg⟩)
          rcases ix with _ | ix
          · cases hj
            have hgv : A.tmps.getD 27 undef = .bool true := hI.val hd 11 27 rfl rfl (by kernel_rfl)
            have e0 : A.eval (.tmp 31) = .slice (some ⟨b, off, none⟩) l.length c := hI.val hd 15 31 rfl rfl (by kernel_rfl)
            have e1 : A.eval (.tmp 36) = .int .i64 (j : Int) := hI.val hd 20 36 rfl rfl (by kernel_rfl)
            exact at_guard rfl rfl (j := 11) (k := 27) rfl (by omega) hgv (ixF_op okM rfl e0 e1 (by omega) ⟨_, rfl, rfl, hg⟩)
          rcases ix with _ | ix
          · cases hj
            have hgv : A.tmps.getD 27 undef = .bool true := hI.val hd 11 27 rfl rfl (by kernel_rfl)
            have e0 : A.eval (.tmp 37) = .pointer (some ⟨b, off + j * 3, none⟩) := hI.val hd 21 37 rfl rfl (by kernel_rfl)
            refine at_guard rfl rfl (j := 11) (k := 27) rfl (by omega) hgv (val_op (v := .pointer (some ⟨b, off + j * 3, none⟩)) ?_ ⟨_, rfl, rfl, hg⟩)
            unfold execOp
            simp only [List.getElem_toArray, List.getElem_cons_zero, List.getElem_cons_succ, e0]
            simp [go_sem]
          rcases ix with _ | ix
          · cases hj
            have hgv : A.tmps.getD 27 undef = .bool true := hI.val hd 11 27 rfl rfl (by kernel_rfl)
            have e0 : A.eval (.tmp 38) = .pointer (some ⟨b, off + j * 3, none⟩) := hI.val hd 22 38 rfl rfl (by kernel_rfl)
            exact at_guard rfl rfl (j := 11) (k := 27) rfl (by omega) hgv (load_op rfl Tryz.underlying2 e0 (by rw [← HT.out]; exact hg.sl.cell okM (at_some (by omega)) (j := 0) (by decide)) ⟨_, rfl, rfl, hg⟩)
          rcases ix with _ | ix
          · cases hj
            have hgv : A.tmps.getD 27 undef = .bool true := hI.val hd 11 27 rfl rfl (by kernel_rfl)
            have e0 : A.eval (.tmp 3) = .pointer (some ⟨w0.heap.size, 0, none⟩) := hI.old 3 (by kernel_rfl)
            refine at_guard rfl rfl (j := 11) (k := 27) rfl (by omega) hgv (val_op (v := .pointer (some ⟨w0.heap.size, 0, none⟩)) ?_ ⟨_, rfl, rfl, hg⟩)
            unfold execOp
            simp only [List.getElem_toArray, List.getElem_cons_zero, List.getElem_cons_succ, e0]
            simp [go_sem]
          rcases ix with _ | ix
          · cases hj
            have hgv : A.tmps.getD 27 undef = .bool true := hI.val hd 11 27 rfl rfl (by kernel_rfl)
            have e0 : A.eval (.tmp 40) = .pointer (some ⟨w0.heap.size, 0, none⟩) := hI.val hd 24 40 rfl rfl (by kernel_rfl)
            exact at_guard rfl rfl (j := 11) (k := 27) rfl (by omega) hgv (load_op rfl Tryz.underlying2 e0 (hg.own.cell 0) ⟨_, rfl, rfl, hg⟩)
          rcases ix with _ | ix
          · cases hj
            have hgv : A.tmps.getD 27 undef = .bool true := hI.val hd 11 27 rfl rfl (by kernel_rfl)
            have e0 : A.eval (.tmp 39) = .int .i64 tt := hI.val hd 23 39 rfl rfl (by kernel_rfl)
            have e1 : A.eval (.tmp 41) = .int .i64 N := hI.val hd 25 41 rfl rfl (by kernel_rfl)
            exact at_guard rfl rfl (j := 11) (k := 27) rfl (by omega) hgv (bin_op rfl e0 e1 (fun w => by first | (simp [go_sem, hn]; done) | (simp [go_sem]; omega)) ⟨_, rfl, rfl, hg⟩)
          rcases ix with _ | ix
          · cases hj
            have e0 : A.eval (.tmp 27) = .bool true := hI.val hd 11 27 rfl rfl (by kernel_rfl)
            have e1 : A.eval (.tmp 42) = .bool true := hI.val hd 26 42 rfl rfl (by kernel_rfl)
            exact at_op rfl rfl (pick_op rfl e0 ⟨_, rfl, e1, hg⟩)
          omega
        case done =>
          intro A W hI
          have hg := hI.g
          have s43 : A.tmps.getD 43 undef = .bool true := hI.last 27 43 rfl
          have hA := hI.frame [16, 17, 18, 19, 20, 21, 22, 23, 24, 25, 26, 27, 28, 29, 30, 31, 32, 33, 34, 35, 36, 37, 38, 39, 40, 41, 42, 43] (by kernel_rfl)
          rw [hA]
          simp only [putAll, List.foldl_cons, List.foldl_nil, s43, Act.put, List.setIfInBounds_toArray, List.set_cons_zero, List.set_cons_succ]
          clear hA hI s43
          go_wp2_with fail
          refine region_last (by kernel_rfl) (by kernel_rfl) 11 (by decide) (by kernel_rfl) (by kernel_rfl) (fun W => Gn w g w0.heap.size w.heap.size x y vo ve (.slice (some ⟨b, off, none⟩) l.length c) s co fin l ⟨N, 0, 0⟩ W) (fun W => M3Row W w.heap.size (M3.at' l j) ∧ Below w.heap.size w W) [.pointer (some ⟨g, 0, none⟩), .pointer (some ⟨g, 0, none⟩), .pointer (some ⟨g, 28, none⟩), .slice (some ⟨b, off, none⟩) l.length c, .pointer (some ⟨g, 0, none⟩), .pointer (some ⟨g, 0, none⟩), .pointer (some ⟨g, 0, none⟩), .pointer (some ⟨g, 27, none⟩), .int .i64 (j : Int), .pointer (some ⟨b, off + j * 3, none⟩), (M3.at' l j).val, undef] hg.drew ?step ?last ?done
          case step =>
            intro L ix o' A W hne hj hI hg hd
            have hin : ix < 12 := by
              by_cases hl : ix < 12
              · exact hl
              · simp [hl] at hj
            have hsz : A.tmps.size = 56 := hI.size
            rcases ix with _ | ix
            · cases hj
              have e0 : A.eval (.tmp 0) = .pointer (some ⟨g, 0, none⟩) := hI.old 0 (by kernel_rfl)
              exact at_op rfl rfl (move_op rfl ⟨_, rfl, e0, hg⟩)
            rcases ix with _ | ix
            · cases hj
              have e0 : A.eval (.tmp 44) = .pointer (some ⟨g, 0, none⟩) := hI.val hd 0 44 rfl rfl (by kernel_rfl)
              exact at_op rfl rfl (nil_op rfl e0 ⟨_, rfl, rfl, hg⟩)
            rcases ix with _ | ix
            · cases hj
              have e0 : A.eval (.tmp 45) = .pointer (some ⟨g, 0, none⟩) := hI.val hd 1 45 rfl rfl (by kernel_rfl)
              refine at_op rfl rfl (val_op (v := .pointer (some ⟨g, 28, none⟩)) ?_ ⟨_, rfl, rfl, hg⟩)
              unfold execOp
              simp only [List.getElem_toArray, List.getElem_cons_zero, List.getElem_cons_succ, e0]
              simp [go_sem]
            rcases ix with _ | ix
            · cases hj
              have e0 : A.eval (.tmp 46) = .pointer (some ⟨g, 28, none⟩) := hI.val hd 2 46 rfl rfl (by kernel_rfl)
              exact at_op rfl rfl (ldv_op rfl Tryz.underlying31 rfl e0 (gc hg.row).vi ⟨_, rfl, rfl, hg⟩)
            rcases ix with _ | ix
            · cases hj
              have e0 : A.eval (.tmp 0) = .pointer (some ⟨g, 0, none⟩) := hI.old 0 (by kernel_rfl)
              exact at_op rfl rfl (move_op rfl ⟨_, rfl, e0, hg⟩)
            rcases ix with _ | ix
            · cases hj
              have e0 : A.eval (.tmp 48) = .pointer (some ⟨g, 0, none⟩) := hI.val hd 4 48 rfl rfl (by kernel_rfl)
              exact at_op rfl rfl (nil_op rfl e0 ⟨_, rfl, rfl, hg⟩)
            rcases ix with _ | ix
            · cases hj
              have e0 : A.eval (.tmp 49) = .pointer (some ⟨g, 0, none⟩) := hI.val hd 5 49 rfl rfl (by kernel_rfl)
              refine at_op rfl rfl (val_op (v := .pointer (some ⟨g, 0, none⟩)) ?_ ⟨_, rfl, rfl, hg⟩)
              unfold execOp
              simp only [List.getElem_toArray, List.getElem_cons_zero, List.getElem_cons_succ, e0]
              simp [go_sem]
            rcases ix with _ | ix
            · cases hj
              have e0 : A.eval (.tmp 50) = .pointer (some ⟨g, 0, none⟩) := hI.val hd 6 50 rfl rfl (by kernel_rfl)
              refine at_op rfl rfl (val_op (v := .pointer (some ⟨g, 27, none⟩)) ?_ ⟨_, rfl, rfl, hg⟩)
              unfold execOp
              simp only [List.getElem_toArray, List.getElem_cons_zero, List.getElem_cons_succ, e0]
              simp [go_sem]
            rcases ix with _ | ix
            · cases hj
              have e0 : A.eval (.tmp 51) = .pointer (some ⟨g, 27, none⟩) := hI.val hd 7 51 rfl rfl (by kernel_rfl)
              exact at_op rfl rfl (load_op rfl Tryz.underlying2 e0 (by have := (gc hg.row).u; rwa [HU.out] at this) ⟨_, rfl, rfl, hg⟩)
            rcases ix with _ | ix
            · cases hj
              have e0 : A.eval (.tmp 47) = .slice (some ⟨b, off, none⟩) l.length c := hI.val hd 3 47 rfl rfl (by kernel_rfl)
              have e1 : A.eval (.tmp 52) = .int .i64 (j : Int) := hI.val hd 8 52 rfl rfl (by kernel_rfl)
              exact at_op rfl rfl (ixF_op okM rfl e0 e1 (by omega) ⟨_, rfl, rfl, hg⟩)
            rcases ix with _ | ix
            · cases hj
              have e0 : A.eval (.tmp 53) = .pointer (some ⟨b, off + j * 3, none⟩) := hI.val hd 9 53 rfl rfl (by kernel_rfl)
              exact at_op rfl rfl (elF_op okM rfl e0 (hg.sl.range okM (at_some (by omega))) ⟨_, rfl, rfl, hg⟩)
            rcases ix with _ | ix
            · exact absurd rfl hne
            omega
          case last =>
            intro L o' A W hj hI hg hd
            cases hj
            have e0 : A.eval (.tmp 2) = .pointer (some ⟨w.heap.size, 0, none⟩) := hI.old 2 (by kernel_rfl)
            have e1 : A.eval (.tmp 54) = (M3.at' l j).val := hI.val hd 10 54 rfl rfl (by kernel_rfl)
            exact at_op rfl rfl (stRow_op rfl e0 e1 hg.res info_m3 rfl (by simp [Value.oneCell']) (fun W2 r2 o2 => ⟨_, rfl, rfl, r2, below_onto hg.bel o2 (Nat.le_refl _)⟩))
          case done =>
            intro A W hI hE
            have hA := hI.frame [44, 45, 46, 47, 48, 49, 50, 51, 52, 53, 54] (by kernel_rfl)
            rw [hA]
            simp only [putAll, List.foldl_cons, List.foldl_nil, Act.put, List.setIfInBounds_toArray, List.set_cons_zero, List.set_cons_succ]
            clear hA hI 
            go_wp2_with fail
            refine ret_m3 rfl rfl hE.1 rfl ?_
            exact ⟨by rw [HR.out], hE.2⟩
      · have HR : Hid (r = ⟨N, 0, 0⟩) := show _ = _ by rw [← hr]; unfold St.next; rw [hju, if_neg (fun hh => hn (by have := hh.2; rwa [hN, htt] at this)), hN]
        clear htt hr hN hNX hX hju hj
        refine region_known (by kernel_rfl) (by kernel_rfl) 0 (by decide) (by kernel_rfl) (fun _ W => Gn w g w0.heap.size w.heap.size x y vo ve (.slice (some ⟨b, off, none⟩) l.length c) s co fin l ⟨N, 0, 0⟩ W) [.pointer (some ⟨g, 0, none⟩), .pointer (some ⟨g, 0, none⟩), .pointer (some ⟨g, 0, none⟩), .pointer (some ⟨g, 27, none⟩), .int .i64 (j : Int), .pointer (some ⟨g, 0, none⟩), .pointer (some ⟨g, 0, none⟩), .pointer (some ⟨g, 28, none⟩), .slice (some ⟨b, off, none⟩) l.length c, .int .i64 (l.length : Int), .bool true, .bool true, .pointer (some ⟨g, 0, none⟩), .pointer (some ⟨g, 0, none⟩), .pointer (some ⟨g, 28, none⟩), .slice (some ⟨b, off, none⟩) l.length c, .pointer (some ⟨g, 0, none⟩), .pointer (some ⟨g, 0, none⟩), .pointer (some ⟨g, 0, none⟩), .pointer (some ⟨g, 27, none⟩), .int .i64 (j : Int), .pointer (some ⟨b, off + j * 3, none⟩), .pointer (some ⟨b, off + j * 3, none⟩), .int .i64 tt, .pointer (some ⟨w0.heap.size, 0, none⟩), .int .i64 N, .bool false, .bool false] hG.drew ?step ?done
        case step =>
          intro L ix o' A W hj hI hL hd
          have hin : ix < 28 := by
            by_cases hl : ix < 28
            · exact hl
            · simp [hl] at hj
          have hsz : A.tmps.size = 56 := hI.size
          have hg := hI.g
          rcases ix with _ | ix
          · cases hj
            have e0 : A.eval (.tmp 0) = .pointer (some ⟨g, 0, none⟩) := hI.old 0 (by kernel_rfl)
            exact at_op rfl rfl (move_op rfl ⟨_, rfl, e0, hg⟩)
          rcases ix with _ | ix
          · cases hj
            have e0 : A.eval (.tmp 16) = .pointer (some ⟨g, 0, none⟩) := hI.val hd 0 16 rfl rfl (by kernel_rfl)
            exact at_op rfl rfl (nil_op rfl e0 ⟨_, rfl, rfl, hg⟩)
          rcases ix with _ | ix
          · cases hj
            have e0 : A.eval (.tmp 17) = .pointer (some ⟨g, 0, none⟩) := hI.val hd 1 17 rfl rfl (by kernel_rfl)
            refine at_op rfl rfl (val_op (v := .pointer (some ⟨g, 0, none⟩)) ?_ ⟨_, rfl, rfl, hg⟩)
            unfold execOp
            simp only [List.getElem_toArray, List.getElem_cons_zero, List.getElem_cons_succ, e0]
            simp [go_sem]
          rcases ix with _ | ix
          · cases hj
            have e0 : A.eval (.tmp 18) = .pointer (some ⟨g, 0, none⟩) := hI.val hd 2 18 rfl rfl (by kernel_rfl)
            refine at_op rfl rfl (val_op (v := .pointer (some ⟨g, 27, none⟩)) ?_ ⟨_, rfl, rfl, hg⟩)
            unfold execOp
            simp only [List.getElem_toArray, List.getElem_cons_zero, List.getElem_cons_succ, e0]
            simp [go_sem]
          rcases ix with _ | ix
          · cases hj
            have e0 : A.eval (.tmp 19) = .pointer (some ⟨g, 27, none⟩) := hI.val hd 3 19 rfl rfl (by kernel_rfl)
            exact at_op rfl rfl (load_op rfl Tryz.underlying2 e0 (by have := (gc hg.row).u; rwa [HU.out] at this) ⟨_, rfl, rfl, hg⟩)
          rcases ix with _ | ix
          · cases hj
            have e0 : A.eval (.tmp 0) = .pointer (some ⟨g, 0, none⟩) := hI.old 0 (by kernel_rfl)
            exact at_op rfl rfl (move_op rfl ⟨_, rfl, e0, hg⟩)
          rcases ix with _ | ix
          · cases hj
            have e0 : A.eval (.tmp 21) = .pointer (some ⟨g, 0, none⟩) := hI.val hd 5 21 rfl rfl (by kernel_rfl)
            exact at_op rfl rfl (nil_op rfl e0 ⟨_, rfl, rfl, hg⟩)
          rcases ix with _ | ix
          · cases hj
            have e0 : A.eval (.tmp 22) = .pointer (some ⟨g, 0, none⟩) := hI.val hd 6 22 rfl rfl (by kernel_rfl)
            refine at_op rfl rfl (val_op (v := .pointer (some ⟨g, 28, none⟩)) ?_ ⟨_, rfl, rfl, hg⟩)
            unfold execOp
            simp only [List.getElem_toArray, List.getElem_cons_zero, List.getElem_cons_succ, e0]
            simp [go_sem]
          rcases ix with _ | ix
          · cases hj
            have e0 : A.eval (.tmp 23) = .pointer (some ⟨g, 28, none⟩) := hI.val hd 7 23 rfl rfl (by kernel_rfl)
            exact at_op rfl rfl (ldv_op rfl Tryz.underlying31 rfl e0 (gc hg.row).vi ⟨_, rfl, rfl, hg⟩)
          rcases ix with _ | ix
          · cases hj
            have e0 : A.eval (.tmp 24) = .slice (some ⟨b, off, none⟩) l.length c := hI.val hd 8 24 rfl rfl (by kernel_rfl)
            exact at_op rfl rfl (lenM_op rfl e0 ⟨_, rfl, rfl, hg⟩)
          rcases ix with _ | ix
          · cases hj
            have e0 : A.eval (.tmp 20) = .int .i64 (j : Int) := hI.val hd 4 20 rfl rfl (by kernel_rfl)
            have e1 : A.eval (.tmp 25) = .int .i64 (l.length : Int) := hI.val hd 9 25 rfl rfl (by kernel_rfl)
            exact at_op rfl rfl (bin_op rfl e0 e1 (fun w => by first | (simp [go_sem]; done) | (simp [go_sem]; omega)) ⟨_, rfl, rfl, hg⟩)
          rcases ix with _ | ix
          · cases hj
            have e0 : A.eval (.tmp 26) = .bool true := hI.val hd 10 26 rfl rfl (by kernel_rfl)
            exact at_op rfl rfl (move_op rfl ⟨_, rfl, e0, hg⟩)
          rcases ix with _ | ix
          · cases hj
            have hgv : A.tmps.getD 27 undef = .bool true := hI.val hd 11 27 rfl rfl (by kernel_rfl)
            have e0 : A.eval (.tmp 0) = .pointer (some ⟨g, 0, none⟩) := hI.old 0 (by kernel_rfl)
            exact at_guard rfl rfl (j := 11) (k := 27) rfl (by omega) hgv (move_op rfl ⟨_, rfl, e0, hg⟩)
          rcases ix with _ | ix
          · cases hj
            have hgv : A.tmps.getD 27 undef = .bool true := hI.val hd 11 27 rfl rfl (by kernel_rfl)
            have e0 : A.eval (.tmp 28) = .pointer (some ⟨g, 0, none⟩) := hI.val hd 12 28 rfl rfl (by kernel_rfl)
            exact at_guard rfl rfl (j := 11) (k := 27) rfl (by omega) hgv (nil_op rfl e0 ⟨_, rfl, rfl, hg⟩)
          rcases ix with _ | ix
          · cases hj
            have hgv : A.tmps.getD 27 undef = .bool true := hI.val hd 11 27 rfl rfl (by kernel_rfl)
            have e0 : A.eval (.tmp 29) = .pointer (some ⟨g, 0, none⟩) := hI.val hd 13 29 rfl rfl (by kernel_rfl)
            refine at_guard rfl rfl (j := 11) (k := 27) rfl (by omega) hgv (val_op (v := .pointer (some ⟨g, 28, none⟩)) ?_ ⟨_, rfl, rfl, hg⟩)
            unfold execOp
            simp only [List.getElem_toArray, List.getElem_cons_zero, List.getElem_cons_succ, e0]
            simp [go_sem]
          rcases ix with _ | ix
          · cases hj
            have hgv : A.tmps.getD 27 undef = .bool true := hI.val hd 11 27 rfl rfl (by kernel_rfl)
            have e0 : A.eval (.tmp 30) = .pointer (some ⟨g, 28, none⟩) := hI.val hd 14 30 rfl rfl (by kernel_rfl)
            exact at_guard rfl rfl (j := 11) (k := 27) rfl (by omega) hgv (ldv_op rfl Tryz.underlying31 rfl e0 (gc hg.row).vi ⟨_, rfl, rfl, hg⟩)
          rcases ix with _ | ix
          · cases hj
            have hgv : A.tmps.getD 27 undef = .bool true := hI.val hd 11 27 rfl rfl (by kernel_rfl)
            have e0 : A.eval (.tmp 0) = .pointer (some ⟨g, 0, none⟩) := hI.old 0 (by kernel_rfl)
            exact at_guard rfl rfl (j := 11) (k := 27) rfl (by omega) hgv (move_op rfl ⟨_, rfl, e0, hg⟩)
          rcases ix with _ | ix
          · cases hj
            have hgv : A.tmps.getD 27 undef = .bool true := hI.val hd 11 27 rfl rfl (by kernel_rfl)
            have e0 : A.eval (.tmp 32) = .pointer (some ⟨g, 0, none⟩) := hI.val hd 16 32 rfl rfl (by kernel_rfl)
            exact at_guard rfl rfl (j := 11) (k := 27) rfl (by omega) hgv (nil_op rfl e0 ⟨_, rfl, rfl, hg⟩)
          rcases ix with _ | ix
          · cases hj
            have hgv : A.tmps.getD 27 undef = .bool true := hI.val hd 11 27 rfl rfl (by kernel_rfl)
            have e0 : A.eval (.tmp 33) = .pointer (some ⟨g, 0, none⟩) := hI.val hd 17 33 rfl rfl (by kernel_rfl)
            refine at_guard rfl rfl (j := 11) (k := 27) rfl (by omega) hgv (val_op (v := .pointer (some ⟨g, 0, none⟩)) ?_ ⟨_, rfl, rfl, hg⟩)
            unfold execOp
            simp only [List.getElem_toArray, List.getElem_cons_zero, List.getElem_cons_succ, e0]
            simp [go_sem]
          rcases ix with _ | ix
          · cases hj
            have hgv : A.tmps.getD 27 undef = .bool true := hI.val hd 11 27 rfl rfl (by kernel_rfl)
            have e0 : A.eval (.tmp 34) = .pointer (some ⟨g, 0, none⟩) := hI.val hd 18 34 rfl rfl (by kernel_rfl)
            refine at_guard rfl rfl (j := 11) (k := 27) rfl (by omega) hgv (val_op (v := .pointer (some ⟨g, 27, none⟩)) ?_ ⟨_, rfl, rfl, hg⟩)
            unfold execOp
            simp only [List.getElem_toArray, List.getElem_cons_zero, List.getElem_cons_succ, e0]
            simp [go_sem]
          rcases ix with _ | ix
          · cases hj
            have hgv : A.tmps.getD 27 undef = .bool true := hI.val hd 11 27 rfl rfl (by kernel_rfl)
            have e0 : A.eval (.tmp 35) = .pointer (some ⟨g, 27, none⟩) := hI.val hd 19 35 rfl rfl (by kernel_rfl)
            exact at_guard rfl rfl (j := 11) (k := 27) rfl (by omega) hgv (load_op rfl Tryz.underlying2 e0 (by have := (gc hg.row).u; rwa [HU.out] at this) ⟨_, rfl, rfl, hg⟩)
          rcases ix with _ | ix
          · cases hj
            have hgv : A.tmps.getD 27 undef = .bool true := hI.val hd 11 27 rfl rfl (by kernel_rfl)
            have e0 : A.eval (.tmp 31) = .slice (some ⟨b, off, none⟩) l.length c := hI.val hd 15 31 rfl rfl (by kernel_rfl)
            have e1 : A.eval (.tmp 36) = .int .i64 (j : Int) := hI.val hd 20 36 rfl rfl (by kernel_rfl)
            exact at_guard rfl rfl (j := 11) (k := 27) rfl (by omega) hgv (ixF_op okM rfl e0 e1 (by omega) ⟨_, rfl, rfl, hg⟩)
          rcases ix with _ | ix
          · cases hj
            have hgv : A.tmps.getD 27 undef = .bool true := hI.val hd 11 27 rfl rfl (by kernel_rfl)
            have e0 : A.eval (.tmp 37) = .pointer (some ⟨b, off + j * 3, none⟩) := hI.val hd 21 37 rfl rfl (by kernel_rfl)
            refine at_guard rfl rfl (j := 11) (k := 27) rfl (by omega) hgv (val_op (v := .pointer (some ⟨b, off + j * 3, none⟩)) ?_ ⟨_, rfl, rfl, hg⟩)
            unfold execOp
            simp only [List.getElem_toArray, List.getElem_cons_zero, List.getElem_cons_succ, e0]
            simp [go_sem]
          rcases ix with _ | ix
          · cases hj
            have hgv : A.tmps.getD 27 undef = .bool true := hI.val hd 11 27 rfl rfl (by kernel_rfl)
            have e0 : A.eval (.tmp 38) = .pointer (some ⟨b, off + j * 3, none⟩) := hI.val hd 22 38 rfl rfl (by kernel_rfl)
            exact at_guard rfl rfl (j := 11) (k := 27) rfl (by omega) hgv (load_op rfl Tryz.underlying2 e0 (by rw [← HT.out]; exact hg.sl.cell okM (at_some (by omega)) (j := 0) (by decide)) ⟨_, rfl, rfl, hg⟩)
          rcases ix with _ | ix
          · cases hj
            have hgv : A.tmps.getD 27 undef = .bool true := hI.val hd 11 27 rfl rfl (by kernel_rfl)
            have e0 : A.eval (.tmp 3) = .pointer (some ⟨w0.heap.size, 0, none⟩) := hI.old 3 (by kernel_rfl)
            refine at_guard rfl rfl (j := 11) (k := 27) rfl (by omega) hgv (val_op (v := .pointer (some ⟨w0.heap.size, 0, none⟩)) ?_ ⟨_, rfl, rfl, hg⟩)
            unfold execOp
            simp only [List.getElem_toArray, List.getElem_cons_zero, List.getElem_cons_succ, e0]
            simp [go_sem]
          rcases ix with _ | ix
          · cases hj
            have hgv : A.tmps.getD 27 undef = .bool true := hI.val hd 11 27 rfl rfl (by kernel_rfl)
            have e0 : A.eval (.tmp 40) = .pointer (some ⟨w0.heap.size, 0, none⟩) := hI.val hd 24 40 rfl rfl (by kernel_rfl)
            exact at_guard rfl rfl (j := 11) (k := 27) rfl (by omega) hgv (load_op rfl Tryz.underlying2 e0 (hg.own.cell 0) ⟨_, rfl, rfl, hg⟩)
          rcases ix with _ | ix
          · cases hj
            have hgv : A.tmps.getD 27 undef = .bool true := hI.val hd 11 27 rfl rfl (by kernel_rfl)
            have e0 : A.eval (.tmp 39) = .int .i64 tt := hI.val hd 23 39 rfl rfl (by kernel_rfl)
            have e1 : A.eval (.tmp 41) = .int .i64 N := hI.val hd 25 41 rfl rfl (by kernel_rfl)
            exact at_guard rfl rfl (j := 11) (k := 27) rfl (by omega) hgv (bin_op rfl e0 e1 (fun w => by first | (simp [go_sem, hn]; done) | (simp [go_sem]; omega)) ⟨_, rfl, rfl, hg⟩)
          rcases ix with _ | ix
          · cases hj
            have e0 : A.eval (.tmp 27) = .bool true := hI.val hd 11 27 rfl rfl (by kernel_rfl)
            have e1 : A.eval (.tmp 42) = .bool false := hI.val hd 26 42 rfl rfl (by kernel_rfl)
            exact at_op rfl rfl (pick_op rfl e0 ⟨_, rfl, e1, hg⟩)
          omega
        case done =>
          intro A W hI
          have hg := hI.g
          have s43 : A.tmps.getD 43 undef = .bool false := hI.last 27 43 rfl
          have hA := hI.frame [16, 17, 18, 19, 20, 21, 22, 23, 24, 25, 26, 27, 28, 29, 30, 31, 32, 33, 34, 35, 36, 37, 38, 39, 40, 41, 42, 43] (by kernel_rfl)
          rw [hA]
          simp only [putAll, List.foldl_cons, List.foldl_nil, s43, Act.put, List.setIfInBounds_toArray, List.set_cons_zero, List.set_cons_succ]
          clear hA hI s43
          go_wp2_with (first
            | (refine ld_m3 rfl rfl rfl hg.own ?_)
            | (refine st_m3 rfl rfl rfl rfl hg.res ?_; rintro w9 r9 o9; have hB9 := below_onto hg.bel o9 (Nat.le_refl _)))
          refine ret_m3 rfl rfl r9 rfl ?_
          exact ⟨by rw [HR.out], hB9⟩
    · have hlt' : ¬ (j : Int) < (l.length : Int) := by omega
      have HR : Hid (r = ⟨N, 0, 0⟩) := show _ = _ by rw [← hr]; unfold St.next; rw [if_neg (fun hh => by have := hh.1; omega), hN]
      clear hr hN hNX hX hju hj
      refine region_known (by kernel_rfl) (by kernel_rfl) 0 (by decide) (by kernel_rfl) (fun _ W => Gn w g w0.heap.size w.heap.size x y vo ve (.slice a l.length c) s co fin l ⟨N, 0, 0⟩ W) [.pointer (some ⟨g, 0, none⟩), .pointer (some ⟨g, 0, none⟩), .pointer (some ⟨g, 0, none⟩), .pointer (some ⟨g, 27, none⟩), .int .i64 (j : Int), .pointer (some ⟨g, 0, none⟩), .pointer (some ⟨g, 0, none⟩), .pointer (some ⟨g, 28, none⟩), .slice a l.length c, .int .i64 (l.length : Int), .bool false, .bool false, undef, undef, undef, undef, undef, undef, undef, undef, undef, undef, undef, undef, undef, undef, undef, .bool false] hG.drew ?step ?done
      case step =>
        intro L ix o' A W hj hI hL hd
        have hin : ix < 28 := by
          by_cases hl : ix < 28
          · exact hl
          · simp [hl] at hj
        have hsz : A.tmps.size = 56 := hI.size
        have hg := hI.g
        rcases ix with _ | ix
        · cases hj
          have e0 : A.eval (.tmp 0) = .pointer (some ⟨g, 0, none⟩) := hI.old 0 (by kernel_rfl)
          exact at_op rfl rfl (move_op rfl ⟨_, rfl, e0, hg⟩)
        rcases ix with _ | ix
        · cases hj
          have e0 : A.eval (.tmp 16) = .pointer (some ⟨g, 0, none⟩) := hI.val hd 0 16 rfl rfl (by kernel_rfl)
          exact at_op rfl rfl (nil_op rfl e0 ⟨_, rfl, rfl, hg⟩)
        rcases ix with _ | ix
        · cases hj
          have e0 : A.eval (.tmp 17) = .pointer (some ⟨g, 0, none⟩) := hI.val hd 1 17 rfl rfl (by kernel_rfl)
          refine at_op rfl rfl (val_op (v := .pointer (some ⟨g, 0, none⟩)) ?_ ⟨_, rfl, rfl, hg⟩)
          unfold execOp
          simp only [List.getElem_toArray, List.getElem_cons_zero, List.getElem_cons_succ, e0]
          simp [go_sem]
        rcases ix with _ | ix
        · cases hj
          have e0 : A.eval (.tmp 18) = .pointer (some ⟨g, 0, none⟩) := hI.val hd 2 18 rfl rfl (by kernel_rfl)
          refine at_op rfl rfl (val_op (v := .pointer (some ⟨g, 27, none⟩)) ?_ ⟨_, rfl, rfl, hg⟩)
          unfold execOp
          simp only [List.getElem_toArray, List.getElem_cons_zero, List.getElem_cons_succ, e0]
          simp [go_sem]
        rcases ix with _ | ix
        · cases hj
          have e0 : A.eval (.tmp 19) = .pointer (some ⟨g, 27, none⟩) := hI.val hd 3 19 rfl rfl (by kernel_rfl)
          exact at_op rfl rfl (load_op rfl Tryz.underlying2 e0 (by have := (gc hg.row).u; rwa [HU.out] at this) ⟨_, rfl, rfl, hg⟩)
        rcases ix with _ | ix
        · cases hj
          have e0 : A.eval (.tmp 0) = .pointer (some ⟨g, 0, none⟩) := hI.old 0 (by kernel_rfl)
          exact at_op rfl rfl (move_op rfl ⟨_, rfl, e0, hg⟩)
        rcases ix with _ | ix
        · cases hj
          have e0 : A.eval (.tmp 21) = .pointer (some ⟨g, 0, none⟩) := hI.val hd 5 21 rfl rfl (by kernel_rfl)
          exact at_op rfl rfl (nil_op rfl e0 ⟨_, rfl, rfl, hg⟩)
        rcases ix with _ | ix
        · cases hj
          have e0 : A.eval (.tmp 22) = .pointer (some ⟨g, 0, none⟩) := hI.val hd 6 22 rfl rfl (by kernel_rfl)
          refine at_op rfl rfl (val_op (v := .pointer (some ⟨g, 28, none⟩)) ?_ ⟨_, rfl, rfl, hg⟩)
          unfold execOp
          simp only [List.getElem_toArray, List.getElem_cons_zero, List.getElem_cons_succ, e0]
          simp [go_sem]
        rcases ix with _ | ix
        · cases hj
          have e0 : A.eval (.tmp 23) = .pointer (some ⟨g, 28, none⟩) := hI.val hd 7 23 rfl rfl (by kernel_rfl)
          exact at_op rfl rfl (ldv_op rfl Tryz.underlying31 rfl e0 (gc hg.row).vi ⟨_, rfl, rfl, hg⟩)
        rcases ix with _ | ix
        · cases hj
          have e0 : A.eval (.tmp 24) = .slice a l.length c := hI.val hd 8 24 rfl rfl (by kernel_rfl)
          exact at_op rfl rfl (lenM_op rfl e0 ⟨_, rfl, rfl, hg⟩)
        rcases ix with _ | ix
        · cases hj
          have e0 : A.eval (.tmp 20) = .int .i64 (j : Int) := hI.val hd 4 20 rfl rfl (by kernel_rfl)
          have e1 : A.eval (.tmp 25) = .int .i64 (l.length : Int) := hI.val hd 9 25 rfl rfl (by kernel_rfl)
          exact at_op rfl rfl (bin_op rfl e0 e1 (fun w => by first | (simp [go_sem]; done) | (simp [go_sem]; omega)) ⟨_, rfl, rfl, hg⟩)
        rcases ix with _ | ix
        · cases hj
          have e0 : A.eval (.tmp 26) = .bool false := hI.val hd 10 26 rfl rfl (by kernel_rfl)
          exact at_op rfl rfl (move_op rfl ⟨_, rfl, e0, hg⟩)
        rcases ix with _ | ix
        · cases hj
          have hgv : A.tmps.getD 27 undef = .bool false := hI.val hd 11 27 rfl rfl (by kernel_rfl)
          exact at_skip rfl rfl (j := 11) (k := 27) rfl (by rw [hgv]; simp [undef]) ⟨_, rfl, rfl, hg⟩
        rcases ix with _ | ix
        · cases hj
          have hgv : A.tmps.getD 27 undef = .bool false := hI.val hd 11 27 rfl rfl (by kernel_rfl)
          exact at_skip rfl rfl (j := 11) (k := 27) rfl (by rw [hgv]; simp [undef]) ⟨_, rfl, rfl, hg⟩
        rcases ix with _ | ix
        · cases hj
          have hgv : A.tmps.getD 27 undef = .bool false := hI.val hd 11 27 rfl rfl (by kernel_rfl)
          exact at_skip rfl rfl (j := 11) (k := 27) rfl (by rw [hgv]; simp [undef]) ⟨_, rfl, rfl, hg⟩
        rcases ix with _ | ix
        · cases hj
          have hgv : A.tmps.getD 27 undef = .bool false := hI.val hd 11 27 rfl rfl (by kernel_rfl)
          exact at_skip rfl rfl (j := 11) (k := 27) rfl (by rw [hgv]; simp [undef]) ⟨_, rfl, rfl, hg⟩
        rcases ix with _ | ix
        · cases hj
          have hgv : A.tmps.getD 27 undef = .bool false := hI.val hd 11 27 rfl rfl (by kernel_rfl)
          exact at_skip rfl rfl (j := 11) (k := 27) rfl (by rw [hgv]; simp [undef]) ⟨_, rfl, rfl, hg⟩
        rcases ix with _ | ix
        · cases hj
          have hgv : A.tmps.getD 27 undef = .bool false := hI.val hd 11 27 rfl rfl (by kernel_rfl)
          exact at_skip rfl rfl (j := 11) (k := 27) rfl (by rw [hgv]; simp [undef]) ⟨_, rfl, rfl, hg⟩
        rcases ix with _ | ix
        · cases hj
          have hgv : A.tmps.getD 27 undef = .bool false := hI.val hd 11 27 rfl rfl (by kernel_rfl)
          exact at_skip rfl rfl (j := 11) (k := 27) rfl (by rw [hgv]; simp [undef]) ⟨_, rfl, rfl, hg⟩
        rcases ix with _ | ix
        · cases hj
          have hgv : A.tmps.getD 27 undef = .bool false := hI.val hd 11 27 rfl rfl (by kernel_rfl)
          exact at_skip rfl rfl (j := 11) (k := 27) rfl (by rw [hgv]; simp [undef]) ⟨_, rfl, rfl, hg⟩
        rcases ix with _ | ix
        · cases hj
          have hgv : A.tmps.getD 27 undef = .bool false := hI.val hd 11 27 rfl rfl (by kernel_rfl)
          exact at_skip rfl rfl (j := 11) (k := 27) rfl (by rw [hgv]; simp [undef]) ⟨_, rfl, rfl, hg⟩
        rcases ix with _ | ix
        · cases hj
          have hgv : A.tmps.getD 27 undef = .bool false := hI.val hd 11 27 rfl rfl (by kernel_rfl)
          exact at_skip rfl rfl (j := 11) (k := 27) rfl (by rw [hgv]; simp [undef]) ⟨_, rfl, rfl, hg⟩
        rcases ix with _ | ix
        · cases hj
          have hgv : A.tmps.getD 27 undef = .bool false := hI.val hd 11 27 rfl rfl (by kernel_rfl)
          exact at_skip rfl rfl (j := 11) (k := 27) rfl (by rw [hgv]; simp [undef]) ⟨_, rfl, rfl, hg⟩
        rcases ix with _ | ix
        · cases hj
          have hgv : A.tmps.getD 27 undef = .bool false := hI.val hd 11 27 rfl rfl (by kernel_rfl)
          exact at_skip rfl rfl (j := 11) (k := 27) rfl (by rw [hgv]; simp [undef]) ⟨_, rfl, rfl, hg⟩
        rcases ix with _ | ix
        · cases hj
          have hgv : A.tmps.getD 27 undef = .bool false := hI.val hd 11 27 rfl rfl (by kernel_rfl)
          exact at_skip rfl rfl (j := 11) (k := 27) rfl (by rw [hgv]; simp [undef]) ⟨_, rfl, rfl, hg⟩
        rcases ix with _ | ix
        · cases hj
          have hgv : A.tmps.getD 27 undef = .bool false := hI.val hd 11 27 rfl rfl (by kernel_rfl)
          exact at_skip rfl rfl (j := 11) (k := 27) rfl (by rw [hgv]; simp [undef]) ⟨_, rfl, rfl, hg⟩
        rcases ix with _ | ix
        · cases hj
          have hgv : A.tmps.getD 27 undef = .bool false := hI.val hd 11 27 rfl rfl (by kernel_rfl)
          exact at_skip rfl rfl (j := 11) (k := 27) rfl (by rw [hgv]; simp [undef]) ⟨_, rfl, rfl, hg⟩
        rcases ix with _ | ix
        · cases hj
          have e0 : A.eval (.tmp 27) = .bool false := hI.val hd 11 27 rfl rfl (by kernel_rfl)
          have e1 : A.eval (.tmp 42) = undef := hI.val hd 26 42 rfl rfl (by kernel_rfl)
          exact at_op rfl rfl (pick_op rfl e0 ⟨_, rfl, rfl, hg⟩)
        omega
      case done =>
        intro A W hI
        have hg := hI.g
        have s43 : A.tmps.getD 43 undef = .bool false := hI.last 27 43 rfl
        have hA := hI.frame [16, 17, 18, 19, 20, 21, 22, 23, 24, 25, 26, 27, 28, 29, 30, 31, 32, 33, 34, 35, 36, 37, 38, 39, 40, 41, 42, 43] (by kernel_rfl)
        rw [hA]
        simp only [putAll, List.foldl_cons, List.foldl_nil, s43, Act.put, List.setIfInBounds_toArray, List.set_cons_zero, List.set_cons_succ]
        clear hA hI s43
        go_wp2_with (first
          | (refine ld_m3 rfl rfl rfl hg.own ?_)
          | (refine st_m3 rfl rfl rfl rfl hg.res ?_; rintro w9 r9 o9; have hB9 := below_onto hg.bel o9 (Nat.le_refl _)))
        refine ret_m3 rfl rfl r9 rfl ?_
        exact ⟨by rw [HR.out], hB9⟩
end
end Go.Proofs.YtghmkacamabndaaGreatDoor.Mem
namespace Go.Proofs.YtghmkacamabndaaGreatDoor.Mem
open Go.ChangeShapes Go.WideShapes Go.RowKit Base Num Slc Rw Tmr Srl Rom RomOf Opl Reg

def fnums : List FuncId := [189, 190, 191, 192, 193, 194, 195, 197, 198, 199, 201, 202, 204, 206, 207, 208, 210, 212, 214, 215, 217, 218, 219, 220, 221, 223, 224, 225, 226, 227, 228]
def fval (f : FuncId) : Value := .func (.func f) #[] #[]
def fvals : Array Value := (fnums.map fval).toArray
theorem built_ops : Tryz.prog.built 167 (fnums.zipIdx.map fun x => (x.2, fval x.1)) = some fvals := by kernel_rfl
theorem und_ops : Tryz.prog.underlying 167 = some (.array 31 166) := by kernel_rfl
theorem info_ops : (Tryz.prog.info? 167).map (·.size) = some 31 := by kernel_rfl
theorem fsize : fvals.size = 31 := rfl
theorem fone : fvals.all (·.oneCell') = true := by kernel_rfl
section
variable {ops : Array Oper} {rest : List Oper} {o : Oper} {a : Act} {w : World} {Q : Exit → Act → World → Prop}
theorem al_ops (hgd : o.guard = none) (ho : o.op = .alloc 167)
    (h : ∀ w' cs, cs.size = 31 → Row w' w.heap.size cs 167 → Below w.heap.size w w' → wpList Tryz.prog ops Q rest (a.put o.dst (.pointer (some ⟨w.heap.size, 0, none⟩))) w') : wpList Tryz.prog ops Q (o :: rest) a w :=
  wpList_plain hgd fun _ hK => by
    have e : (execOp a.eval o).run Tryz.prog w = .ok (.value (.pointer (some ⟨w.heap.size, 0, none⟩))) (w.alloc (.cells (Array.replicate 31 .nilFunc) 167)) := by
      unfold execOp
      rw [ho]
      kernel_rfl
    unfold Oper.wp
    rw [e]
    exact hK _ _ (h _ _ (by simp) (Row.new _ _ _) ((Below.refl _ _).alloc (Nat.le_refl _) _))
set_option maxRecDepth 100000 in
theorem bd_ops (hgd : o.guard = none) (ho : o.op = .build 167 ((fnums.zipIdx.map fun x => (x.2, Operand.func x.1)).toArray)) (h : wpList Tryz.prog ops Q rest (a.put o.dst (.agg fvals)) w) : wpList Tryz.prog ops Q (o :: rest) a w :=
  wpList_plain hgd fun _ hK => build_op (parts := fnums.zipIdx.map fun x => (x.2, Operand.func x.1)) (vals := fnums.zipIdx.map fun x => (x.2, fval x.1)) ho rfl built_ops (hK _ _ h)
end
set_option maxRecDepth 100000 in
theorem operations_impl (w : World) : Calls Tryz.prog 159 #[] w fun e w' => e = .returned (.agg fvals) ∧ Below w.heap.size w w' := by
  go_enter Tryz.func159, Tryz.ntmps159
  go_wp2_with (first
    | (refine al_ops rfl rfl ?_; intro w1 cs hcs r1 hb1; have l1 := r1.lt)
    | (refine bd_ops rfl rfl ?_)
    | (refine st_row rfl _ _ _ rfl rfl rfl r1 info_ops (hcs.trans fsize.symm) fone ?_; intro w2 r2 o2 s2))
  refine ret_row rfl rfl r2 und_ops rfl info_ops rfl ?_
  exact ⟨rfl, below_onto hb1 o2 (Nat.le_refl _)⟩
def Does (f : FuncId) (k : Nat) : Prop := ∀ (base : Nat) (w : World) (g : Nat) (x y : Value) (m : Mc) (n : Int), DSt base w g x y m n (-1) → m.ok = true → bok n = true →
  Calls Tryz.prog f #[.pointer (some ⟨g, 0, none⟩)] w fun e w' => e = .returned (.tuple #[]) ∧ Done base w w' g (m.does n k).1 n (m.does n k).2
structure Stands (k : Nat) (f : FuncId) (fn : Func) : Prop where
  at_ : ∀ w, (Instr.index 167 (.agg fvals) (.int .i64 (k : Int))).run Tryz.prog w = .ok (fval f) w
  func : Tryz.prog.funcs[f]? = some fn
  nm : (fn.name == "runtime.NumGoroutine") = false
  body : fn.body.isNone = false
  does : Does f k
theorem ops_at (k : Nat) (hk : k < 31) : ∃ f fn, Stands k f fn := by
  match k with
  | 0 => exact ⟨189, Tryz.f189, fun w => by kernel_rfl, Tryz.func189, by kernel_rfl, by kernel_rfl, fun base w g x y m n h h1 h2 => nop_impl h h1 h2⟩
  | 1 => exact ⟨190, Tryz.f190, fun w => by kernel_rfl, Tryz.func190, by kernel_rfl, by kernel_rfl, fun base w g x y m n h h1 h2 => lda_impl h h1 h2⟩
  | 2 => exact ⟨191, Tryz.f191, fun w => by kernel_rfl, Tryz.func191, by kernel_rfl, by kernel_rfl, fun base w g x y m n h h1 h2 => ldb_impl h h1 h2⟩
  | 3 => exact ⟨192, Tryz.f192, fun w => by kernel_rfl, Tryz.func192, by kernel_rfl, by kernel_rfl, fun base w g x y m n h h1 h2 => mab_impl h h1 h2⟩
  | 4 => exact ⟨193, Tryz.f193, fun w => by kernel_rfl, Tryz.func193, by kernel_rfl, by kernel_rfl, fun base w g x y m n h h1 h2 => mba_impl h h1 h2⟩
  | 5 => exact ⟨194, Tryz.f194, fun w => by kernel_rfl, Tryz.func194, by kernel_rfl, by kernel_rfl, fun base w g x y m n h h1 h2 => get_impl h h1 h2⟩
  | 6 => exact ⟨195, Tryz.f195, fun w => by kernel_rfl, Tryz.func195, by kernel_rfl, by kernel_rfl, fun base w g x y m n h h1 h2 => put_impl h h1 h2⟩
  | 7 => exact ⟨197, Tryz.f197, fun w => by kernel_rfl, Tryz.func197, by kernel_rfl, by kernel_rfl, fun base w g x y m n h h1 h2 => gib_impl h h1 h2⟩
  | 8 => exact ⟨198, Tryz.f198, fun w => by kernel_rfl, Tryz.func198, by kernel_rfl, by kernel_rfl, fun base w g x y m n h h1 h2 => pib_impl h h1 h2⟩
  | 9 => exact ⟨199, Tryz.f199, fun w => by kernel_rfl, Tryz.func199, by kernel_rfl, by kernel_rfl, fun base w g x y m n h h1 h2 => add_impl h h1 h2⟩
  | 10 => exact ⟨201, Tryz.f201, fun w => by kernel_rfl, Tryz.func201, by kernel_rfl, by kernel_rfl, fun base w g x y m n h h1 h2 => adb_impl h h1 h2⟩
  | 11 => exact ⟨202, Tryz.f202, fun w => by kernel_rfl, Tryz.func202, by kernel_rfl, by kernel_rfl, fun base w g x y m n h h1 h2 => sub_impl h h1 h2⟩
  | 12 => exact ⟨204, Tryz.f204, fun w => by kernel_rfl, Tryz.func204, by kernel_rfl, by kernel_rfl, fun base w g x y m n h h1 h2 => cmp_impl h h1 h2⟩
  | 13 => exact ⟨206, Tryz.f206, fun w => by kernel_rfl, Tryz.func206, by kernel_rfl, by kernel_rfl, fun base w g x y m n h h1 h2 => and_impl h h1 h2⟩
  | 14 => exact ⟨207, Tryz.f207, fun w => by kernel_rfl, Tryz.func207, by kernel_rfl, by kernel_rfl, fun base w g x y m n h h1 h2 => xor_impl h h1 h2⟩
  | 15 => exact ⟨208, Tryz.f208, fun w => by kernel_rfl, Tryz.func208, by kernel_rfl, by kernel_rfl, fun base w g x y m n h h1 h2 => rol_impl h h1 h2⟩
  | 16 => exact ⟨210, Tryz.f210, fun w => by kernel_rfl, Tryz.func210, by kernel_rfl, by kernel_rfl, fun base w g x y m n h h1 h2 => ror_impl h h1 h2⟩
  | 17 => exact ⟨212, Tryz.f212, fun w => by kernel_rfl, Tryz.func212, by kernel_rfl, by kernel_rfl, fun base w g x y m n h h1 h2 => inb_impl h h1 h2⟩
  | 18 => exact ⟨214, Tryz.f214, fun w => by kernel_rfl, Tryz.func214, by kernel_rfl, by kernel_rfl, fun base w g x y m n h h1 h2 => deb_impl h h1 h2⟩
  | 19 => exact ⟨215, Tryz.f215, fun w => by kernel_rfl, Tryz.func215, by kernel_rfl, by kernel_rfl, fun base w g x y m n h h1 h2 => jmp_impl h h1 h2⟩
  | 20 => exact ⟨217, Tryz.f217, fun w => by kernel_rfl, Tryz.func217, by kernel_rfl, by kernel_rfl, fun base w g x y m n h h1 h2 => jpz_impl h h1 h2⟩
  | 21 => exact ⟨218, Tryz.f218, fun w => by kernel_rfl, Tryz.func218, by kernel_rfl, by kernel_rfl, fun base w g x y m n h h1 h2 => jnz_impl h h1 h2⟩
  | 22 => exact ⟨219, Tryz.f219, fun w => by kernel_rfl, Tryz.func219, by kernel_rfl, by kernel_rfl, fun base w g x y m n h h1 h2 => jpc_impl h h1 h2⟩
  | 23 => exact ⟨220, Tryz.f220, fun w => by kernel_rfl, Tryz.func220, by kernel_rfl, by kernel_rfl, fun base w g x y m n h h1 h2 => cal_impl h h1 h2⟩
  | 24 => exact ⟨221, Tryz.f221, fun w => by kernel_rfl, Tryz.func221, by kernel_rfl, by kernel_rfl, fun base w g x y m n h h1 h2 => ret_impl h h1 h2⟩
  | 25 => exact ⟨223, Tryz.f223, fun w => by kernel_rfl, Tryz.func223, by kernel_rfl, by kernel_rfl, fun base w g x y m n h h1 h2 => psh_impl h h1 h2⟩
  | 26 => exact ⟨224, Tryz.f224, fun w => by kernel_rfl, Tryz.func224, by kernel_rfl, by kernel_rfl, fun base w g x y m n h h1 h2 => pop_impl h h1 h2⟩
  | 27 => exact ⟨225, Tryz.f225, fun w => by kernel_rfl, Tryz.func225, by kernel_rfl, by kernel_rfl, fun base w g x y m n h h1 h2 => eni_impl h h1 h2⟩
  | 28 => exact ⟨226, Tryz.f226, fun w => by kernel_rfl, Tryz.func226, by kernel_rfl, by kernel_rfl, fun base w g x y m n h h1 h2 => dis_impl h h1 h2⟩
  | 29 => exact ⟨227, Tryz.f227, fun w => by kernel_rfl, Tryz.func227, by kernel_rfl, by kernel_rfl, fun base w g x y m n h h1 h2 => rti_impl h h1 h2⟩
  | 30 => exact ⟨228, Tryz.f228, fun w => by kernel_rfl, Tryz.func228, by kernel_rfl, by kernel_rfl, fun base w g x y m n h h1 h2 => hlt_impl h h1 h2⟩
  | k + 31 => omega
section
variable {ops : Array Oper} {rest : List Oper} {o : Oper} {a : Act} {w : World} {Q : Exit → Act → World → Prop} {x y : Operand} {k : Nat} {f : FuncId} {fn : Func}
theorem ix_ops (hgd : o.guard = none) (ho : o.op = .index 167 x y) (hx : a.eval x = .agg fvals) (hy : a.eval y = .int .i64 (k : Int)) (hs : Stands k f fn)
    (h : wpList Tryz.prog ops Q rest (a.put o.dst (fval f)) w) : wpList Tryz.prog ops Q (o :: rest) a w :=
  wpList_plain hgd fun _ hK => by
    unfold Oper.wp execOp
    simp only [ho, hx, hy, Sem.run_bind, Result.andThen_ok, hs.at_ w]
    exact hK _ _ h
theorem call_dyn {tys : Array TypeId} (hgd : o.guard = none) (ho : o.op = .call { callee := .value x, args := #[y], argTypes := tys }) (hx : a.eval x = fval f) (hs : Stands k f fn)
    (h : Calls Tryz.prog f #[a.eval y] w fun e w' => ∃ v, e = .returned v ∧ wpList Tryz.prog ops Q rest (a.put o.dst v) w') : wpList Tryz.prog ops Q (o :: rest) a w :=
  wpList_plain hgd fun _ hK => by
    unfold Oper.wp execOp
    have hn' : ¬ fn.name = "runtime.NumGoroutine" := by simpa using hs.nm
    have hb' : ¬ fn.body = none := fun e => by have := hs.body; simp [e] at this
    have e : (do let d ← resolve a.eval { callee := .value x, args := #[y], argTypes := tys } o.type; invoke d.target d.args : Sem Next).run Tryz.prog w = .ok (.enter f #[a.eval y]) w := by
      simp [resolve, hx, fval, Deferred.ofValue, invoke, callFunc, hs.func, hn', hb']
    rw [ho]
    show o.upon Tryz.prog a _ Q ((do let d ← resolve a.eval { callee := .value x, args := #[y], argTypes := tys } o.type; invoke d.target d.args : Sem Next).run Tryz.prog w)
    rw [e, Oper.upon_enter]
    refine h.mono ?_
    rintro e w' ⟨v, rfl, hk⟩
    exact hK _ _ hk
end
end Go.Proofs.YtghmkacamabndaaGreatDoor.Mem
namespace Go.Proofs.YtghmkacamabndaaGreatDoor.Mem
open Go.ChangeShapes Go.WideShapes Go.RowKit Base Num Slc Rw Tmr Srl Rom RomOf Opl Reg

theorem built_de (x y : Value) (m : Mc) : Tryz.prog.built 164 [(0, m.val x y), (2, .int .i64 (-1))] = some (dcells x y m 0 (-1)) := by kernel_rfl
theorem OpsAt.onto {w w' : World} {g : Nat} (h : OpsAt w) (ho : Onto g w w') (hg : g ≠ 0) : OpsAt w' := by
  have h0 := h.lt
  obtain ⟨t, fz, h⟩ := h
  exact ⟨t, fz, by rw [ho.block 0 (fun e => hg e.symm) h0]; exact h⟩
theorem dall_one {x y : Value} (hx : x.oneCell' = true) (hy : y.oneCell' = true) (m : Mc) (n o : Int) : (dcells x y m n o).all (·.oneCell') = true := by
  unfold Value.oneCell' at hx hy
  simp only [dcells, List.all_toArray, List.all_cons, List.all_nil, Value.oneCell', hx, hy, Bool.and_true]
section
variable {ops : Array Oper} {rest : List Oper} {o : Oper} {a : Act} {w : World} {Q : Exit → Act → World → Prop} {p q : Operand} {g k : Nat} {x y : Value} {m : Mc}
theorem al_de (hgd : o.guard = none) (ho : o.op = .alloc 164)
    (h : ∀ w', DRow w' w.heap.size nil64 nil64 Mc.nul 0 0 → Below w.heap.size w w' → wpList Tryz.prog ops Q rest (a.put o.dst (.pointer (some ⟨w.heap.size, 0, none⟩))) w') : wpList Tryz.prog ops Q (o :: rest) a w :=
  wpList_plain hgd fun _ hK => by
    have e : (execOp a.eval o).run Tryz.prog w = .ok (.value (.pointer (some ⟨w.heap.size, 0, none⟩))) (w.alloc (.cells (dcells nil64 nil64 Mc.nul 0 0) 164)) := by
      unfold execOp
      rw [ho]
      kernel_rfl
    unfold Oper.wp
    rw [e]
    exact hK _ _ (h _ (Row.new _ _ _) ((Below.refl _ _).alloc (Nat.le_refl _) _))
theorem bd_de (hgd : o.guard = none) (ho : o.op = .build 164 #[(0, p), (2, .const (.int .i64 (-1)))]) (hp : a.eval p = m.val x y) (h : wpList Tryz.prog ops Q rest (a.put o.dst (.agg (dcells x y m 0 (-1)))) w) : wpList Tryz.prog ops Q (o :: rest) a w :=
  wpList_plain hgd fun _ hK => build_op (parts := [(0, p), (2, .const (.int .i64 (-1)))]) (vals := [(0, m.val x y), (2, .int .i64 (-1))]) ho (by simp only [List.map_cons, List.map_nil, hp]; rfl) (built_de x y m) (hK _ _ h)
theorem st_de {x0 y0 : Value} {m0 : Mc} {n0 o0 n1 o1 : Int} (hgd : o.guard = none) (ho : o.op = .store 164 p q) (hx : a.eval p = .pointer (some ⟨g, 0, none⟩)) (hy : a.eval q = .agg (dcells x y m n1 o1)) (hr : DRow w g x0 y0 m0 n0 o0) (h1 : x.oneCell' = true) (h2 : y.oneCell' = true)
    (h : ∀ w', DRow w' g x y m n1 o1 → Onto g w w' → w'.heap.size = w.heap.size → wpList Tryz.prog ops Q rest (a.put o.dst undef) w') : wpList Tryz.prog ops Q (o :: rest) a w :=
  st_row hgd _ p q ho hx hy hr info_de rfl (dall_one h1 h2 m _ _) h
theorem ret_mc3 {fn : Func} {R : Ending → World → Prop} {q u u2 : Tmp} {v v2 : Value} (h : fn.results = #[.cell q 30, .tmp u, .tmp u2]) (hp : a.tmps.getD q undef = .pointer (some ⟨g, 0, none⟩)) (hr : MRow w g x y m) (hde : a.defers = []) (hv : a.tmps.getD u undef = v) (hv2 : a.tmps.getD u2 undef = v2)
    (hR : R (.returned (.tuple #[m.val x y, v, v2])) w) : bodyPost Tryz.prog fn R .ret a w := ret_row_tmp2 h hp hr Tryz.underlying30 rfl info_mc hde hv hv2 hR
end
def Ans (base : Nat) (w' : World) (e : Ending) (r : Mc × Int × Int) : Prop := ∃ v, e = .returned (.tuple #[v, .int .i64 r.2.1, .int .i64 r.2.2]) ∧ MOwn base w' v r.1
theorem Ans.mk {base b : Nat} {w' : World} {x y : Value} {m : Mc} {c o : Int} (h1 : Own b w' x m.rom) (h2 : Own b w' y m.ram) (h3 : ∀ k, x.ownBlock = some k → y.ownBlock ≠ some k) (hb : base ≤ b) : Ans base w' (.returned (.tuple #[m.val x y, .int .i64 c, .int .i64 o])) (m, c, o) :=
  ⟨_, rfl, x, y, rfl, h1.mono hb, h2.mono hb, h3⟩

set_option maxHeartbeats 2000000 in
theorem executed_no (v : Value) (m : Mc) (w : World) (hm : MSl w v m) (hok : m.ok = false) :
    Calls Tryz.prog 113 #[v] w fun e w' => Ans w.heap.size w' e (Mc.nul, 0, -1) ∧ Below w.heap.size w w' := by
  obtain ⟨vr, va, hv, hr, ha⟩ := hm
  go_enter Tryz.func113, Tryz.ntmps113
  go_wp2_with (first
      | (refine box_m rfl rfl hv ?_; intro w0 r0 hB0)
      | (refine al_mc rfl rfl ?_; intro w1 z1 hB1; have r1 := r0.below hB1; have hB2 := hB0.trans (hB1.mono hB0.size); have l0 := r0.lt; have lz := z1.lt)
      | (refine ld_mc rfl rfl rfl r1 ?_)
      | (go_at_call 20; refine (machineOk_impl _ m _ ⟨vr, va, rfl, hr.below hB2, ha.below hB2⟩).mono ?_; rintro e w2 ⟨rfl, hb2⟩; rw [hok]; have hB3 := hB2.trans (hb2.mono hB2.size); have z2 := z1.below hb2; replace r1 := r1.below hb2)
      | (refine bd_nul rfl rfl ?_)
      | (refine st_mc rfl rfl rfl rfl z2 rfl rfl ?_; intro w6 r6 o6 s6))
  refine ret_mc3 rfl rfl r6 rfl rfl rfl ?_
  exact ⟨Ans.mk (Own.nil w.heap.size _) (Own.nil _ _) (by simp [Value.ownBlock]) (Nat.le_refl _), below_onto hB3 o6 (by omega)⟩
set_option maxHeartbeats 2000000 in
theorem executed_idle (v : Value) (m : Mc) (w : World) (hm : MSl w v m) (hok : m.ok = true) (hi : (m.h || m.s) = true) :
    Calls Tryz.prog 113 #[v] w fun e w' => Ans w.heap.size w' e (m, 1, -1) ∧ Below w.heap.size w w' := by
  obtain ⟨vr, va, hv, hr, ha⟩ := hm
  have hR := Mc.right hok
  have hR1 := hR.rom
  have hR2 : Hid (m.ram.length = 64) := hR.ram
  cases hh : m.h
  · have hs : m.s = true := by simpa [hh] using hi
    go_enter Tryz.func113, Tryz.ntmps113
    go_wp2_with (first
      | (refine box_m rfl rfl hv ?_; intro w0 r0 hB0)
      | (refine al_mc rfl rfl ?_; intro w1 z1 hB1; have r1 := r0.below hB1; have hB2 := hB0.trans (hB1.mono hB0.size); have l0 := r0.lt; have lz := z1.lt)
      | (refine ld_mc rfl rfl rfl r1 ?_)
      | (go_at_call 20; refine (machineOk_impl _ m _ ⟨vr, va, rfl, hr.below hB2, ha.below hB2⟩).mono ?_; rintro e w2 ⟨rfl, hb2⟩; rw [hok]; have hB3 := hB2.trans (hb2.mono hB2.size); have z2 := z1.below hb2; replace r1 := r1.below hb2))
    go_at_call 83
    refine (machineCopy_impl _ m _ ⟨vr, va, rfl, hr.below hB3, ha.below hB3⟩ (by omega) (by have := hR2.out; omega) (by omega) (by have := hR2.out; omega)).mono ?_
    rintro e w4 ⟨v4, rfl, ⟨x4, y4, rfl, ho4, hp4, ha4⟩, hb4⟩
    have hB4 := hB3.trans (hb4.mono hB3.size)
    have z4 := z2.below hb4
    have s34 := z2.lt
    have r4 := r1.below hb4
    have lr4 := r4.lt
    have lz4 := z4.lt
    have sB3 := hB3.size
    have sb4 := hb4.size
    have hxl := ho4.lt
    have hyl := hp4.lt
    clear z1 z2 r1
    go_wp2_with (first
      | (refine al_mc rfl rfl ?_; intro w5 z5 hB5; have lz5 := z5.lt; have r5 := r4.below hB5; have z5' := z4.below hB5; have hp5 := hp4.below hB5; have ho5 := ho4.below hB5)
      | (refine st_mc rfl rfl rfl rfl z5 (one_own ho4) (one_own hp4) ?_; intro w6 c6 o6 s6; have hp6 := hp5.onto o6 (fun e => by have := hyl _ e; omega); have ho6 := ho5.onto o6 (fun e => by have := hxl _ e; omega); have z6 := z5'.onto o6 (by omega); have r6 := r5.onto o6 (by omega); have hB6 := below_onto (hB4.trans (hB5.mono hB4.size)) o6 (by have := hB4.size; omega); have kh := (cw r6).h; have ks := (cw r6).s; have kp := (cw r6).pc; clear z5 z5' r5 hp5 ho5; rw [hh] at kh; rw [hs] at ks)
      | (refine ld_mc rfl rfl rfl c6 ?_)
      | (refine st_mc rfl rfl rfl rfl z6 (one_own ho6) (one_own hp6) ?_; intro w7 c7 o7 s7))
    refine ret_mc3 rfl rfl c7 rfl rfl rfl ?_
    exact ⟨Ans.mk (ho6.onto o7 (fun e => by have := hxl _ e; omega)) (hp6.onto o7 (fun e => by have := hyl _ e; omega)) ha4 (by omega), below_onto hB6 o7 (by omega)⟩
  · go_enter Tryz.func113, Tryz.ntmps113
    go_wp2_with (first
      | (refine box_m rfl rfl hv ?_; intro w0 r0 hB0)
      | (refine al_mc rfl rfl ?_; intro w1 z1 hB1; have r1 := r0.below hB1; have hB2 := hB0.trans (hB1.mono hB0.size); have l0 := r0.lt; have lz := z1.lt)
      | (refine ld_mc rfl rfl rfl r1 ?_)
      | (go_at_call 20; refine (machineOk_impl _ m _ ⟨vr, va, rfl, hr.below hB2, ha.below hB2⟩).mono ?_; rintro e w2 ⟨rfl, hb2⟩; rw [hok]; have hB3 := hB2.trans (hb2.mono hB2.size); have z2 := z1.below hb2; replace r1 := r1.below hb2))
    go_at_call 83
    refine (machineCopy_impl _ m _ ⟨vr, va, rfl, hr.below hB3, ha.below hB3⟩ (by omega) (by have := hR2.out; omega) (by omega) (by have := hR2.out; omega)).mono ?_
    rintro e w4 ⟨v4, rfl, ⟨x4, y4, rfl, ho4, hp4, ha4⟩, hb4⟩
    have hB4 := hB3.trans (hb4.mono hB3.size)
    have z4 := z2.below hb4
    have s34 := z2.lt
    have r4 := r1.below hb4
    have lr4 := r4.lt
    have lz4 := z4.lt
    have sB3 := hB3.size
    have sb4 := hb4.size
    have hxl := ho4.lt
    have hyl := hp4.lt
    clear z1 z2 r1
    go_wp2_with (first
      | (refine al_mc rfl rfl ?_; intro w5 z5 hB5; have lz5 := z5.lt; have r5 := r4.below hB5; have z5' := z4.below hB5; have hp5 := hp4.below hB5; have ho5 := ho4.below hB5)
      | (refine st_mc rfl rfl rfl rfl z5 (one_own ho4) (one_own hp4) ?_; intro w6 c6 o6 s6; have hp6 := hp5.onto o6 (fun e => by have := hyl _ e; omega); have ho6 := ho5.onto o6 (fun e => by have := hxl _ e; omega); have z6 := z5'.onto o6 (by omega); have r6 := r5.onto o6 (by omega); have hB6 := below_onto (hB4.trans (hB5.mono hB4.size)) o6 (by have := hB4.size; omega); have kh := (cw r6).h; have ks := (cw r6).s; have kp := (cw r6).pc; clear z5 z5' r5 hp5 ho5; rw [hh] at kh)
      | (refine ld_mc rfl rfl rfl c6 ?_)
      | (refine st_mc rfl rfl rfl rfl z6 (one_own ho6) (one_own hp6) ?_; intro w7 c7 o7 s7))
    refine ret_mc3 rfl rfl c7 rfl rfl rfl ?_
    exact ⟨Ans.mk (ho6.onto o7 (fun e => by have := hxl _ e; omega)) (hp6.onto o7 (fun e => by have := hyl _ e; omega)) ha4 (by omega), below_onto hB6 o7 (by omega)⟩
set_option maxHeartbeats 2000000 in
theorem executed_stuck (v : Value) (m : Mc) (w : World) (hm : MSl w v m) (ho : OpsAt w) (hok : m.ok = true) (hi : (m.h || m.s) = false) (hz : m.size' = 0) :
    Calls Tryz.prog 113 #[v] w fun e w' => Ans w.heap.size w' e ({ m with s := true }, 1, -1) ∧ Below w.heap.size w w' := by
  obtain ⟨vr, va, hv, hr, ha⟩ := hm
  have hR := Mc.right hok
  have hR1 := hR.rom
  have hR2 : Hid (m.ram.length = 64) := hR.ram
  have hh : m.h = false := by simp at hi; exact hi.1
  have hs : m.s = false := by simp at hi; exact hi.2
  have hcd : m.readAt m.pc = m.code := readAt_ok hok (okm.1 hok).pc
  have hz' : (line m.code).2.1 = 0 := hz
  clear hz
  · go_enter Tryz.func113, Tryz.ntmps113
    go_wp2_with (first
      | (refine box_m rfl rfl hv ?_; intro w0 r0 hB0)
      | (refine al_mc rfl rfl ?_; intro w1 z1 hB1; have r1 := r0.below hB1; have hB2 := hB0.trans (hB1.mono hB0.size); have l0 := r0.lt; have lz := z1.lt)
      | (refine ld_mc rfl rfl rfl r1 ?_)
      | (go_at_call 20; refine (machineOk_impl _ m _ ⟨vr, va, rfl, hr.below hB2, ha.below hB2⟩).mono ?_; rintro e w2 ⟨rfl, hb2⟩; rw [hok]; have hB3 := hB2.trans (hb2.mono hB2.size); have z2 := z1.below hb2; replace r1 := r1.below hb2))
    go_at_call 83
    refine (machineCopy_impl _ m _ ⟨vr, va, rfl, hr.below hB3, ha.below hB3⟩ (by omega) (by have := hR2.out; omega) (by omega) (by have := hR2.out; omega)).mono ?_
    rintro e w4 ⟨v4, rfl, ⟨x4, y4, rfl, ho4, hp4, ha4⟩, hb4⟩
    have hB4 := hB3.trans (hb4.mono hB3.size)
    have z4 := z2.below hb4
    have s34 := z2.lt
    have r4 := r1.below hb4
    have lr4 := r4.lt
    have lz4 := z4.lt
    have sB3 := hB3.size
    have sb4 := hb4.size
    have hxl := ho4.lt
    have hyl := hp4.lt
    clear z1 z2 r1
    go_wp2_with (first
      | (refine al_mc rfl rfl ?_; intro w5 z5 hB5; have lz5 := z5.lt; have r5 := r4.below hB5; have z5' := z4.below hB5; have hp5 := hp4.below hB5; have ho5 := ho4.below hB5)
      | (refine st_mc rfl rfl rfl rfl z5 (one_own ho4) (one_own hp4) ?_; intro w6 c6 o6 s6; have hp6 := hp5.onto o6 (fun e => by have := hyl _ e; omega); have ho6 := ho5.onto o6 (fun e => by have := hxl _ e; omega); have z6 := z5'.onto o6 (by omega); have r6 := r5.onto o6 (by omega); have hB6 := below_onto (hB4.trans (hB5.mono hB4.size)) o6 (by have := hB4.size; omega); have kh := (cw r6).h; have ks := (cw r6).s; have kp := (cw r6).pc; clear z5 z5' r5 hp5 ho5; rw [hh] at kh; rw [hs] at ks)
      | (refine ld_mc rfl rfl rfl r6 ?_)
      | (go_at_call 156; refine (readAt_impl _ m _ _ ⟨vr, va, rfl, hr.below hB6, ha.below hB6⟩).mono ?_; rintro e w7 ⟨rfl, hb7⟩; rw [hcd]; have hB7 := hB6.trans (hb7.mono hB6.size); have z7 := z6.below hb7; have c7 := c6.below hb7; have hp7 := hp6.below hb7; have ho7 := ho6.below hb7; clear kh ks kp)
      | (go_at_call 157; refine (sizeOf_impl _ _ (ho.below hB7)).mono ?_; rintro e w8 ⟨rfl, hb8⟩; rw [hz']; have hB8 := hB7.trans (hb8.mono hB7.size); have z8 := z7.below hb8; have c8 := c7.below hb8; have hp8 := hp7.below hb8; have ho8 := ho7.below hb8)
      | (refine st_yes (m' := { m with s := true }) rfl rfl rfl rfl c8 rfl rfl ?_; intro w9 c9 o9 s9; have z9 := z8.onto o9 (by omega); have hp9 := hp8.onto o9 (fun e => by have := hyl _ e; omega); have ho9 := ho8.onto o9 (fun e => by have := hxl _ e; omega); have hB9 := below_onto hB8 o9 (by omega))
      | (refine ld_mc rfl rfl rfl c9 ?_)
      | (refine st_mc rfl rfl rfl rfl z9 (one_own ho9) (one_own hp9) ?_; intro w10 c10 o10 s10))
    refine ret_mc3 rfl rfl c10 rfl rfl rfl ?_
    exact ⟨Ans.mk (ho9.onto o10 (fun e => by have := hxl _ e; omega)) (hp9.onto o10 (fun e => by have := hyl _ e; omega)) ha4 (by omega), below_onto hB9 o10 (by omega)⟩
section
variable {op : Oper} {a : Act} {w : World} {K : Act → World → Prop} {Q : Exit → Act → World → Prop} {p q : Operand} {g : Nat} {x y x0 y0 : Value} {m m0 : Mc}
theorem sm_op (ho : op.op = .store 30 p q) (hx : a.eval p = .pointer (some ⟨g, 0, none⟩)) (hy : a.eval q = m.val x y) (hr : MRow w g x0 y0 m0) (h1 : x.oneCell' = true) (h2 : y.oneCell' = true)
    (h : ∀ w', MRow w' g x y m → Onto g w w' → K (a.put op.dst undef) w') : op.wp Tryz.prog a w K Q :=
  wp_store_row _ p q ho g _ hx hy _ _ hr.row info_mc rfl (all_one h1 h2 m)
    (h _ (Row.of (setRow_heap w g _ _ _ _ hr.row)) ⟨rfl, rfl, rfl, by simp, fun k hk _ => setRow_other w g k _ hk⟩)
end
structure Gx (w : World) (base g g2 : Nat) (x y : Value) (m : Mc) (n o : Int) (b : Bool) (W : World) : Prop where
  d : DSt base W g x y m n o
  t : OpsAt W
  bel : Below w.heap.size w W
  res : if b = true then MRow W g2 x y m else MRow W g2 nil64 nil64 Mc.nul
theorem Gx.below {w W W' : World} {base g g2 : Nat} {x y : Value} {m : Mc} {n o : Int} {b : Bool} (h : Gx w base g g2 x y m n o b W) (hb : Below W.heap.size W W') : Gx w base g g2 x y m n o b W' :=
  ⟨h.d.below hb, h.t.below hb, h.bel.trans (hb.mono h.bel.size), by have := h.res; cases b <;> exact Row.below this hb⟩
theorem Gx.drew {w W : World} {base g g2 : Nat} {x y : Value} {m : Mc} {n o : Int} {b : Bool} (h : Gx w base g g2 x y m n o b W) : Gx w base g g2 x y m n o b W.drew :=
  h.below (below_drewN (Below.refl _ _) 1)
theorem Gx.lay {w W W' : World} {base g g2 : Nat} {x y : Value} {m : Mc} {n o : Int} {b : Bool} (h : Gx w base g g2 x y m n o b W) (hr : MRow W' g2 x y m) (ho : Onto g2 W W') (h1 : g2 < base) (h2 : w.heap.size ≤ g2) (h3 : 0 < w.heap.size) : Gx w base g g2 x y m n o true W' := by
  have hb := h.d.hb
  exact ⟨{ h.d with row := h.d.row.onto ho (by omega), hx := h.d.hx.onto ho (fun e => by have := (h.d.hx.lt _ e).1; omega), hy := h.d.hy.onto ho (fun e => by have := (h.d.hy.lt _ e).1; omega) }, OpsAt.onto h.t ho (by omega), below_onto h.bel ho h2, by simpa using hr⟩
set_option maxRecDepth 100000 in
set_option maxHeartbeats 4000000 in
theorem executed_one (v : Value) (m : Mc) (w : World) (hm : MSl w v m) (ho : OpsAt w) (hok : m.ok = true) (hi : (m.h || m.s) = false) (k : Nat) (hk : k < 31) (hcode : m.code = (k : Int)) (hsz : (line (k : Int)).2.1 = 1) :
    Calls Tryz.prog 113 #[v] w fun e w' => Ans w.heap.size w' e ((m.onw.does m.opnd k).1, (line (k : Int)).2.2, (m.onw.does m.opnd k).2) ∧ Below w.heap.size w w' := by
  obtain ⟨vr, va, hv, hr, ha⟩ := hm
  have hR := Mc.right hok
  have hR1 := hR.rom
  have hR2 : Hid (m.ram.length = 64) := hR.ram
  have hh : m.h = false := by simp at hi; exact hi.1
  have hs : m.s = false := by simp at hi; exact hi.2
  have hcd : m.readAt m.pc = (k : Int) := (readAt_ok hok (okm.1 hok).pc).trans hcode
  have HO : Hid (m.onw = { m with pc := addB m.pc 1 }) := show m.onw = { m with pc := addB m.pc 1 } by
    unfold Mc.onw Mc.size'; rw [hcode, hsz, add_one (okm.1 hok).pc]
  have HD : Hid (m.onw.does m.opnd k = m.onw.does 0 k) := does_one _ _ _ k hk (by rw [hsz]; decide)
  have h0 := ho.lt
  obtain ⟨f, fn, hst⟩ := ops_at k hk
  clear hcode
  · go_enter Tryz.func113, Tryz.ntmps113
    go_wp2_with (first
      | (refine box_m rfl rfl hv ?_; intro w0 r0 hB0)
      | (refine al_mc rfl rfl ?_; intro w1 z1 hB1; have r1 := r0.below hB1; have hB2 := hB0.trans (hB1.mono hB0.size); have l0 := r0.lt; have lz := z1.lt)
      | (refine ld_mc rfl rfl rfl r1 ?_)
      | (go_at_call 20; refine (machineOk_impl _ m _ ⟨vr, va, rfl, hr.below hB2, ha.below hB2⟩).mono ?_; rintro e w2 ⟨rfl, hb2⟩; rw [hok]; have hB3 := hB2.trans (hb2.mono hB2.size); have z2 := z1.below hb2; replace r1 := r1.below hb2))
    go_at_call 83
    refine (machineCopy_impl _ m _ ⟨vr, va, rfl, hr.below hB3, ha.below hB3⟩ (by omega) (by have := hR2.out; omega) (by omega) (by have := hR2.out; omega)).mono ?_
    rintro e w4 ⟨v4, rfl, ⟨x4, y4, rfl, ho4, hp4, ha4⟩, hb4⟩
    have hB4 := hB3.trans (hb4.mono hB3.size)
    have z4 := z2.below hb4
    have s34 := z2.lt
    have r4 := r1.below hb4
    have lr4 := r4.lt
    have lz4 := z4.lt
    have sB3 := hB3.size
    have sb4 := hb4.size
    have hxl := ho4.lt
    have hyl := hp4.lt
    clear z1 z2 r1
    go_wp2_with (first
      | (refine al_mc rfl rfl ?_; intro w5 z5 hB5; have lz5 := z5.lt; have r5 := r4.below hB5; have z5' := z4.below hB5; have hp5 := hp4.below hB5; have ho5 := ho4.below hB5)
      | (refine st_mc rfl rfl rfl rfl z5 (one_own ho4) (one_own hp4) ?_; intro w6 c6 o6 s6; have hp6 := hp5.onto o6 (fun e => by have := hyl _ e; omega); have ho6 := ho5.onto o6 (fun e => by have := hxl _ e; omega); have z6 := z5'.onto o6 (by omega); have r6 := r5.onto o6 (by omega); have hB6 := below_onto (hB4.trans (hB5.mono hB4.size)) o6 (by have := hB4.size; omega); have kh := (cw r6).h; have ks := (cw r6).s; have kp := (cw r6).pc; clear z5 z5' r5 hp5 ho5; rw [hh] at kh; rw [hs] at ks)
      | (refine ld_mc rfl rfl rfl r6 ?_)
      | (go_at_call 156; refine (readAt_impl _ m _ _ ⟨vr, va, rfl, hr.below hB6, ha.below hB6⟩).mono ?_; rintro e w7 ⟨rfl, hb7⟩; rw [hcd]; have hB7 := hB6.trans (hb7.mono hB6.size); have z7 := z6.below hb7; have c7 := c6.below hb7; have q7 := r6.below hb7; have hp7 := hp6.below hb7; have ho7 := ho6.below hb7; clear kh ks kp)
      | (go_at_call 157; refine (sizeOf_impl _ _ (ho.below hB7)).mono ?_; rintro e w8 ⟨rfl, hb8⟩; rw [hsz]; have hB8 := hB7.trans (hb8.mono hB7.size); have z8 := z7.below hb8; have c8 := c7.below hb8; have q8 := q7.below hb8; have hp8 := hp7.below hb8; have ho8 := ho7.below hb8; have l8 := c8.lt)
      | (refine ld_mc rfl rfl rfl c8 ?_)
      | (refine bd_de rfl rfl rfl ?_)
      | (refine al_de rfl rfl ?_; intro w9 d9 hb9; have hB9 := hB8.trans (hb9.mono hB8.size); have z9 := z8.below hb9; have q9 := q8.below hb9; have hp9 := hp8.below hb9; have ho9 := ho8.below hb9; have l9 := d9.lt)
      | (refine st_de rfl rfl rfl rfl d9 (one_own ho9) (one_own hp9) ?_; intro w10 d10 o10 s10; have z10 := z9.onto o10 (by omega); have q10 := q9.onto o10 (by omega); have kp := (cw q10).pc
         have D10 : DSt w2.heap.size w10 w8.heap.size x4 y4 m 0 (-1) := ⟨d10, ho9.onto o10 (fun e => by have := hxl _ e; omega), hp9.onto o10 (fun e => by have := hyl _ e; omega), ha4, fun e => by have := hxl _ e; omega, fun e => by have := hyl _ e; omega, by omega⟩
         have hB10 := below_onto hB9 o10 (by omega))
      | (go_at_call 158; refine (placeBehind_impl _ _ _).mono ?_; rintro e w11 ⟨rfl, rfl⟩)
      | (refine st_dn (m' := { m with pc := addB m.pc 1 }) (n' := 0) (o' := -1) rfl rfl rfl rfl d10 rfl rfl ?_; intro w12 d12 o12 s12; have z12 := z10.onto o12 (by omega); have D12 := D10.set d12 o12 rfl rfl; have hB12 := below_onto hB10 o12 (by omega))
      | (go_at_call 159; refine (operations_impl _).mono ?_; rintro e w13 ⟨rfl, hb13⟩; have z13 := z12.below hb13; have D13 := D12.below hb13; have hB13 := hB12.trans (hb13.mono hB12.size))
      | (refine ix_ops rfl rfl rfl rfl hst ?_)
      | (refine call_dyn rfl rfl rfl hst ?_; refine (hst.does _ _ _ _ _ _ _ D13 (ok_pc hok (addB_ok _ _)) rfl).mono ?_; rintro e w14 ⟨rfl, x14, y14, D14, o14⟩; refine ⟨_, rfl, ?_⟩
         rw [← HO.out, ← HD.out] at D14
         have z14 := z13.onto o14 (by omega)
         have hB14 := below_onto hB13 o14 (by omega)
         have t14 : OpsAt w14 := OpsAt.below ho hB14))
    have hGx : Gx w w2.heap.size w8.heap.size w0.heap.size x14 y14 (m.onw.does m.opnd k).1 0 (m.onw.does m.opnd k).2 false w14 := ⟨D14, t14, hB14, z14⟩
    obtain ⟨M, HM⟩ : ∃ M, Hid (M = (m.onw.does m.opnd k).1) := ⟨_, show _ = _ from rfl⟩
    obtain ⟨O, HQ⟩ : ∃ O, Hid (O = (m.onw.does m.opnd k).2) := ⟨_, show _ = _ from rfl⟩
    rw [← HM.out, ← HQ.out] at hGx
    have hs0 := hB0.size
    have hs1 := hb2.size
    refine region_known (by kernel_rfl) (by kernel_rfl) 6 (by decide) (by kernel_rfl) (Gx w w2.heap.size w8.heap.size w0.heap.size x14 y14 M 0 O)
      [.pointer (some ⟨w8.heap.size, 0, none⟩), M.val x14 y14, .int .i64 (k : Int), .int .i64 (line (k : Int)).2.2, .pointer (some ⟨w8.heap.size, 26, none⟩), .int .i64 O, undef, .int .i64 (line (k : Int)).2.2, .int .i64 O] hGx.drew ?step ?done
    case step =>
      intro L ix o' A W hi hI hL hd
      have hin : ix < 9 := by
        by_cases hl : ix < 9
        · exact hl
        · simp [hl] at hi
      have hg := hI.g
      rcases ix with _ | ix
      · cases hi
        have e0 : A.eval (.tmp 8) = .pointer (some ⟨w8.heap.size, 0, none⟩) := hI.old 8 (by kernel_rfl)
        refine at_op rfl rfl (val_op (v := .pointer (some ⟨w8.heap.size, 0, none⟩)) ?_ ⟨_, rfl, rfl, by simpa using hg⟩)
        unfold execOp
        simp only [List.getElem_toArray, List.getElem_cons_zero, List.getElem_cons_succ, e0]
        simp [go_sem]
      rcases ix with _ | ix
      · cases hi
        have e0 : A.eval (.tmp 52) = .pointer (some ⟨w8.heap.size, 0, none⟩) := hI.val hd 0 52 rfl rfl (by kernel_rfl)
        exact at_op rfl rfl (lm_op rfl e0 hg.d.row ⟨_, rfl, rfl, by simpa using hg⟩)
      rcases ix with _ | ix
      · cases hi
        have e0 : A.eval (.tmp 6) = .int .i64 (k : Int) := hI.old 6 (by kernel_rfl)
        exact at_op rfl rfl (move_op rfl ⟨_, rfl, e0, by simpa using hg⟩)
      rcases ix with _ | ix
      · cases hi
        have e0 : A.eval (.tmp 54) = .int .i64 (k : Int) := hI.val hd 2 54 rfl rfl (by kernel_rfl)
        refine at_op rfl rfl (call_op rfl Tryz.func160 (by kernel_rfl) (by kernel_rfl) ?_)
        simp only [List.map_cons, List.map_nil, e0]
        refine (costOf_impl _ _ hg.t).mono ?_
        rintro e W1 ⟨rfl, hb⟩
        exact ⟨_, rfl, _, rfl, rfl, by simpa using hg.below hb⟩
      rcases ix with _ | ix
      · cases hi
        have e0 : A.eval (.tmp 8) = .pointer (some ⟨w8.heap.size, 0, none⟩) := hI.old 8 (by kernel_rfl)
        refine at_op rfl rfl (val_op (v := .pointer (some ⟨w8.heap.size, 26, none⟩)) ?_ ⟨_, rfl, rfl, by simpa using hg⟩)
        unfold execOp
        simp only [List.getElem_toArray, List.getElem_cons_zero, List.getElem_cons_succ, e0]
        simp [go_sem]
      rcases ix with _ | ix
      · cases hi
        have e0 : A.eval (.tmp 56) = .pointer (some ⟨w8.heap.size, 26, none⟩) := hI.val hd 4 56 rfl rfl (by kernel_rfl)
        exact at_op rfl rfl (load_op rfl Tryz.underlying2 e0 (dw hg.d.row).o ⟨_, rfl, rfl, by simpa using hg⟩)
      rcases ix with _ | ix
      · cases hi
        have e0 : A.eval (.tmp 2) = .pointer (some ⟨w0.heap.size, 0, none⟩) := hI.old 2 (by kernel_rfl)
        have e1 : A.eval (.tmp 53) = M.val x14 y14 := hI.val hd 1 53 rfl rfl (by kernel_rfl)
        have hres : MRow W w0.heap.size nil64 nil64 Mc.nul := by have := hg.res; simpa [hL] using this
        refine at_op rfl rfl (sm_op rfl e0 e1 hres (one_own hg.d.hx) (one_own hg.d.hy) (fun W1 hr hon => ⟨_, rfl, rfl, ?_⟩))
        have := hg.lay hr hon (by omega) (by omega) h0
        simpa using this
      rcases ix with _ | ix
      · cases hi
        have e0 : A.eval (.tmp 55) = .int .i64 (line (k : Int)).2.2 := hI.val hd 3 55 rfl rfl (by kernel_rfl)
        exact at_op rfl rfl (assign_op rfl ⟨_, rfl, e0, by simpa using hg⟩)
      rcases ix with _ | ix
      · cases hi
        have e0 : A.eval (.tmp 57) = .int .i64 O := hI.val hd 5 57 rfl rfl (by kernel_rfl)
        exact at_op rfl rfl (assign_op rfl ⟨_, rfl, e0, by simpa using hg⟩)
      omega
    case done =>
      intro A W hI
      have hg := hI.g
      have hres : MRow W w0.heap.size x14 y14 M := by have := hg.res; simpa using this
      have a2 : A.tmps.getD 2 undef = .pointer (some ⟨w0.heap.size, 0, none⟩) := hI.old 2 (by kernel_rfl)
      have a3 : A.tmps.getD 3 undef = .int .i64 (line (k : Int)).2.2 := hI.last 7 3 rfl
      have a4 : A.tmps.getD 4 undef = .int .i64 O := hI.last 8 4 rfl
      go_wp2_with fail
      refine ret_mc3 rfl a2 hres hI.defers a3 a4 ?_
      rw [← HM.out, ← HQ.out]
      exact ⟨Ans.mk hg.d.hx hg.d.hy hg.d.ap (by omega), hg.bel⟩
set_option maxRecDepth 100000 in
set_option maxHeartbeats 4000000 in
theorem executed_two (v : Value) (m : Mc) (w : World) (hm : MSl w v m) (ho : OpsAt w) (hok : m.ok = true) (hi : (m.h || m.s) = false) (k : Nat) (hk : k < 31) (hcode : m.code = (k : Int)) (hsz : (line (k : Int)).2.1 = 2) :
    Calls Tryz.prog 113 #[v] w fun e w' => Ans w.heap.size w' e ((m.onw.does m.opnd k).1, (line (k : Int)).2.2, (m.onw.does m.opnd k).2) ∧ Below w.heap.size w w' := by
  obtain ⟨vr, va, hv, hr, ha⟩ := hm
  have hR := Mc.right hok
  have hR1 := hR.rom
  have hR2 : Hid (m.ram.length = 64) := hR.ram
  have hh : m.h = false := by simp at hi; exact hi.1
  have hs : m.s = false := by simp at hi; exact hi.2
  have hcd : m.readAt m.pc = (k : Int) := (readAt_ok hok (okm.1 hok).pc).trans hcode
  have HO : Hid (m.onw = { m with pc := addB m.pc 2 }) := show m.onw = { m with pc := addB m.pc 2 } by
    unfold Mc.onw Mc.size'; rw [hcode, hsz]
    have h2 : bok 2 = true := rfl
    simp [addB, (okm.1 hok).pc, h2]
  have HN : Hid (m.readAt (addB m.pc 1) = m.opnd) := show m.readAt (addB m.pc 1) = m.opnd by rw [readAt_ok hok (addB_ok _ _), add_one (okm.1 hok).pc]; rfl
  have h0 := ho.lt
  obtain ⟨f, fn, hst⟩ := ops_at k hk
  clear hcode
  · go_enter Tryz.func113, Tryz.ntmps113
    go_wp2_with (first
      | (refine box_m rfl rfl hv ?_; intro w0 r0 hB0)
      | (refine al_mc rfl rfl ?_; intro w1 z1 hB1; have r1 := r0.below hB1; have hB2 := hB0.trans (hB1.mono hB0.size); have l0 := r0.lt; have lz := z1.lt)
      | (refine ld_mc rfl rfl rfl r1 ?_)
      | (go_at_call 20; refine (machineOk_impl _ m _ ⟨vr, va, rfl, hr.below hB2, ha.below hB2⟩).mono ?_; rintro e w2 ⟨rfl, hb2⟩; rw [hok]; have hB3 := hB2.trans (hb2.mono hB2.size); have z2 := z1.below hb2; replace r1 := r1.below hb2))
    go_at_call 83
    refine (machineCopy_impl _ m _ ⟨vr, va, rfl, hr.below hB3, ha.below hB3⟩ (by omega) (by have := hR2.out; omega) (by omega) (by have := hR2.out; omega)).mono ?_
    rintro e w4 ⟨v4, rfl, ⟨x4, y4, rfl, ho4, hp4, ha4⟩, hb4⟩
    have hB4 := hB3.trans (hb4.mono hB3.size)
    have z4 := z2.below hb4
    have s34 := z2.lt
    have r4 := r1.below hb4
    have lr4 := r4.lt
    have lz4 := z4.lt
    have sB3 := hB3.size
    have sb4 := hb4.size
    have hxl := ho4.lt
    have hyl := hp4.lt
    clear z1 z2 r1
    go_wp2_with (first
      | (refine al_mc rfl rfl ?_; intro w5 z5 hB5; have lz5 := z5.lt; have r5 := r4.below hB5; have z5' := z4.below hB5; have hp5 := hp4.below hB5; have ho5 := ho4.below hB5)
      | (refine st_mc rfl rfl rfl rfl z5 (one_own ho4) (one_own hp4) ?_; intro w6 c6 o6 s6; have hp6 := hp5.onto o6 (fun e => by have := hyl _ e; omega); have ho6 := ho5.onto o6 (fun e => by have := hxl _ e; omega); have z6 := z5'.onto o6 (by omega); have r6 := r5.onto o6 (by omega); have hB6 := below_onto (hB4.trans (hB5.mono hB4.size)) o6 (by have := hB4.size; omega); have kh := (cw r6).h; have ks := (cw r6).s; have kp := (cw r6).pc; clear z5 z5' r5 hp5 ho5; rw [hh] at kh; rw [hs] at ks)
      | (refine ld_mc rfl rfl rfl r6 ?_)
      | (go_at_call 156; refine (readAt_impl _ m _ _ ⟨vr, va, rfl, hr.below hB6, ha.below hB6⟩).mono ?_; rintro e w7 ⟨rfl, hb7⟩; rw [hcd]; have hB7 := hB6.trans (hb7.mono hB6.size); have z7 := z6.below hb7; have c7 := c6.below hb7; have q7 := r6.below hb7; have hp7 := hp6.below hb7; have ho7 := ho6.below hb7; clear kh ks kp)
      | (go_at_call 157; refine (sizeOf_impl _ _ (ho.below hB7)).mono ?_; rintro e w8 ⟨rfl, hb8⟩; rw [hsz]; have hB8 := hB7.trans (hb8.mono hB7.size); have z8 := z7.below hb8; have c8 := c7.below hb8; have q8 := q7.below hb8; have hp8 := hp7.below hb8; have ho8 := ho7.below hb8; have l8 := c8.lt)
      | (refine ld_mc rfl rfl rfl c8 ?_)
      | (refine bd_de rfl rfl rfl ?_)
      | (refine al_de rfl rfl ?_; intro w9 d9 hb9; have hB9 := hB8.trans (hb9.mono hB8.size); have z9 := z8.below hb9; have q9 := q8.below hb9; have hp9 := hp8.below hb9; have ho9 := ho8.below hb9; have l9 := d9.lt)
      | (refine st_de rfl rfl rfl rfl d9 (one_own ho9) (one_own hp9) ?_; intro w10 d10 o10 s10; have z10 := z9.onto o10 (by omega); have q10 := q9.onto o10 (by omega); have kp := (cw q10).pc
         have D10 : DSt w2.heap.size w10 w8.heap.size x4 y4 m 0 (-1) := ⟨d10, ho9.onto o10 (fun e => by have := hxl _ e; omega), hp9.onto o10 (fun e => by have := hyl _ e; omega), ha4, fun e => by have := hxl _ e; omega, fun e => by have := hyl _ e; omega, by omega⟩
         have hB10 := below_onto hB9 o10 (by omega)))
    obtain ⟨N, HNN⟩ : ∃ N, Hid (N = m.opnd) := ⟨_, show _ = _ from rfl⟩
    refine region_last (by kernel_rfl) (by kernel_rfl) 6 (by decide) (by kernel_rfl) (by kernel_rfl) (fun W => DSt w2.heap.size W w8.heap.size x4 y4 m 0 (-1) ∧ MRow W w.heap.size vr va m ∧ MRow W w0.heap.size nil64 nil64 Mc.nul ∧ Below w.heap.size w W) (fun W => DSt w2.heap.size W w8.heap.size x4 y4 m m.opnd (-1) ∧ MRow W w.heap.size vr va m ∧ MRow W w0.heap.size nil64 nil64 Mc.nul ∧ Below w.heap.size w W)
      [m.val vr va, .pointer (some ⟨w.heap.size, 4, none⟩), .int .i64 m.pc, .int .i64 (addB m.pc 1), .int .i64 m.opnd, .pointer (some ⟨w8.heap.size, 25, none⟩), undef] ⟨D10.drew, q10.drewN 1, z10.drewN 1, below_drewN hB10 1⟩ ?step ?last ?done
    case step =>
      intro L ix o' A W hne hi hI hg hd
      have hin : ix < 7 := by
        by_cases hl : ix < 7
        · exact hl
        · simp [hl] at hi
      rcases ix with _ | ix
      · cases hi
        have e0 : A.eval (.tmp 1) = .pointer (some ⟨w.heap.size, 0, none⟩) := hI.old 1 (by kernel_rfl)
        exact at_op rfl rfl (wp_load_row _ _ rfl _ e0 _ _ _ _ hg.2.1.row Tryz.underlying30 rfl info_mc ⟨_, rfl, rfl, hg⟩)
      rcases ix with _ | ix
      · cases hi
        have e0 : A.eval (.tmp 1) = .pointer (some ⟨w.heap.size, 0, none⟩) := hI.old 1 (by kernel_rfl)
        refine at_op rfl rfl (val_op (v := .pointer (some ⟨w.heap.size, 4, none⟩)) ?_ ⟨_, rfl, rfl, hg⟩)
        unfold execOp
        simp only [List.getElem_toArray, List.getElem_cons_zero, List.getElem_cons_succ, e0]
        simp [go_sem]
      rcases ix with _ | ix
      · cases hi
        have e0 : A.eval (.tmp 37) = .pointer (some ⟨w.heap.size, 4, none⟩) := hI.val hd 1 37 rfl rfl (by kernel_rfl)
        exact at_op rfl rfl (load_op rfl Tryz.underlying2 e0 (cw hg.2.1).pc ⟨_, rfl, rfl, hg⟩)
      rcases ix with _ | ix
      · cases hi
        have e0 : A.eval (.tmp 38) = .int .i64 m.pc := hI.val hd 2 38 rfl rfl (by kernel_rfl)
        refine at_op rfl rfl (call_op rfl Tryz.func158 (by kernel_rfl) (by kernel_rfl) ?_)
        simp only [List.map_cons, List.map_nil, e0]
        refine (placeBehind_impl _ _ _).mono ?_
        rintro e W1 ⟨rfl, rfl⟩
        exact ⟨_, rfl, _, rfl, rfl, hg⟩
      rcases ix with _ | ix
      · cases hi
        have e0 : A.eval (.tmp 36) = m.val vr va := hI.val hd 0 36 rfl rfl (by kernel_rfl)
        have e1 : A.eval (.tmp 39) = .int .i64 (addB m.pc 1) := hI.val hd 3 39 rfl rfl (by kernel_rfl)
        refine at_op rfl rfl (call_op rfl Tryz.func156 (by kernel_rfl) (by kernel_rfl) ?_)
        simp only [List.map_cons, List.map_nil, e0, e1]
        refine (readAt_impl _ m _ _ ⟨vr, va, rfl, hr.below hg.2.2.2, ha.below hg.2.2.2⟩).mono ?_
        rintro e W1 ⟨rfl, hb⟩
        rw [HN.out]
        exact ⟨_, rfl, _, rfl, rfl, hg.1.below hb, hg.2.1.below hb, hg.2.2.1.below hb, hg.2.2.2.trans (hb.mono hg.2.2.2.size)⟩
      rcases ix with _ | ix
      · cases hi
        have e0 : A.eval (.tmp 8) = .pointer (some ⟨w8.heap.size, 0, none⟩) := hI.old 8 (by kernel_rfl)
        refine at_op rfl rfl (val_op (v := .pointer (some ⟨w8.heap.size, 25, none⟩)) ?_ ⟨_, rfl, rfl, hg⟩)
        unfold execOp
        simp only [List.getElem_toArray, List.getElem_cons_zero, List.getElem_cons_succ, e0]
        simp [go_sem]
      rcases ix with _ | ix
      · exact absurd rfl hne
      omega
    case last =>
      intro L o' A W hi hI hg hd
      cases hi
      have e0 : A.eval (.tmp 41) = .pointer (some ⟨w8.heap.size, 25, none⟩) := hI.val hd 5 41 rfl rfl (by kernel_rfl)
      have e1 : A.eval (.tmp 40) = .int .i64 m.opnd := hI.val hd 4 40 rfl rfl (by kernel_rfl)
      exact at_op rfl rfl (sd_op (m' := m) (n' := m.opnd) (o' := -1) rfl e0 e1 hg.1.row rfl rfl (fun W1 hr1 hon => ⟨_, rfl, rfl, hg.1.set hr1 hon rfl rfl, hg.2.1.onto hon (by omega), hg.2.2.1.onto hon (by omega), below_onto hg.2.2.2 hon (by omega)⟩))
    case done =>
    intro A W hI hE
    have t36 : A.tmps.getD 36 undef = m.val vr va := hI.last 0 36 rfl
    have t37 : A.tmps.getD 37 undef = .pointer (some ⟨w.heap.size, 4, none⟩) := hI.last 1 37 rfl
    have t38 : A.tmps.getD 38 undef = .int .i64 m.pc := hI.last 2 38 rfl
    have t39 : A.tmps.getD 39 undef = .int .i64 (addB m.pc 1) := hI.last 3 39 rfl
    have t40 : A.tmps.getD 40 undef = .int .i64 m.opnd := hI.last 4 40 rfl
    have t41 : A.tmps.getD 41 undef = .pointer (some ⟨w8.heap.size, 25, none⟩) := hI.last 5 41 rfl
    have hA := hI.frame [36, 37, 38, 39, 40, 41] (by kernel_rfl)
    rw [hA]
    clear hA hI
    simp only [putAll, List.foldl_cons, List.foldl_nil, t36, t37, t38, t39, t40, t41]
    clear t36 t37 t38 t39 t40 t41
    obtain ⟨D11, q11, z11, hB11⟩ := hE
    have d11 := D11.row
    have kp' := (cw q11).pc
    rw [← HNN.out] at D11 d11
    rw [← HNN.out]
    go_wp2_with (first
      | (go_at_call 158; refine (placeBehind_impl _ _ _).mono ?_; rintro e w11 ⟨rfl, rfl⟩)
      | (refine st_dn (m' := { m with pc := addB m.pc 2 }) (n' := N) (o' := -1) rfl rfl rfl rfl d11 rfl rfl ?_; intro w12 d12 o12 s12; have z12 := z11.onto o12 (by omega); have D12 := D11.set d12 o12 rfl rfl; have hB12 := below_onto hB11 o12 (by omega))
      | (go_at_call 159; refine (operations_impl _).mono ?_; rintro e w13 ⟨rfl, hb13⟩; have z13 := z12.below hb13; have D13 := D12.below hb13; have hB13 := hB12.trans (hb13.mono hB12.size))
      | (refine ix_ops rfl rfl rfl rfl hst ?_)
      | (refine call_dyn rfl rfl rfl hst ?_; refine (hst.does _ _ _ _ _ _ _ D13 (ok_pc hok (addB_ok _ _)) (by rw [HNN.out]; exact opnd_ok hok)).mono ?_; rintro e w14 ⟨rfl, x14, y14, D14, o14⟩; refine ⟨_, rfl, ?_⟩
         rw [← HO.out, HNN.out] at D14
         have z14 := z13.onto o14 (by omega)
         have hB14 := below_onto hB13 o14 (by omega)
         have t14 : OpsAt w14 := OpsAt.below ho hB14))
    have hGx : Gx w w2.heap.size w8.heap.size w0.heap.size x14 y14 (m.onw.does m.opnd k).1 m.opnd (m.onw.does m.opnd k).2 false w14 := ⟨D14, t14, hB14, z14⟩
    obtain ⟨M, HM⟩ : ∃ M, Hid (M = (m.onw.does m.opnd k).1) := ⟨_, show _ = _ from rfl⟩
    obtain ⟨O, HQ⟩ : ∃ O, Hid (O = (m.onw.does m.opnd k).2) := ⟨_, show _ = _ from rfl⟩
    rw [← HM.out, ← HQ.out] at hGx
    have hs0 := hB0.size
    have hs1 := hb2.size
    refine region_known (by kernel_rfl) (by kernel_rfl) 6 (by decide) (by kernel_rfl) (Gx w w2.heap.size w8.heap.size w0.heap.size x14 y14 M m.opnd O)
      [.pointer (some ⟨w8.heap.size, 0, none⟩), M.val x14 y14, .int .i64 (k : Int), .int .i64 (line (k : Int)).2.2, .pointer (some ⟨w8.heap.size, 26, none⟩), .int .i64 O, undef, .int .i64 (line (k : Int)).2.2, .int .i64 O] hGx.drew ?step ?done
    case step =>
      intro L ix o' A W hi hI hL hd
      have hin : ix < 9 := by
        by_cases hl : ix < 9
        · exact hl
        · simp [hl] at hi
      have hg := hI.g
      rcases ix with _ | ix
      · cases hi
        have e0 : A.eval (.tmp 8) = .pointer (some ⟨w8.heap.size, 0, none⟩) := hI.old 8 (by kernel_rfl)
        refine at_op rfl rfl (val_op (v := .pointer (some ⟨w8.heap.size, 0, none⟩)) ?_ ⟨_, rfl, rfl, by simpa using hg⟩)
        unfold execOp
        simp only [List.getElem_toArray, List.getElem_cons_zero, List.getElem_cons_succ, e0]
        simp [go_sem]
      rcases ix with _ | ix
      · cases hi
        have e0 : A.eval (.tmp 52) = .pointer (some ⟨w8.heap.size, 0, none⟩) := hI.val hd 0 52 rfl rfl (by kernel_rfl)
        exact at_op rfl rfl (lm_op rfl e0 hg.d.row ⟨_, rfl, rfl, by simpa using hg⟩)
      rcases ix with _ | ix
      · cases hi
        have e0 : A.eval (.tmp 6) = .int .i64 (k : Int) := hI.old 6 (by kernel_rfl)
        exact at_op rfl rfl (move_op rfl ⟨_, rfl, e0, by simpa using hg⟩)
      rcases ix with _ | ix
      · cases hi
        have e0 : A.eval (.tmp 54) = .int .i64 (k : Int) := hI.val hd 2 54 rfl rfl (by kernel_rfl)
        refine at_op rfl rfl (call_op rfl Tryz.func160 (by kernel_rfl) (by kernel_rfl) ?_)
        simp only [List.map_cons, List.map_nil, e0]
        refine (costOf_impl _ _ hg.t).mono ?_
        rintro e W1 ⟨rfl, hb⟩
        exact ⟨_, rfl, _, rfl, rfl, by simpa using hg.below hb⟩
      rcases ix with _ | ix
      · cases hi
        have e0 : A.eval (.tmp 8) = .pointer (some ⟨w8.heap.size, 0, none⟩) := hI.old 8 (by kernel_rfl)
        refine at_op rfl rfl (val_op (v := .pointer (some ⟨w8.heap.size, 26, none⟩)) ?_ ⟨_, rfl, rfl, by simpa using hg⟩)
        unfold execOp
        simp only [List.getElem_toArray, List.getElem_cons_zero, List.getElem_cons_succ, e0]
        simp [go_sem]
      rcases ix with _ | ix
      · cases hi
        have e0 : A.eval (.tmp 56) = .pointer (some ⟨w8.heap.size, 26, none⟩) := hI.val hd 4 56 rfl rfl (by kernel_rfl)
        exact at_op rfl rfl (load_op rfl Tryz.underlying2 e0 (dw hg.d.row).o ⟨_, rfl, rfl, by simpa using hg⟩)
      rcases ix with _ | ix
      · cases hi
        have e0 : A.eval (.tmp 2) = .pointer (some ⟨w0.heap.size, 0, none⟩) := hI.old 2 (by kernel_rfl)
        have e1 : A.eval (.tmp 53) = M.val x14 y14 := hI.val hd 1 53 rfl rfl (by kernel_rfl)
        have hres : MRow W w0.heap.size nil64 nil64 Mc.nul := by have := hg.res; simpa [hL] using this
        refine at_op rfl rfl (sm_op rfl e0 e1 hres (one_own hg.d.hx) (one_own hg.d.hy) (fun W1 hr hon => ⟨_, rfl, rfl, ?_⟩))
        have := hg.lay hr hon (by omega) (by omega) h0
        simpa using this
      rcases ix with _ | ix
      · cases hi
        have e0 : A.eval (.tmp 55) = .int .i64 (line (k : Int)).2.2 := hI.val hd 3 55 rfl rfl (by kernel_rfl)
        exact at_op rfl rfl (assign_op rfl ⟨_, rfl, e0, by simpa using hg⟩)
      rcases ix with _ | ix
      · cases hi
        have e0 : A.eval (.tmp 57) = .int .i64 O := hI.val hd 5 57 rfl rfl (by kernel_rfl)
        exact at_op rfl rfl (assign_op rfl ⟨_, rfl, e0, by simpa using hg⟩)
      omega
    case done =>
      intro A W hI
      have hg := hI.g
      have hres : MRow W w0.heap.size x14 y14 M := by have := hg.res; simpa using this
      have a2 : A.tmps.getD 2 undef = .pointer (some ⟨w0.heap.size, 0, none⟩) := hI.old 2 (by kernel_rfl)
      have a3 : A.tmps.getD 3 undef = .int .i64 (line (k : Int)).2.2 := hI.last 7 3 rfl
      have a4 : A.tmps.getD 4 undef = .int .i64 O := hI.last 8 4 rfl
      go_wp2_with fail
      refine ret_mc3 rfl a2 hres hI.defers a3 a4 ?_
      rw [← HM.out, ← HQ.out]
      exact ⟨Ans.mk hg.d.hx hg.d.hy hg.d.ap (by omega), hg.bel⟩
theorem executed_impl (v : Value) (m : Mc) (w : World) (hm : MSl w v m) (ho : OpsAt w) :
    Calls Tryz.prog 113 #[v] w fun e w' => Ans w.heap.size w' e m.execd ∧ Below w.heap.size w w' := by
  unfold Mc.execd
  cases hok : m.ok
  · exact executed_no v m w hm hok
  rw [if_pos rfl]
  unfold Mc.exec
  cases hi : (m.h || m.s)
  · rw [if_neg (by decide)]
    by_cases hz : m.size' = 0
    · rw [if_pos hz]; exact executed_stuck v m w hm ho hok hi hz
    · rw [if_neg hz]
      have hc : 0 ≤ m.code ∧ m.code < 31 := by
        by_cases h : 0 ≤ m.code ∧ m.code < 31
        · exact h
        · exact absurd (by unfold Mc.size'; rw [size_no _ h]) hz
      obtain ⟨k, hk⟩ : ∃ k : Nat, m.code = (k : Int) := ⟨m.code.toNat, by omega⟩
      have hk31 : k < 31 := by omega
      rw [hk, Int.toNat_natCast]
      rcases size_in k hk31 with h1 | h1
      · exact executed_one v m w hm ho hok hi k hk31 hk h1
      · exact executed_two v m w hm ho hok hi k hk31 hk h1
  · rw [if_pos rfl]; exact executed_idle v m w hm hok hi
end Go.Proofs.YtghmkacamabndaaGreatDoor.Mem
namespace Go.Proofs.YtghmkacamabndaaGreatDoor.Mem
open Go.ChangeShapes Go.WideShapes Go.RowKit Base Num Slc Rw Tmr Srl Rom RomOf Opl

theorem executed_impl' {m M : Mc} {C O : Int} (h : m.execd = (M, C, O)) (v : Value) (w : World) (hm : MSl w v m) (ho : OpsAt w) :
    Calls Tryz.prog 113 #[v] w fun e w' => ∃ v', e = .returned (.tuple #[v', .int .i64 C, .int .i64 O]) ∧ MOwn w.heap.size w' v' M ∧ Below w.heap.size w w' := by
  have := executed_impl v m w hm ho
  rw [h] at this
  refine this.mono ?_
  rintro e w' ⟨⟨v', rfl, hv'⟩, hb⟩
  exact ⟨v', rfl, hv', hb⟩
end Go.Proofs.YtghmkacamabndaaGreatDoor.Mem
namespace Go.Proofs.YtghmkacamabndaaGreatDoor.Mem
open Go.ChangeShapes Go.WideShapes Go.RowKit Base Num Slc Slf Rw Tmr Srl Rom Opl Reg

theorem call_told (m : Mc) : m.call.2 = -1 ∨ 0 ≤ m.call.2 := by
  unfold Mc.call
  split
  · exact .inl rfl
  split
  · exact .inl rfl
  · rcases pend_in m.fl m.ms with h | h | h | h
    · exact .inl h
    all_goals (refine .inr ?_; show 0 ≤ Mem.pend m.fl m.ms; omega)
theorem outs_told {q n : Int} (h : 0 ≤ n) : outs q n = -1 ∨ 0 ≤ outs q n := by
  unfold outs
  split
  · exact .inr h
  · exact .inl rfl
theorem does_told {m : Mc} (h : m.ok = true) (n : Int) (k : Nat) : (m.does n k).2 = -1 ∨ 0 ≤ (m.does n k).2 := by
  have ha := (bok_iff.1 (okm.1 h).a).1
  have hp := (bok_iff.1 (okm.1 h).pc).1
  unfold Mc.does
  split <;> first | exact .inl rfl | exact outs_told ha | exact outs_told hp
theorem exec_told {m : Mc} (h : m.ok = true) : m.exec.2.2 = -1 ∨ 0 ≤ m.exec.2.2 := by
  unfold Mc.exec
  split
  · exact .inl rfl
  split
  · exact .inl rfl
  · exact does_told (onw_ok h) _ _
section
variable {op : Oper} {a : Act} {w : World} {Q : Exit → Act → World → Prop} {p : Operand} {ops : Array Oper} {rest : List Oper}
theorem ret_g {fn : Func} {R : Ending → World → Prop} {q : Tmp} {g : Nat} {x y vo ve vi : Value} {s : St} {co fin : Int} (h : fn.results = #[.cell q 86]) (hp : a.tmps.getD q undef = .pointer (some ⟨g, 0, none⟩)) (hr : GRow w g x y vo ve vi s co fin) (hde : a.defers = []) (hR : R (.returned (gval x y vo ve vi s co fin)) w) :
    bodyPost Tryz.prog fn R .ret a w := ret_row h hp hr Tryz.underlying86 rfl info_g hde hR
end
theorem stepOver_impl (v x y : Value) (m : Mc) (C K : Int) (w : World) (hv : v = m.val x y) (hx : x.oneCell' = true) (hy : y.oneCell' = true) (hk : m.k = K) (h0 : 0 ≤ K ∧ K ≤ 1000000000) (hC : 0 ≤ C ∧ C ≤ 5) :
    Calls Tryz.prog 111 #[v, .int .i64 C] w fun e w' => e = .returned (gval x y nil64 nil64 nil64 ⟨m, [], [], 0⟩ C (K + C)) ∧ Below w.heap.size w w' := by
  have HK : Hid (m.k = K) := hk
  clear hk
  go_enter Tryz.func111, Tryz.ntmps111
  go_wp2_with (first
    | (refine box_m rfl rfl hv ?_; intro w0 r0 hb0; have ck : w0.cell? ⟨w.heap.size, 24, none⟩ = some (.int .i64 K) := by rw [← HK.out]; exact (cw r0).k)
    | (refine al_g rfl rfl ?_; intro w1 z1 hb1; have r1 := r0.below hb1; have lr := r0.lt; have ck1 : w1.cell? ⟨w.heap.size, 24, none⟩ = some (.int .i64 K) := by rw [hb1.cell (p := ⟨w.heap.size, 24, none⟩) lr]; exact ck)
    | (refine ld_mc rfl rfl rfl r1 ?_)
    | (refine bd_s1 rfl rfl rfl ?_)
    | (refine bd_g rfl rfl rfl rfl rfl ?_)
    | (refine st_g rfl rfl rfl rfl z1 hx hy rfl rfl rfl ?_; rintro w2 z2 o2 -; have hB := below_onto (below_more hb0 hb1) o2 (by omega)))
  refine ret_g rfl rfl z2 rfl ?_
  exact ⟨rfl, hB⟩
theorem new_bb {w2 w3 w4 : World} (hb : Below w2.heap.size w2 w3) (ho : Onto w2.heap.size w3 w4) : Below w2.heap.size w2 w4 := below_onto hb ho (Nat.le_refl _)
def Bgn (base : Nat) (w w' : World) (e : Ending) (m : Mc) : Prop := ∃ x y vo ve, e = .returned (gval x y vo ve nil64 (St.first m) m.turn.2.1 m.fin) ∧ So base w' x y vo ve (St.first m) ∧ Below w.heap.size w w'
set_option maxHeartbeats 2000000 in
theorem begun_impl (v : Value) (m : Mc) (w : World) (hm : MSl w v m) (hok : m.ok = true) (ho : OpsAt w) :
    Calls Tryz.prog 51 #[v] w fun e w' => Bgn w.heap.size w w' e m := by
  have hL := turn_like hok
  have hcst := turn_cost m
  have hkk : 0 ≤ m.k ∧ m.k ≤ 1000000000 := by
    have h1 := (okm.1 hok).k
    have h2 := (Tm.ok_true (okm.1 hok).t).1
    omega
  obtain ⟨M1, I, hC⟩ : ∃ M1 I, m.call = (M1, I) := ⟨_, _, rfl⟩
  have hct := call_told m
  rw [hC] at hct
  have HC : Hid (m.called = (M1, I)) := show _ = _ by unfold Mc.called; rw [if_pos hok, hC]
  obtain ⟨x, y, hv, hr, ha⟩ := hm
  by_cases hI : I = -1
  · have HC1 : Hid (I = -1) := hI
    subst hI
    have hok1 : M1.ok = true := by
      have := (call_like hok).1
      rw [hC] at this; exact this
    obtain ⟨M2, C, U, hR⟩ : ∃ M2 C U, M1.exec = (M2, C, U) := ⟨_, _, _, rfl⟩
    have hU := exec_told hok1
    rw [hR] at hU
    have HR : Hid (M1.execd = (M2, C, U)) := show _ = _ by unfold Mc.execd; rw [if_pos hok1, hR]
    obtain ⟨K, hK⟩ : ∃ K, m.k = K := ⟨_, rfl⟩
    have HU : Hid (U = -1 ∨ 0 ≤ U) := hU
    by_cases hU1 : U = -1
    · subst hU1
      have ht : m.turn = (M2, C, []) := by unfold Mc.turn; rw [hC]; simp only []; rw [if_pos (by decide), hR]; simp only []; rw [if_neg (by decide)]
      rw [ht] at hL hcst
      simp only [] at hcst
      have HF : Hid (St.first m = ⟨M2, [], [], 0⟩ ∧ m.turn.2.1 = C ∧ m.fin = m.k + C) := by
        refine ⟨?_, ?_, ?_⟩
        · unfold St.first; rw [ht]
        · rw [ht]
        · unfold Mc.fin; rw [ht]
      have HKK : Hid (M2.k = m.k) := show _ = _ from hL.2.1
      skip
      clear hL hC hct ht hR hU hok1 HC1
      rw [hK] at HF HKK hkk
      clear hK
      go_enter Tryz.func51, Tryz.ntmps51
      go_wp2_with (first
        | (refine box_m rfl rfl hv ?_; intro w0 r0 hb0; have hr0 := hr.below hb0; have ha0 := ha.below hb0; have oo0 := ho.below hb0)
        | (refine al_g rfl rfl ?_; intro w1 z1 hb1; have r1 := r0.below hb1; have hr1 := hr0.below hb1; have ha1 := ha0.below hb1; have oo1 := oo0.below hb1; have hB1 := below_more hb0 hb1; have s0 := hb0.size; have s1 := hb1.size; have lz1 := z1.lt)
        | (refine ld_mc rfl rfl rfl r1 ?_)
        | (go_at_call 110; refine (interrupted_impl' HC.out _ _ ⟨x, y, rfl, hr1, ha1⟩).mono ?_; rintro e w2 ⟨v2, rfl, ⟨x2, y2, rfl, hx2, hy2, ap2⟩, hb2⟩; have s2 := hb2.size; have z2 := z1.below hb2; have hB2 := below_more hB1 hb2; have oo2 := oo1.below hb2)
        | (refine al_mc rfl rfl ?_; intro w3 q3 hb3; have z3 := z2.below hb3; have hx3 := hx2.below hb3; have hy3 := hy2.below hb3; have hB3 := below_more hB2 hb3; have s3 := hb3.size; have lq3 := q3.lt; have oo3 := oo2.below hb3)
        | (refine st_mc rfl rfl rfl rfl q3 (one_own hx3) (one_own hy3) ?_; rintro w4 q4 o4 -; have z4 := z3.onto o4 (by omega); have b34 := new_bb hb3 o4; have hx4 := hx2.below b34; have hy4 := hy2.below b34; have hB4 := below_onto hB3 o4 (by omega); have s4 := o4.size; have oo4 := oo2.below b34)
        | (refine ld_mc rfl rfl rfl q4 ?_)
        | (go_at_call 113; refine (executed_impl' HR.out _ _ ⟨x2, y2, rfl, hx4.sl, hy4.sl⟩ oo4).mono ?_; rintro e w5 ⟨v5, rfl, ⟨x5, y5, rfl, hx5, hy5, ap5⟩, hb5⟩; have s5 := hb5.size; have O5 : Ow w.heap.size w5 x5 y5 M2 := ⟨hx5.mono (by omega), hy5.mono (by omega), ap5, by omega⟩; have z5 := z4.below hb5; have hB5 := below_more hB4 hb5)
        | (refine al_mc rfl rfl ?_; intro w6 q6 hb6; have z6 := z5.below hb6; have O6 := O5.below hb6; have hB6 := below_more hB5 hb6; have s6 := hb6.size; have lq6 := q6.lt)
        | (refine st_mc rfl rfl rfl rfl q6 (one_own O6.hx) (one_own O6.hy) ?_; rintro w7 q7 o7 -; have z7 := z6.onto o7 (by omega); have O7 := O6.at o7 (own_not_row O6.hx q6 (by decide)) (own_not_row O6.hy q6 (by decide)); have hB7 := below_onto hB6 o7 (by omega); have s7 := o7.size)
        | (refine ld_mc rfl rfl rfl q7 ?_)
        | (go_at_call 111; refine (stepOver_impl _ x5 y5 M2 C K _ rfl (one_own O7.hx) (one_own O7.hy) HKK.out hkk (by omega)).mono ?_; rintro e w8 ⟨rfl, hb8⟩; have z8 := z7.below hb8; have O8 := O7.below hb8; have hB8 := below_more hB7 hb8; have s8 := hb8.size)
        | (refine al_g rfl rfl ?_; intro w9 g9 hb9; have z9 := z8.below hb9; have O9 := O8.below hb9; have hB9 := below_more hB8 hb9; have s9 := hb9.size; have lg9 := g9.lt)
        | (refine st_g rfl rfl rfl rfl g9 (one_own O9.hx) (one_own O9.hy) rfl rfl rfl ?_; rintro wa ga oa -; have za := z9.onto oa (by omega); have Oa := O9.at oa (own_not_row O9.hx g9 (by decide)) (own_not_row O9.hy g9 (by decide)); have hBa := below_onto hB9 oa (by omega); have sa := oa.size; have kf := (gc ga).fin; have Ya : So w.heap.size wa x5 y5 nil64 nil64 ⟨M2, [], [], 0⟩ := ⟨Oa, OwnF.nil _ _ _, OwnF.nil _ _ _⟩)
        | (refine ld_g rfl rfl rfl ga ?_)
        | (refine st_g rfl rfl rfl rfl za (one_own Ya.ow.hx) (one_own Ya.ow.hy) rfl rfl rfl ?_; rintro wc zc oc -; have Yc := Ya.row oc za plain_g (by decide); have hBc := below_onto hBa oc (by omega)))
      refine ret_g rfl rfl zc rfl ?_
      unfold Bgn
      rw [HF.out.1, HF.out.2.1, HF.out.2.2]
      exact ⟨x5, y5, nil64, nil64, rfl, Yc, hBc⟩
    · have hU0 : 0 ≤ U := hU.resolve_left hU1
      have ht : m.turn = (M2, C, [⟨m.k + C, 1, U⟩]) := by unfold Mc.turn; rw [hC]; simp only []; rw [if_pos (by decide), hR]; simp only []; rw [if_pos hU0]
      rw [ht] at hL hcst
      simp only [] at hcst
      have HF : Hid (St.first m = ⟨M2, [], [⟨m.k + C, 1, U⟩], 0⟩ ∧ m.turn.2.1 = C ∧ m.fin = m.k + C) := by
        refine ⟨?_, ?_, ?_⟩
        · unfold St.first; rw [ht]
        · rw [ht]
        · unfold Mc.fin; rw [ht]
      have HKK : Hid (M2.k = m.k) := show _ = _ from hL.2.1
      have bU : (U == -1) = false := by simp; omega
      clear hL hC hct ht hR hU hok1 HC1
      rw [hK] at HF HKK hkk
      clear hK
      go_enter Tryz.func51, Tryz.ntmps51
      go_wp2_with (first
        | (refine box_m rfl rfl hv ?_; intro w0 r0 hb0; have hr0 := hr.below hb0; have ha0 := ha.below hb0; have oo0 := ho.below hb0)
        | (refine al_g rfl rfl ?_; intro w1 z1 hb1; have r1 := r0.below hb1; have hr1 := hr0.below hb1; have ha1 := ha0.below hb1; have oo1 := oo0.below hb1; have hB1 := below_more hb0 hb1; have s0 := hb0.size; have s1 := hb1.size; have lz1 := z1.lt)
        | (refine ld_mc rfl rfl rfl r1 ?_)
        | (go_at_call 110; refine (interrupted_impl' HC.out _ _ ⟨x, y, rfl, hr1, ha1⟩).mono ?_; rintro e w2 ⟨v2, rfl, ⟨x2, y2, rfl, hx2, hy2, ap2⟩, hb2⟩; have s2 := hb2.size; have z2 := z1.below hb2; have hB2 := below_more hB1 hb2; have oo2 := oo1.below hb2)
        | (refine al_mc rfl rfl ?_; intro w3 q3 hb3; have z3 := z2.below hb3; have hx3 := hx2.below hb3; have hy3 := hy2.below hb3; have hB3 := below_more hB2 hb3; have s3 := hb3.size; have lq3 := q3.lt; have oo3 := oo2.below hb3)
        | (refine st_mc rfl rfl rfl rfl q3 (one_own hx3) (one_own hy3) ?_; rintro w4 q4 o4 -; have z4 := z3.onto o4 (by omega); have b34 := new_bb hb3 o4; have hx4 := hx2.below b34; have hy4 := hy2.below b34; have hB4 := below_onto hB3 o4 (by omega); have s4 := o4.size; have oo4 := oo2.below b34)
        | (refine ld_mc rfl rfl rfl q4 ?_)
        | (go_at_call 113; refine (executed_impl' HR.out _ _ ⟨x2, y2, rfl, hx4.sl, hy4.sl⟩ oo4).mono ?_; rintro e w5 ⟨v5, rfl, ⟨x5, y5, rfl, hx5, hy5, ap5⟩, hb5⟩; have s5 := hb5.size; have O5 : Ow w.heap.size w5 x5 y5 M2 := ⟨hx5.mono (by omega), hy5.mono (by omega), ap5, by omega⟩; have z5 := z4.below hb5; have hB5 := below_more hB4 hb5)
        | (refine al_mc rfl rfl ?_; intro w6 q6 hb6; have z6 := z5.below hb6; have O6 := O5.below hb6; have hB6 := below_more hB5 hb6; have s6 := hb6.size; have lq6 := q6.lt)
        | (refine st_mc rfl rfl rfl rfl q6 (one_own O6.hx) (one_own O6.hy) ?_; rintro w7 q7 o7 -; have z7 := z6.onto o7 (by omega); have O7 := O6.at o7 (own_not_row O6.hx q6 (by decide)) (own_not_row O6.hy q6 (by decide)); have hB7 := below_onto hB6 o7 (by omega); have s7 := o7.size)
        | (refine ld_mc rfl rfl rfl q7 ?_)
        | (go_at_call 111; refine (stepOver_impl _ x5 y5 M2 C K _ rfl (one_own O7.hx) (one_own O7.hy) HKK.out hkk (by omega)).mono ?_; rintro e w8 ⟨rfl, hb8⟩; have z8 := z7.below hb8; have O8 := O7.below hb8; have hB8 := below_more hB7 hb8; have s8 := hb8.size)
        | (refine al_g rfl rfl ?_; intro w9 g9 hb9; have z9 := z8.below hb9; have O9 := O8.below hb9; have hB9 := below_more hB8 hb9; have s9 := hb9.size; have lg9 := g9.lt)
        | (refine st_g rfl rfl rfl rfl g9 (one_own O9.hx) (one_own O9.hy) rfl rfl rfl ?_; rintro wa ga oa -; have za := z9.onto oa (by omega); have Oa := O9.at oa (own_not_row O9.hx g9 (by decide)) (own_not_row O9.hy g9 (by decide)); have hBa := below_onto hB9 oa (by omega); have sa := oa.size; have kf := (gc ga).fin; have Ya : So w.heap.size wa x5 y5 nil64 nil64 ⟨M2, [], [], 0⟩ := ⟨Oa, OwnF.nil _ _ _, OwnF.nil _ _ _⟩)
        | (go_at_call 112; refine (tell_impl (K + C) 1 U ga Ya (by simp)).mono ?_; rintro e wb ⟨rfl, vo8, ve8, gb, Yb, Mb⟩; have zb := Mb.row za plain_g (by omega); have hBb : Below w.heap.size w wb := hBa.trans (Mb.below (by omega) hBa.size); have sb := Mb.size)
        | (refine ld_g rfl rfl rfl gb ?_)
        | (refine st_g rfl rfl rfl rfl zb (one_own Yb.ow.hx) (one_own Yb.ow.hy) (Yb.o.one okM) (Yb.e.one okE) rfl ?_; rintro wc zc oc -; have Yc := Yb.row oc zb plain_g (by decide); have hBc := below_onto hBb oc (by omega)))
      refine ret_g rfl rfl zc rfl ?_
      unfold Bgn
      rw [HF.out.1, HF.out.2.1, HF.out.2.2]
      exact ⟨x5, y5, vo8, ve8, rfl, Yc, hBc⟩
  · have hI0 : 0 ≤ I := hct.resolve_left hI
    have ht : m.turn = (M1, 5, [⟨m.k + 5, 2, I⟩]) := by unfold Mc.turn; rw [hC]; simp only []; rw [if_neg (by omega)]
    have HF : Hid (St.first m = ⟨M1, [], [⟨m.k + 5, 2, I⟩], 0⟩ ∧ m.turn.2.1 = 5 ∧ m.fin = m.k + 5) := by
      refine ⟨?_, ?_, ?_⟩
      · unfold St.first; rw [ht]
      · rw [ht]
      · unfold Mc.fin; rw [ht]
    have HKK : Hid (M1.k = m.k) := show _ = _ by rw [ht] at hL; exact hL.2.1
    have bI : (I == -1) = false := by simpa using hI
    clear hL hcst hC hct ht hI
    obtain ⟨K, hK⟩ : ∃ K, m.k = K := ⟨_, rfl⟩
    rw [hK] at HF HKK hkk
    clear hK
    go_enter Tryz.func51, Tryz.ntmps51
    go_wp2_with (first
      | (refine box_m rfl rfl hv ?_; intro w0 r0 hb0; have hr0 := hr.below hb0; have ha0 := ha.below hb0)
      | (refine al_g rfl rfl ?_; intro w1 z1 hb1; have r1 := r0.below hb1; have hr1 := hr0.below hb1; have ha1 := ha0.below hb1; have hB1 := below_more hb0 hb1; have s0 := hb0.size; have s1 := hb1.size; have lz1 := z1.lt)
      | (refine ld_mc rfl rfl rfl r1 ?_)
      | (go_at_call 110; refine (interrupted_impl' HC.out _ _ ⟨x, y, rfl, hr1, ha1⟩).mono ?_; rintro e w2 ⟨v2, rfl, ⟨x2, y2, rfl, hx2, hy2, ap2⟩, hb2⟩; have s2 := hb2.size; have O2 : Ow w.heap.size w2 x2 y2 M1 := ⟨hx2.mono (by omega), hy2.mono (by omega), ap2, by omega⟩; have z2 := z1.below hb2; have hB2 := below_more hB1 hb2)
      | (refine al_mc rfl rfl ?_; intro w3 q3 hb3; have z3 := z2.below hb3; have O3 := O2.below hb3; have hB3 := below_more hB2 hb3; have s3 := hb3.size; have lq3 := q3.lt)
      | (refine st_mc rfl rfl rfl rfl q3 (one_own O3.hx) (one_own O3.hy) ?_; rintro w4 q4 o4 -; have z4 := z3.onto o4 (by omega); have O4 := O3.at o4 (own_not_row O3.hx q3 (by decide)) (own_not_row O3.hy q3 (by decide)); have hB4 := below_onto hB3 o4 (by omega); have s4 := o4.size)
      | (refine ld_mc rfl rfl rfl q4 ?_)
      | (go_at_call 111; refine (stepOver_impl _ x2 y2 M1 5 K _ rfl (one_own O4.hx) (one_own O4.hy) HKK.out hkk (by decide)).mono ?_; rintro e w5 ⟨rfl, hb5⟩; have z5 := z4.below hb5; have O5 := O4.below hb5; have hB5 := below_more hB4 hb5; have s5 := hb5.size)
      | (refine al_g rfl rfl ?_; intro w6 g6 hb6; have z6 := z5.below hb6; have O6 := O5.below hb6; have hB6 := below_more hB5 hb6; have s6 := hb6.size; have lg6 := g6.lt)
      | (refine st_g rfl rfl rfl rfl g6 (one_own O6.hx) (one_own O6.hy) rfl rfl rfl ?_; rintro w7 g7 o7 -; have z7 := z6.onto o7 (by omega); have O7 := O6.at o7 (own_not_row O6.hx g6 (by decide)) (own_not_row O6.hy g6 (by decide)); have hB7 := below_onto hB6 o7 (by omega); have s7 := o7.size; have kf := (gc g7).fin; have Y7 : So w.heap.size w7 x2 y2 nil64 nil64 ⟨M1, [], [], 0⟩ := ⟨O7, OwnF.nil _ _ _, OwnF.nil _ _ _⟩)
      | (go_at_call 112; refine (tell_impl (K + 5) 2 I g7 Y7 (by simp)).mono ?_; rintro e w8 ⟨rfl, vo8, ve8, g8, Y8, M8⟩; have z8 := M8.row z7 plain_g (by omega); have hB8 : Below w.heap.size w w8 := hB7.trans (M8.below (by omega) hB7.size); have s8 := M8.size)
      | (refine ld_g rfl rfl rfl g8 ?_)
      | (refine st_g rfl rfl rfl rfl z8 (one_own Y8.ow.hx) (one_own Y8.ow.hy) (Y8.o.one okM) (Y8.e.one okE) rfl ?_; rintro w9 z9 o9 -; have Y9 := Y8.row o9 z8 plain_g (by decide); have hB9 := below_onto hB8 o9 (by omega)))
    refine ret_g rfl rfl z9 rfl ?_
    unfold Bgn
    rw [HF.out.1, HF.out.2.1, HF.out.2.2]
    exact ⟨x2, y2, vo8, ve8, rfl, Y9, hB9⟩
end Go.Proofs.YtghmkacamabndaaGreatDoor.Mem
namespace Go.Proofs.YtghmkacamabndaaGreatDoor.Mem
open Go.ChangeShapes Go.WideShapes Go.RowKit Base Num Slc Rw Tmr Srl Rom RomOf Ex Reg

def Te (s0 : Nat) (m : Mc) (xr xa vr va : Value) (j : Nat) (f : Nat → Value) (W : World) : Prop :=
  if j = 0 then f s0 = m.val xr xa
  else if j = 1 then f (s0 + 1) = m.val vr va
  else if j = 2 then MSl W (f (s0 + 2)) m
  else if j = 3 then f (s0 + 3) = .bool true
  else if j = 4 then f (s0 + 4) = .bool false
  else True
theorem mono_e {ops : Array Oper} {s0 : Nat} {m : Mc} {xr xa vr va : Value} (hS : supOk ops [[s0], [s0 + 1], [s0 + 2], [s0 + 3], [s0 + 4]] = true) : Mono ops (Te s0 m xr xa vr va) (fun _ W W' => Below W.heap.size W W') := by
  refine mono_sup hS (fun j f f' W hf hT => ?_) (fun i j f W W' hij hT hR => ?_)
  · rcases j with _ | _ | _ | _ | _ | j
    · exact (hf s0 (by simp)).trans hT
    · exact (hf (s0 + 1) (by simp)).trans hT
    · show MSl W (f' (s0 + 2)) m
      rw [hf (s0 + 2) (by simp)]; exact hT
    · exact (hf (s0 + 3) (by simp)).trans hT
    · exact (hf (s0 + 4) (by simp)).trans hT
    · simp [Te]
  · rcases j with _ | _ | _ | _ | _ | j
    · exact hT
    · exact hT
    · exact MSl.below (show MSl W (f (s0 + 2)) m from hT) hR
    · exact hT
    · exact hT
    · simp [Te]
structure Ge (w : World) (m : Mc) (g gx : Nat) (xr xa vr va : Value) (W : World) : Prop where
  arg : Row W g (m.cells vr va) 69
  x : MRow W gx xr xa m
  ar : Sl W vr m.rom
  aa : Sl W va m.ram
  xr : Sl W xr m.rom
  xa : Sl W xa m.ram
  bel : Below w.heap.size w W
theorem Ge.below {w W W' : World} {m : Mc} {g gx : Nat} {xr xa vr va : Value} (h : Ge w m g gx xr xa vr va W) (hb : Below W.heap.size W W') : Ge w m g gx xr xa vr va W' :=
  ⟨h.arg.below hb, h.x.below hb, h.ar.below hb, h.aa.below hb, h.xr.below hb, h.xa.below hb, below_more h.bel hb⟩
theorem Ge.drew {w W : World} {m : Mc} {g gx : Nat} {xr xa vr va : Value} (h : Ge w m g gx xr xa vr va W) : Ge w m g gx xr xa vr va W.drew := h.below (drew_below (n := 1) rfl)
end Go.Proofs.YtghmkacamabndaaGreatDoor.Mem
namespace Go.Proofs.YtghmkacamabndaaGreatDoor.Mem
open Go.ChangeShapes Go.WideShapes Go.RowKit Base Num Slc Rw Tmr Srl Rom RomOf Ex Reg Opl

end Go.Proofs.YtghmkacamabndaaGreatDoor.Mem
namespace Go.Proofs.YtghmkacamabndaaGreatDoor.Args
open Go.ChangeShapes Go.WideShapes Go.RowKit Base Tmr Go.Joins

def Arg (t : TypeId) (w : World) (v : Value) : Prop :=
  ∃ (H : Type) (enc : TypeId × Value → H) (b : Nat) (d : DataW H) (p : List MemPlace), Value.okWide Tryz.prog w .any b t v ∧ DataW.Trod enc Tryz.prog w 0 (fun _ => true) true t v d p
set_option maxRecDepth 20000 in
theorem Arg.int {w : World} {v : Value} (h : Arg 2 w v) : ∃ n : Int, v = .int .i64 n ∧ -9223372036854775808 ≤ n ∧ n ≤ 9223372036854775807 := by
  obtain ⟨H, enc, b, d, p, hv, hd⟩ := h
  obtain ⟨n, rfl, rfl, rfl, wf⟩ := open_int Tryz.underlying2 hv hd
  exact ⟨n, rfl, bounds_i64 wf⟩
end Go.Proofs.YtghmkacamabndaaGreatDoor.Args
namespace Go.Proofs.YtghmkacamabndaaGreatDoor.Args
open Go.ChangeShapes Go.WideShapes Go.RowKit Base Srl

set_option maxRecDepth 20000 in
theorem Arg.fields {t : TypeId} {w : World} {v : Value} {fs : Array Field} (ht : Tryz.prog.underlying t = some (.struct fs)) (h : Arg t w v) :
    ∃ (cs : Array Value) (H : Type) (enc : TypeId × Value → H) (n : Nat), v = .agg cs ∧ cs.size = Tryz.prog.cellsOf t ∧
      ∀ (i : Nat) (f : Field), fs[i]? = some f → ∃ y : DataW H × List MemPlace, DataW.trod enc Tryz.prog w 0 (fun _ => true) true n f.type ((cs.toList.drop f.offset).take (Tryz.prog.cellsOf f.type)) = some y := by
  obtain ⟨H, enc, b, d, p, hv, hd⟩ := h
  obtain ⟨cs, rfl, hsz⟩ := okWide_struct ht hv
  obtain ⟨fuel, hf⟩ := hd
  obtain ⟨xs, n, _, _, _, hlen, hg⟩ := DataW.trod_struct ht hf
  refine ⟨cs, H, enc, n, rfl, hsz, fun i f hi => ?_⟩
  have h1 := hg i f hi
  have hl : i < xs.length := by
    have : i < fs.size := by
      by_cases hl : i < fs.size
      · exact hl
      · have e : fs[i]? = none := by simp; omega
        rw [e] at hi; cases hi
    omega
  rw [List.getElem?_eq_getElem hl] at h1
  exact ⟨_, h1⟩
theorem cells64 : Tryz.prog.cellsOf 2 = 1 := by kernel_rfl
theorem cellsB : Tryz.prog.cellsOf 4 = 1 := by kernel_rfl
set_option maxRecDepth 20000 in
theorem Arg.bool {w : World} {v : Value} (h : Arg 4 w v) : ∃ q : Bool, v = .bool q := by
  obtain ⟨H, enc, b, d, p, hv, hd⟩ := h
  obtain ⟨q, rfl⟩ := okWide_bool Tryz.underlying4 hv
  exact ⟨q, rfl⟩
end Go.Proofs.YtghmkacamabndaaGreatDoor.Args
namespace Go.Proofs.YtghmkacamabndaaGreatDoor.Args
open Go.ChangeShapes Go.WideShapes Go.RowKit Base Srl Tmr Slc Mem

theorem size25 {cs : Array Value} (h : cs.size = 25) : ∃ a0 a1 a2 a3 a4 a5 a6 a7 a8 a9 a10 a11 a12 a13 a14 a15 a16 a17 a18 a19 a20 a21 a22 a23 a24, cs = #[a0, a1, a2, a3, a4, a5, a6, a7, a8, a9, a10, a11, a12, a13, a14, a15, a16, a17, a18, a19, a20, a21, a22, a23, a24] := by
  obtain ⟨l⟩ := cs
  match l, h with
  | [a0, a1, a2, a3, a4, a5, a6, a7, a8, a9, a10, a11, a12, a13, a14, a15, a16, a17, a18, a19, a20, a21, a22, a23, a24], _ => exact ⟨a0, a1, a2, a3, a4, a5, a6, a7, a8, a9, a10, a11, a12, a13, a14, a15, a16, a17, a18, a19, a20, a21, a22, a23, a24, rfl⟩
theorem cellsS : Tryz.prog.cellsOf 24 = 1 := by kernel_rfl
theorem cellsT : Tryz.prog.cellsOf 66 = 4 := by kernel_rfl
theorem cellsP : Tryz.prog.cellsOf 67 = 6 := by kernel_rfl
section
variable {H : Type} {enc : TypeId × Value → H} {w : World} {n : Nat}
set_option maxRecDepth 20000 in
theorem ints_sl {v : Value} {y : DataW H × List MemPlace} (h : DataW.trod enc Tryz.prog w 0 (fun _ => true) true n 24 [v] = some y) : ∃ l, Sl w v l := by
  rcases open_ints Tryz.underlying24 Tryz.underlying2 cells64 h with ⟨hcs, _⟩ | ⟨x, l, c, zs, hcs, _, hl, hm, hz, _, hcell, hwz⟩
  · simp at hcs
    subst hcs
    exact ⟨_, sl_of (zs := []) (.inl ⟨rfl, rfl, rfl, rfl⟩)⟩
  · simp at hcs
    subst hcs
    exact ⟨_, sl_of (.inr ⟨_, rfl, hl, hm, by simpa using hz, hcell, hwz⟩)⟩
set_option maxRecDepth 20000 in
theorem one_int {v : Value} {y : DataW H × List MemPlace} (h : DataW.trod enc Tryz.prog w 0 (fun _ => true) true n 2 [v] = some y) : ∃ z, v = .int .i64 z := by
  obtain ⟨z, e, _, _⟩ := DataW.trod_int Tryz.underlying2 h
  simp at e
  exact ⟨z, e⟩
set_option maxRecDepth 20000 in
theorem one_bool {v : Value} {y : DataW H × List MemPlace} (h : DataW.trod enc Tryz.prog w 0 (fun _ => true) true n 4 [v] = some y) : ∃ z, v = .bool z := by
  obtain ⟨z, e, _⟩ := DataW.trod_bool Tryz.underlying4 h
  simp at e
  exact ⟨z, e⟩
end
set_option maxRecDepth 20000 in
set_option maxHeartbeats 1000000 in
theorem Arg.machine {w : World} {v : Value} (h : Arg 69 w v) : ∃ (m : Mc) (vr va : Value), v = m.val vr va ∧ Sl w vr m.rom ∧ Sl w va m.ram := by
  obtain ⟨cs, H, enc, n, rfl, hsz, hf⟩ := h.fields Tryz.underlying69
  have h25 : Tryz.prog.cellsOf 69 = 25 := by kernel_rfl
  obtain ⟨a0, a1, a2, a3, a4, a5, a6, a7, a8, a9, a10, a11, a12, a13, a14, a15, a16, a17, a18, a19, a20, a21, a22, a23, a24, rfl⟩ := size25 (hsz.trans h25)
  obtain ⟨y0, h0⟩ := hf 0 _ rfl
  obtain ⟨y1, h1⟩ := hf 1 _ rfl
  obtain ⟨y2, h2⟩ := hf 2 _ rfl
  obtain ⟨y3, h3⟩ := hf 3 _ rfl
  obtain ⟨y4, h4⟩ := hf 4 _ rfl
  obtain ⟨y5, h5⟩ := hf 5 _ rfl
  obtain ⟨y6, h6⟩ := hf 6 _ rfl
  obtain ⟨y7, h7⟩ := hf 7 _ rfl
  obtain ⟨y8, h8⟩ := hf 8 _ rfl
  obtain ⟨y9, h9⟩ := hf 9 _ rfl
  obtain ⟨y10, h10⟩ := hf 10 _ rfl
  obtain ⟨y11, h11⟩ := hf 11 _ rfl
  obtain ⟨y12, h12⟩ := hf 12 _ rfl
  obtain ⟨y13, h13⟩ := hf 13 _ rfl
  obtain ⟨y14, h14⟩ := hf 14 _ rfl
  obtain ⟨y15, h15⟩ := hf 15 _ rfl
  obtain ⟨y16, h16⟩ := hf 16 _ rfl
  simp only [cells64, cellsB, cellsS, cellsT, cellsP, List.drop_succ_cons, List.drop_zero, List.take_succ_cons, List.take_zero, List.drop, List.take] at h0 h1 h2 h3 h4 h5 h6 h7 h8 h9 h10 h11 h12 h13 h14 h15 h16
  obtain ⟨l0, s0⟩ := ints_sl h0
  obtain ⟨l1, s1⟩ := ints_sl h1
  obtain ⟨z2, rfl⟩ := one_int h2
  obtain ⟨z3, rfl⟩ := one_int h3
  obtain ⟨z4, rfl⟩ := one_int h4
  obtain ⟨z5, rfl⟩ := one_int h5
  obtain ⟨z6, rfl⟩ := one_bool h6
  obtain ⟨z7, rfl⟩ := one_bool h7
  obtain ⟨z8, rfl⟩ := one_bool h8
  obtain ⟨z9, rfl⟩ := one_bool h9
  obtain ⟨z10, rfl⟩ := one_bool h10
  obtain ⟨z11, rfl⟩ := one_int h11
  obtain ⟨z12, rfl⟩ := one_int h12
  obtain ⟨z13, rfl⟩ := one_int h13
  obtain ⟨z24, rfl⟩ := one_int h16
  obtain ⟨xs, n2, _, _, _, hlen, hg⟩ := DataW.trod_struct Tryz.underlying66 h14
  obtain ⟨xs', n3, _, _, _, hlen', hg'⟩ := DataW.trod_struct Tryz.underlying67 h15
  have hx : ∀ i, i < 4 → ∃ y, xs[i]? = some y := fun i hi => ⟨_, List.getElem?_eq_getElem (by rw [hlen]; exact hi)⟩
  have hx' : ∀ i, i < 6 → ∃ y, xs'[i]? = some y := fun i hi => ⟨_, List.getElem?_eq_getElem (by rw [hlen']; exact hi)⟩
  obtain ⟨u0, e0⟩ := hx 0 (by omega)
  have t0 := (hg 0 _ rfl).trans e0
  obtain ⟨u1, e1⟩ := hx 1 (by omega)
  have t1 := (hg 1 _ rfl).trans e1
  obtain ⟨u2, e2⟩ := hx 2 (by omega)
  have t2 := (hg 2 _ rfl).trans e2
  obtain ⟨u3, e3⟩ := hx 3 (by omega)
  have t3 := (hg 3 _ rfl).trans e3
  obtain ⟨v0, d0⟩ := hx' 0 (by omega)
  have p0 := (hg' 0 _ rfl).trans d0
  obtain ⟨v1, d1⟩ := hx' 1 (by omega)
  have p1 := (hg' 1 _ rfl).trans d1
  obtain ⟨v2, d2⟩ := hx' 2 (by omega)
  have p2 := (hg' 2 _ rfl).trans d2
  obtain ⟨v3, d3⟩ := hx' 3 (by omega)
  have p3 := (hg' 3 _ rfl).trans d3
  obtain ⟨v4, d4⟩ := hx' 4 (by omega)
  have p4 := (hg' 4 _ rfl).trans d4
  obtain ⟨v5, d5⟩ := hx' 5 (by omega)
  have p5 := (hg' 5 _ rfl).trans d5
  obtain ⟨z14, rfl⟩ := one_int t0
  obtain ⟨z15, rfl⟩ := one_int t1
  obtain ⟨z16, rfl⟩ := one_int t2
  obtain ⟨z17, rfl⟩ := one_int t3
  obtain ⟨z18, rfl⟩ := one_int p0
  obtain ⟨z19, rfl⟩ := one_bool p1
  obtain ⟨z20, rfl⟩ := one_bool p2
  obtain ⟨z21, rfl⟩ := one_int p3
  obtain ⟨z22, rfl⟩ := one_int p4
  obtain ⟨z23, rfl⟩ := one_bool p5
  exact ⟨⟨l0, l1, z2, z3, z4, z5, z6, z7, z8, z9, z10, z11, z12, z13, ⟨z14, z15, z16, z17⟩, ⟨z18, z19, z20, z21, z22, z23⟩, z24⟩, a0, a1, rfl, s0, s1⟩
end Go.Proofs.YtghmkacamabndaaGreatDoor.Args
namespace Go.Proofs.YtghmkacamabndaaGreatDoor.Laid
open Go.ChangeShapes Go.WideShapes Go.ChangeAt Go.RowKit Opl

theorem gTab : Tryz.prog.globalNamed "loop.example/g00741/impl.opLines" = some 0 := by kernel_rfl
theorem gTabType : (Tryz.prog.globals[0]?).map (·.type) = some 206 := by kernel_rfl
theorem cellsTab : Tryz.prog.cellsOf 206 = 93 := by kernel_rfl
theorem cellsLine : Tryz.prog.cellsOf 189 = 3 := by kernel_rfl
theorem cells64 : Tryz.prog.cellsOf 2 = 1 := by kernel_rfl
theorem cellsStr : Tryz.prog.cellsOf 9 = 1 := by kernel_rfl
theorem undTab : Tryz.prog.underlying 206 = some (.array 31 189) := by kernel_rfl

def lineData {H : Type} (x : List UInt8 × Int × Int) : DataW H := .agg [.lit (.string x.1), .lit (.int .i64 x.2.1), .lit (.int .i64 x.2.2)]
def tabData {H : Type} : DataW H := .agg (ops.map lineData)

set_option maxRecDepth 20000 in
theorem line_of_trod {H : Type} {enc : TypeId × Value → H} {w : World} {base : Nat} {sp : Nat → Bool} {held : Bool} {fuel : Nat} {cs : List Value} {p : List MemPlace} (x : List UInt8 × Int × Int)
    (h : DataW.trod enc Tryz.prog w base sp held fuel 189 cs = some (lineData x, p)) : cs = cells3 x := by
  obtain ⟨xs, n, rfl, hx, hl, hxl, hall⟩ := DataW.trod_struct und_line h
  rw [cellsLine] at hl
  obtain ⟨c0, c1, c2, rfl⟩ : ∃ c0 c1 c2, cs = [c0, c1, c2] := by
    match cs, hl with
    | [a, b, c], _ => exact ⟨a, b, c, rfl⟩
  obtain ⟨y0, y1, y2, rfl⟩ : ∃ y0 y1 y2, xs = [y0, y1, y2] := by
    match xs, hxl with
    | [a, b, c], _ => exact ⟨a, b, c, rfl⟩
  have h0 : DataW.trod enc Tryz.prog w base sp held n 9 [c0] = some y0 := by
    have h := hall 0 _ rfl
    change DataW.trod enc Tryz.prog w base sp held n 9 (([c0, c1, c2].drop 0).take (Tryz.prog.cellsOf 9)) = _ at h
    rw [cellsStr] at h
    exact h
  have h1 : DataW.trod enc Tryz.prog w base sp held n 2 [c1] = some y1 := by
    have h := hall 1 _ rfl
    change DataW.trod enc Tryz.prog w base sp held n 2 (([c0, c1, c2].drop 1).take (Tryz.prog.cellsOf 2)) = _ at h
    rw [cells64] at h
    exact h
  have h2 : DataW.trod enc Tryz.prog w base sp held n 2 [c2] = some y2 := by
    have h := hall 2 _ rfl
    change DataW.trod enc Tryz.prog w base sp held n 2 (([c0, c1, c2].drop 2).take (Tryz.prog.cellsOf 2)) = _ at h
    rw [cells64] at h
    exact h
  obtain ⟨s, e0, f0, _⟩ := DataW.trod_string (w := w) (base := base) (P := Tryz.prog) (t := 9) (by kernel_rfl) h0
  obtain ⟨a, e1, f1, _⟩ := DataW.trod_int (w := w) (base := base) (P := Tryz.prog) (t := 2) (k := .i64) (by kernel_rfl) h1
  obtain ⟨b, e2, f2, _⟩ := DataW.trod_int (w := w) (base := base) (P := Tryz.prog) (t := 2) (k := .i64) (by kernel_rfl) h2
  subst f0; subst f1; subst f2
  simp [lineData] at hx
  obtain ⟨⟨hs, ha, hb⟩, _⟩ := hx
  simp at e0 e1 e2
  subst e0; subst e1; subst e2
  simp [cells3, ← ha, ← hb, hs]

theorem tab_of_trod {H : Type} {enc : TypeId × Value → H} {w : World} {base : Nat} {sp : Nat → Bool} {held : Bool} {fuel : Nat} {cs : List Value} {p : List MemPlace}
    (h : DataW.trod enc Tryz.prog w base sp held fuel 206 cs = some (tabData, p)) : cs = rows ops := by
  cases fuel with
  | zero => simp [DataW.trod] at h
  | succ fuel =>
    simp only [DataW.trod, undTab, cellsTab, cellsLine] at h
    split at h
    · rename_i hl
      obtain ⟨xs, hm, hx⟩ := Option.map_eq_some_iff.1 h
      have hxs : xs.map (·.1) = (ops.map lineData : List (DataW H)) := by
        have := congrArg Prod.fst hx
        simpa [tabData] using this
      apply List.ext_getElem?
      intro i
      by_cases hi : i < 93
      · have hi3 : i / 3 < 31 := by omega
        obtain ⟨b, hb, hf⟩ := Lib.mapM_at hm (i / 3) (i / 3) (by simp [hi3])
        have hd : b.1 = lineData (ops.getD (i / 3) ([], 0, 0)) := by
          have e : (xs.map (·.1))[i / 3]? = some b.1 := by simp [hb]
          rw [hxs] at e
          have h31 : i / 3 < ops.length := hi3
          simp only [List.getElem?_map, List.getElem?_eq_getElem h31, Option.map_some, Option.some.injEq] at e
          rw [← e, List.getD_eq_getElem?_getD, List.getElem?_eq_getElem h31]
          rfl
        have hc := line_of_trod (p := b.2) (ops.getD (i / 3) ([], 0, 0)) (hf.trans (by rw [← hd]))
        have e1 : cs[i]? = ((cs.drop (i / 3 * 3)).take 3)[i % 3]? := by
          rw [List.getElem?_take_of_lt (by omega), List.getElem?_drop]
          congr 1
          omega
        rw [e1, hc, ← rows_at ops (i / 3) (i % 3) hi3 (by omega)]
        congr 1
        omega
      · have hr : (rows ops).length = 93 := by decide +kernel
        rw [List.getElem?_eq_none (by omega), List.getElem?_eq_none (by omega)]
    · cases h

theorem tab_laid : (Rows.laid_loop_example_g00741_impl_opLines : DataW Unit) = tabData := rfl
theorem var_of_laid {W : World} (h : laidMet Tryz.prog [("loop.example/g00741/impl.opLines", Rows.laid_loop_example_g00741_impl_opLines)] W) : W.var? Tryz.prog "loop.example/g00741/impl.opLines" = some (rows ops).toArray := by
  obtain ⟨ps, ⟨g, t, cs, fuel, p, q, hg, ht, hvar, hd, _, _⟩, _⟩ := h
  obtain rfl := Option.some.inj (gTab.symm.trans hg)
  obtain rfl := Option.some.inj (gTabType.symm.trans ht)
  rw [hvar]
  congr 1
  obtain ⟨l⟩ := cs
  rw [tab_laid] at hd
  have e : l = rows ops := tab_of_trod hd
  rw [e]
theorem ops_of_var {W : World} (h : W.var? Tryz.prog "loop.example/g00741/impl.opLines" = some (rows ops).toArray) : OpsAt W := by
  simp only [World.var?, gTab, Option.bind_some] at h
  split at h
  · rename_i c t fr hb
    simp only [Option.some.injEq] at h
    subst h
    exact ⟨t, fr, hb⟩
  · cases h
theorem var_of_ops {W : World} (h : OpsAt W) : W.var? Tryz.prog "loop.example/g00741/impl.opLines" = some (rows ops).toArray := by
  obtain ⟨t, fz, h⟩ := h
  simp only [World.var?, gTab, Option.bind_some, h]
theorem reads_tab {H : Type} (enc : TypeId × Value → H) (W : World) (sp : Nat → Bool) : DataW.trod enc Tryz.prog W 0 sp true 3 206 (rows ops) = some (tabData, []) := by kernel_rfl
theorem open_vars {H : Type} {enc : TypeId × Value → H} {W : World} {gs : List (DataW H)} {q : List MemPlace} (hV : DataW.TrodVars enc Tryz.prog W (fun _ => true) ["loop.example/g00741/impl.opLines"] gs q) (hv : W.var? Tryz.prog "loop.example/g00741/impl.opLines" = some (rows ops).toArray) :
    gs = [tabData] ∧ q = MemPlace.row ⟨0, 0, none⟩ (rows ops).toArray.size := by
  obtain ⟨g, t, cs, fuel, d, p', rfl, hg, ht, hvar, hd, rfl⟩ := trodVars_one hV
  obtain rfl := Option.some.inj (gTab.symm.trans hg)
  obtain rfl := Option.some.inj (gTabType.symm.trans ht)
  obtain rfl : cs = (rows ops).toArray := Option.some.inj (hvar.symm.trans hv)
  obtain ⟨rfl, rfl⟩ := DataW.Trod.unique (v := .agg (rows ops).toArray) ⟨fuel, hd⟩ ⟨3, reads_tab enc W _⟩
  exact ⟨rfl, by simp⟩
theorem shut_vars {H : Type} {enc : TypeId × Value → H} {W : World} (ho : OpsAt W) (sp : Nat → Bool) :
    DataW.TrodVars enc Tryz.prog W sp ["loop.example/g00741/impl.opLines"] [tabData] (MemPlace.row ⟨0, 0, none⟩ (rows ops).toArray.size ++ []) :=
  trodVars_mk1 gTab gTabType (var_of_ops ho) (reads_tab enc W sp)

def laidOn (w : World) : World :=
  { w with heap := w.heap.modify 0 fun
      | .cells _ t frozen => .cells (rows ops).toArray t frozen
      | o => o }
end Go.Proofs.YtghmkacamabndaaGreatDoor.Laid
namespace Go.Proofs.YtghmkacamabndaaGreatDoor.Args
open Go.ChangeShapes Go.WideShapes Go.RowKit Base Slc Slf Mem Go.Joins

theorem cellsL : Tryz.prog.cellsOf 121 = 3 := by kernel_rfl
theorem cellsI : Tryz.prog.cellsOf 2 = 1 := by kernel_rfl
section
variable {H : Type} {enc : TypeId × Value → H} {w : World} {n : Nat}
set_option maxRecDepth 20000 in
theorem m3_cells {cs : List Value} {y : DataW H × List MemPlace} (hl : cs.length = 3) (h : DataW.trod enc Tryz.prog w 0 (fun _ => true) true n 121 cs = some y) : ∃ m : M3, cs = m.cs := by
  obtain ⟨xs, k, _, _, _, hlen, hg⟩ := DataW.trod_struct Tryz.underlying121 h
  match cs, hl with
  | [c0, c1, c2], _ =>
    have hx : ∀ i, i < 3 → ∃ y, xs[i]? = some y := fun i hi => ⟨_, List.getElem?_eq_getElem (by rw [hlen]; exact hi)⟩
    obtain ⟨u0, e0⟩ := hx 0 (by omega)
    have t0 := (hg 0 _ rfl).trans e0
    obtain ⟨u1, e1⟩ := hx 1 (by omega)
    have t1 := (hg 1 _ rfl).trans e1
    obtain ⟨u2, e2⟩ := hx 2 (by omega)
    have t2 := (hg 2 _ rfl).trans e2
    obtain ⟨z0, q0, _, _⟩ := DataW.trod_int Tryz.underlying2 t0
    obtain ⟨z1, q1, _, _⟩ := DataW.trod_int Tryz.underlying2 t1
    obtain ⟨z2, q2, _, _⟩ := DataW.trod_int Tryz.underlying2 t2
    simp [cellsI] at q0 q1 q2
    subst q0 q1 q2
    exact ⟨⟨z0, z1, z2⟩, rfl⟩
set_option maxRecDepth 20000 in
theorem msgs_sl {v : Value} {y : DataW H × List MemPlace} (h : DataW.trod enc Tryz.prog w 0 (fun _ => true) true n 70 [v] = some y) : ∃ l, SlF fL w v l := by
  rcases Go.Deep.open_slice Tryz.underlying70 h with ⟨hcs, _⟩ | ⟨a, len, cap, m, k, D, Pl, hcs, _, hl, hm, hmm, _, hx⟩
  · simp at hcs
    subst hcs
    exact ⟨[], none, 0, rfl, .inl rfl, Nat.le_refl _, by decide, fun _ => ⟨rfl, rfl⟩⟩
  · simp at hcs
    subst hcs
    have hmc : m = cap := by simpa using hmm
    have each : ∀ i, i < m → ∃ x : M3, ∀ j, j < 3 → w.cell? ((a.add (i * 3)).add j) = x.cs[j]? := fun i hi => by
      obtain ⟨cs', h1, h2⟩ := hx i hi
      rw [cellsL] at h1
      obtain ⟨_, hlen, hcell⟩ := World.cells?_some h1
      obtain ⟨x, rfl⟩ := m3_cells hlen h2
      exact ⟨x, hcell⟩
    have inh : Inhabited M3 := ⟨M3.nul⟩
    obtain ⟨q, hq⟩ := Go.Deep.choose_lt each
    have hll : ((List.range len).map q).length = len := by simp
    refine ⟨(List.range len).map q, some a, cap, by rw [hll], ?_, by rw [hll]; exact hl, hm, by simp⟩
    by_cases h0 : len = 0
    · exact .inl (by rw [hll]; exact h0)
    · obtain ⟨b, off, spot⟩ := a
      have hc := hq 0 (by omega) 0 (by omega)
      have e0 : (q 0).cs[0]? = some (.int .i64 (q 0).t) := rfl
      rw [e0] at hc
      have hspot : spot = none := by simpa [Addr.add] using World.cell?_spot hc
      subst hspot
      have hb : b < w.heap.size := by simpa [Addr.add] using cell_lt hc
      refine .inr ⟨b, off, rfl, hb, fun k hk => ?_⟩
      rw [hll] at hk
      have h3 : fL.n = 3 := rfl
      rw [h3] at hk
      have hi : k / 3 < len := by omega
      have hg := flat_get okL (l := (List.range len).map q) (i := k / 3) (x := q (k / 3)) (by simp [hi]) (j := k % 3) (by rw [h3]; omega)
      rw [h3, show k / 3 * 3 + k % 3 = k by omega] at hg
      rw [hg]
      have := hq (k / 3) (by omega) (k % 3) (by omega)
      rw [Addr.add_mid, Addr.add_mid, Nat.add_assoc, show k / 3 * 3 + k % 3 = k by omega] at this
      exact this
end
set_option maxRecDepth 20000 in
theorem Arg.msgs {w : World} {v : Value} (h : Arg 70 w v) : ∃ l, SlF fL w v l := by
  obtain ⟨H, enc, b, d, p, hv, hd⟩ := h
  obtain ⟨a, len, cap, rfl⟩ := okWide_slice Tryz.underlying70 hv
  obtain ⟨fuel, hf⟩ := hd
  exact msgs_sl hf
end Go.Proofs.YtghmkacamabndaaGreatDoor.Args
