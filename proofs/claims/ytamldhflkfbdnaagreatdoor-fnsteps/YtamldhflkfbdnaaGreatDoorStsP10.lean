/-
  What FnSteps leans on: part 10.
-/
import Derived.Test.YtamldhflkfbdnaaGreatDoorStsP2
import Derived.Test.YtamldhflkfbdnaaGreatDoorStsP4
import Derived.Test.YtamldhflkfbdnaaGreatDoorStsP5
import Derived.Test.YtamldhflkfbdnaaGreatDoorStsP6
import Derived.Test.YtamldhflkfbdnaaGreatDoorStsP7
import Derived.Test.YtamldhflkfbdnaaGreatDoorStsP8
import Derived.Test.YtamldhflkfbdnaaGreatDoorStsP9
set_option linter.unusedVariables false
set_option linter.unusedSimpArgs false
set_option maxRecDepth 20000
namespace Go.Proofs.YtamldhflkfbdnaaGreatDoor.Mem
open Go.ChangeShapes Go.WideShapes Go.RowKit Base Num Slc Slf Rw Tmr Srl Rom Opl Reg

def St.met (s : St) (m : M3) (fin : Int) : St := if m.k = 0 then s.beats fin else { s.arrive m with u := s.u + 1 }
def St.nextAt (s : St) : Int := if s.m.p.x = 0 then 1000000101 else s.m.p.x
def St.next (s : St) (l : List M3) : M3 := if s.u < l.length ∧ (M3.at' l s.u.toNat).t ≤ s.nextAt then M3.at' l s.u.toNat else ⟨s.nextAt, 0, 0⟩
theorem zM3 (s : St) (z : Int) (m : M3) : ({ s with u := z } : St).arrive m = { s.arrive m with u := z } := by
 unfold St.arrive
 split
 ·have e : ∀ p, ({ s with u := z } : St).port p = { s.port p with u := z } := fun _ => rfl
  show (if (s.m.p.beat m.v).2.2 = true then _ else _) = _
  split <;> rfl
 split
 ·show (if (s.m.p.answer m.v m.t).2 = true then _ else _) = _
  split <;> rfl
 split <;> rfl
theorem zJq {fn : Func} {R : Ending → World → Prop} {a : Act} {w : World} (h : fn.results = #[]) (hde : a.defers = []) (hR : R (.returned (.tuple #[])) w) : bodyPost Tryz.prog fn R .ret a w :=
 bodyPost_ret (by simp [results, h]) hde hR
section
variable {w : World} {base g : Nat} {x y vo ve vi : Value} {s : St} {co fin : Int}
set_option maxHeartbeats 1000000 in
theorem zO6 (m : M3) (ht : 0 ≤ m.t ∧ m.t ≤ 1000000100 ∨ m.k = 0) (hu : 0 ≤ s.u ∧ s.u ≤ 10000) (h : GRow w g x y vo ve vi s co fin) (hs : So base w x y vo ve s) (hl : s.o.length ≤ 10000) (hl2 : s.e.length ≤ 10000) :
  Calls Tryz.prog 62 #[.pointer (some ⟨g, 0, none⟩), m.val] w fun e w' => e = .returned (.tuple #[]) ∧ Gd base g w w' x y vi co fin (s.met m fin) := by
 have hgl := h.lt
 obtain ⟨vm, hvm⟩ : ∃ vm, vm = m.val := ⟨_, rfl⟩
 rw [← hvm]
 by_cases k0 : m.k = 0
 ·have HQ : Hid (s.met m fin = s.beats fin) := show _ = _ by unfold St.met; rw [if_pos k0]
  go_enter Tryz.func62, Tryz.ntmps62
  go_wp2_with (first
   | (refine xD rfl rfl hvm ?_; intro w0 m0 hb0; have h0 := h.below hb0; have s0 := hs.below hb0; have km : w0.cell? ⟨w.heap.size, 1, none⟩ = some (.int .i64 m.k) := m0.cell 1; rw [k0] at km)
   | (go_at_call 140; refine (zI2 h0 s0 hl).mono ?_; rintro e w1 ⟨rfl, vo1, ve1, r1, s1, M1⟩))
  refine zJq rfl rfl ?_
  rw [HQ.out]
  exact ⟨rfl, vo1, ve1, r1, s1, (Mid.of hb0).trans M1⟩
 have b0 : (m.k == 0) = false := by simpa using k0
 have HQ : Hid (s.met m fin = ({ s with u := s.u + 1 } : St).arrive m) := show _ = _ by unfold St.met; rw [if_neg k0]; exact (zM3 s (s.u + 1) m).symm
 have htt : 0 ≤ m.t ∧ m.t ≤ 1000000100 := ht.resolve_right k0
 obtain ⟨S1, hS1⟩ : ∃ S1 : St, { s with u := s.u + 1 } = S1 := ⟨_, rfl⟩
 have e1 : S1.o = s.o ∧ S1.e = s.e ∧ S1.m = s.m := by rw [← hS1]; exact ⟨rfl, rfl, rfl⟩
 have hl' : S1.o.length ≤ 10000 := by rw [e1.1]; exact hl
 have hl2' : S1.e.length ≤ 10000 := by rw [e1.2.1]; exact hl2
 rw [hS1] at HQ
 have HS1 : Hid ((vO x y vo ve vi s co fin).setIfInBounds 27 (.int .i64 (s.u + 1)) = vO x y vo ve vi S1 co fin) := show _ = _ by rw [← hS1]; rfl
 have HS2 : Hid (S1.m.rom = s.m.rom ∧ S1.m.ram = s.m.ram ∧ S1.o = s.o ∧ S1.e = s.e) := ⟨by rw [e1.2.2], by rw [e1.2.2], e1.1, e1.2.1⟩
 clear ht hS1 e1 hl hl2
 by_cases k1 : m.k = 1
 ·have HK : Hid (m.k = 1) := k1
  go_enter Tryz.func62, Tryz.ntmps62
  go_wp2_with (first
   | (refine xD rfl rfl hvm ?_; intro w0 m0 hb0; have h0 := h.below hb0; have s0 := hs.below hb0; have km : w0.cell? ⟨w.heap.size, 1, none⟩ = some (.int .i64 m.k) := m0.cell 1; have ku := (gc h0).u; have lm := m0.lt; rw [k1] at km)
   | (refine zHo (s' := S1) rfl rfl rfl rfl h0 rfl HS1.out ?_; rintro w1 r1 o1 -; have s1 := (s0.row o1 h0 xE (by decide)).as (s' := S1) HS2.out.1 HS2.out.2.1 HS2.out.2.2.1 HS2.out.2.2.2; have m1 := m0.onto o1 (by omega); have km1 : w1.cell? ⟨w.heap.size, 1, none⟩ = some (.int .i64 m.k) := m1.cell 1; have kv1 : w1.cell? ⟨w.heap.size, 2, none⟩ = some (.int .i64 m.v) := m1.cell 2; rw [k1] at km1; clear km ku)
   | (refine zFk rfl rfl rfl m1 ?_)
   | (go_at_call 141; refine (zI8 m HK.out htt r1 s1 hl' hl2').mono ?_; rintro e w2 ⟨rfl, vo2, ve2, r2, s2, M2⟩))
  refine zZ rfl rfl ?_
  rw [HQ.out]
  exact ⟨rfl, vo2, ve2, r2, s2, ((Mid.of hb0).trans (Mid.onto o1)).trans M2⟩
 by_cases k2 : m.k = 2
 ·have HK : Hid (m.k = 2) := k2
  go_enter Tryz.func62, Tryz.ntmps62
  go_wp2_with (first
   | (refine xD rfl rfl hvm ?_; intro w0 m0 hb0; have h0 := h.below hb0; have s0 := hs.below hb0; have km : w0.cell? ⟨w.heap.size, 1, none⟩ = some (.int .i64 m.k) := m0.cell 1; have ku := (gc h0).u; have lm := m0.lt; rw [k2] at km)
   | (refine zHo (s' := S1) rfl rfl rfl rfl h0 rfl HS1.out ?_; rintro w1 r1 o1 -; have s1 := (s0.row o1 h0 xE (by decide)).as (s' := S1) HS2.out.1 HS2.out.2.1 HS2.out.2.2.1 HS2.out.2.2.2; have m1 := m0.onto o1 (by omega); have km1 : w1.cell? ⟨w.heap.size, 1, none⟩ = some (.int .i64 m.k) := m1.cell 1; have kv1 : w1.cell? ⟨w.heap.size, 2, none⟩ = some (.int .i64 m.v) := m1.cell 2; rw [k2] at km1; clear km ku)
   | (refine zFk rfl rfl rfl m1 ?_)
   | (go_at_call 142; refine (zG4 m HK.out r1 s1 hl2').mono ?_; rintro e w2 ⟨rfl, vo2, ve2, r2, s2, M2⟩))
  refine zZ rfl rfl ?_
  rw [HQ.out]
  exact ⟨rfl, vo2, ve2, r2, s2, ((Mid.of hb0).trans (Mid.onto o1)).trans M2⟩
 have b1 : (m.k == 1) = false := by simpa using k1
 have b2 : (m.k == 2) = false := by simpa using k2
 by_cases k3 : m.k = 3
 ·have HA : Hid (S1.arrive m = ({ S1 with m := { S1.m with ky := m.v } } : St).flag 4) := show _ = _ by unfold St.arrive; rw [if_neg k1, if_neg k2, if_pos k3]; rfl
  go_enter Tryz.func62, Tryz.ntmps62
  go_wp2_with (first
   | (refine xD rfl rfl hvm ?_; intro w0 m0 hb0; have h0 := h.below hb0; have s0 := hs.below hb0; have km : w0.cell? ⟨w.heap.size, 1, none⟩ = some (.int .i64 m.k) := m0.cell 1; have ku := (gc h0).u; have lm := m0.lt; rw [k3] at km)
   | (refine zHo (s' := S1) rfl rfl rfl rfl h0 rfl HS1.out ?_; rintro w1 r1 o1 -; have s1 := (s0.row o1 h0 xE (by decide)).as (s' := S1) HS2.out.1 HS2.out.2.1 HS2.out.2.2.1 HS2.out.2.2.2; have m1 := m0.onto o1 (by omega); have km1 : w1.cell? ⟨w.heap.size, 1, none⟩ = some (.int .i64 m.k) := m1.cell 1; have kv1 : w1.cell? ⟨w.heap.size, 2, none⟩ = some (.int .i64 m.v) := m1.cell 2; rw [k3] at km1; clear km ku)
   | (refine zHo (s' := ({ S1 with m := { S1.m with ky := m.v } } : St)) rfl rfl rfl rfl r1 rfl rfl ?_; rintro w2 r2 o2 -; have s2 := (s1.row o2 r1 xE (by decide)).as (s' := ({ S1 with m := { S1.m with ky := m.v } } : St)) rfl rfl rfl rfl)
   | (go_at_call 143; refine (zEy 2 4 (by simp) (by decide) r2).mono ?_; rintro e w3 ⟨rfl, r3, o3⟩; have s3 := (s2.row o3 r2 xE (by decide)).as (s' := (({ S1 with m := { S1.m with ky := m.v } } : St)).flag 4) rfl rfl rfl rfl))
  refine zZ rfl rfl ?_
  rw [HQ.out, HA.out]
  exact ⟨rfl, vo, ve, r3, s3, (((Mid.of hb0).trans (Mid.onto o1)).trans (Mid.onto o2)).trans (Mid.onto o3)⟩
 have HA : Hid (S1.arrive m = S1) := show _ = _ by unfold St.arrive; rw [if_neg k1, if_neg k2, if_neg k3]
 have b3 : (m.k == 3) = false := by simpa using k3
 go_enter Tryz.func62, Tryz.ntmps62
 go_wp2_with (first
  | (refine xD rfl rfl hvm ?_; intro w0 m0 hb0; have h0 := h.below hb0; have s0 := hs.below hb0; have km : w0.cell? ⟨w.heap.size, 1, none⟩ = some (.int .i64 m.k) := m0.cell 1; have ku := (gc h0).u; have lm := m0.lt)
  | (refine zHo (s' := S1) rfl rfl rfl rfl h0 rfl HS1.out ?_; rintro w1 r1 o1 -; have s1 := (s0.row o1 h0 xE (by decide)).as (s' := S1) HS2.out.1 HS2.out.2.1 HS2.out.2.2.1 HS2.out.2.2.2; have m1 := m0.onto o1 (by omega); have km1 : w1.cell? ⟨w.heap.size, 1, none⟩ = some (.int .i64 m.k) := m1.cell 1; have kv1 : w1.cell? ⟨w.heap.size, 2, none⟩ = some (.int .i64 m.v) := m1.cell 2; clear km ku))
 refine zZ rfl rfl ?_
 rw [HQ.out, HA.out]
 exact ⟨rfl, vo, ve, r1, s1, (Mid.of hb0).trans (Mid.onto o1)⟩
end
section
variable {op : Oper} {a : Act} {w : World} {K : Act → World → Prop} {Q : Exit → Act → World → Prop} {p : Operand} {ops : Array Oper} {rest : List Oper}
theorem zA8 {ty : TypeId} {d : TypeDesc} {ad : Addr} {v : Value} (ho : op.op = .load ty p) (hu : Tryz.prog.underlying ty = some d) (hd : d.isRow = false) (hx : a.eval p = .pointer (some ad)) (hc : w.cell? ad = some v) (h : K (a.put op.dst v) w) : op.wp Tryz.prog a w K Q := by
 have e : (loadVar ty ad).run Tryz.prog w = .ok v w := by
  cases d <;> first | (simp [TypeDesc.isRow] at hd; done) | simp [loadVar, isAgg, run_underlying hu, run_load, hc]
 unfold Oper.wp execOp
 simp only [ho, hx, Instr.loadAt, Instr.sureAddr, Sem.run_bind, Sem.run_pure, Result.andThen_ok, e]
 exact h
theorem zFs (hgd : op.guard = none) (ho : op.op = .alloc 40)
  (h : ∀ w', jQ w' w.heap.size M3.nul → Below w.heap.size w w' → wpList Tryz.prog ops Q rest (a.put op.dst (.pointer (some ⟨w.heap.size, 0, none⟩))) w') : wpList Tryz.prog ops Q (op :: rest) a w :=
 wpList_plain hgd fun _ hK => by
  have e : (execOp a.eval op).run Tryz.prog w = .ok (.value (.pointer (some ⟨w.heap.size, 0, none⟩))) (w.alloc (.cells #[.int .i64 0, .int .i64 0, .int .i64 0] 40)) := by
   unfold execOp
   rw [ho]
   kernel_rfl
  unfold Oper.wp
  rw [e]
  exact hK _ _ (h _ (Row.new _ _ _) ((Below.refl _ _).alloc (Nat.le_refl _) _))
theorem zC4 {g : Nat} {q : Operand} {m m0 : M3} (hgd : op.guard = none) (ho : op.op = .store 40 p q) (hx : a.eval p = .pointer (some ⟨g, 0, none⟩)) (hy : a.eval q = m.val) (hr : jQ w g m0)
  (h : ∀ w', jQ w' g m → Onto g w w' → wpList Tryz.prog ops Q rest (a.put op.dst undef) w') : wpList Tryz.prog ops Q (op :: rest) a w :=
 zBf hgd _ p q ho hx hy hr jJ rfl (by simp [Value.oneCell']) (fun w' h1 h2 _ => h w' h1 h2)
theorem zVb {g : Nat} {q : Operand} {m : M3} {z : Int} (hgd : op.guard = none) (ho : op.op = .store 2 p q) (hx : a.eval p = .pointer (some ⟨g, 0, none⟩)) (hy : a.eval q = .int .i64 z) (hr : jQ w g m)
  (h : ∀ w', jQ w' g ⟨z, m.k, m.v⟩ → Onto g w w' → wpList Tryz.prog ops Q rest (a.put op.dst undef) w') : wpList Tryz.prog ops Q (op :: rest) a w :=
 vG (vs := [.int .i64 z]) (cs' := #[.int .i64 z, .int .i64 m.k, .int .i64 m.v]) hgd ho hx hy hr rfl zBb rfl rfl rfl (fun w' h1 h2 _ => h w' h1 h2)
theorem zS1 (z : Int) : Tryz.prog.built 40 [(0, .int .i64 z), (1, .int .i64 0)] = some #[.int .i64 z, .int .i64 0, .int .i64 0] := by kernel_rfl
theorem zUz {z : Int} (hgd : op.guard = none) (ho : op.op = .build 40 #[(0, p), (1, .const (.int .i64 0))]) (hp : a.eval p = .int .i64 z) (h : wpList Tryz.prog ops Q rest (a.put op.dst (M3.val ⟨z, 0, 0⟩)) w) : wpList Tryz.prog ops Q (op :: rest) a w :=
 wpList_plain hgd fun _ hK => zAr (parts := [(0, p), (1, .const (.int .i64 0))]) (vals := [(0, .int .i64 z), (1, .int .i64 0)]) ho (by simp only [List.map_cons, List.map_nil, hp]; rfl) (zS1 z) (hK _ _ h)
theorem zDv {fn : Func} {R : Ending → World → Prop} {q : Tmp} {g : Nat} {m : M3} (h : fn.results = #[.cell q 40]) (hp : a.tmps.getD q undef = .pointer (some ⟨g, 0, none⟩)) (hr : jQ w g m) (hde : a.defers = []) (hR : R (.returned m.val) w) :
  bodyPost Tryz.prog fn R .ret a w := qQ h hp hr Tryz.underlying40 rfl jJ hde hR
end
theorem zC5 {α : Type} {f : Fl α} {p : Nat} {w w' : World} {v : Value} {l : List α} (h : SlF f w v l) (ho : Onto p w w') (hv : 0 < l.length → ∀ k, v.ownBlock = some k → k ≠ p) : SlF f w' v l := by
 obtain ⟨a, cap, rfl, h1, h2⟩ := h
 exact ⟨a, cap, rfl, h1.onto ho (fun h0 x hx => hv h0 _ (by subst hx; rfl)), h2⟩
structure Gn (w : World) (g go gr : Nat) (x y vo ve vi : Value) (s : St) (co fin : Int) (l : List M3) (own : M3) (W : World) : Prop where
 row : GRow W g x y vo ve vi s co fin
 own : jQ W go own
 res : jQ W gr M3.nul
 sl : SlF fM W vi l
 bel : Below w.heap.size w W
section
variable {w W W' : World} {base g go gr : Nat} {x y vo ve vi : Value} {s : St} {co fin : Int} {l : List M3} {own : M3}
theorem Gn.below (h : Gn w g go gr x y vo ve vi s co fin l own W) (hb : Below W.heap.size W W') : Gn w g go gr x y vo ve vi s co fin l own W' := ⟨h.row.below hb, h.own.below hb, h.res.below hb, h.sl.below hb, zD h.bel hb⟩
theorem Gn.drew (h : Gn w g go gr x y vo ve vi s co fin l own W) : Gn w g go gr x y vo ve vi s co fin l own W.drew := h.below (xC (n := 1) rfl)
set_option maxHeartbeats 2000000 in
theorem zJv (hu : 0 ≤ s.u) (h : GRow w g x y vo ve vi s co fin) (hsl : SlF fM w vi l) :
  Calls Tryz.prog 139 #[.pointer (some ⟨g, 0, none⟩)] w fun e w' => e = .returned (s.next l).val ∧ Below w.heap.size w w' := by
 have hgl := h.lt
 obtain ⟨j, hj⟩ : ∃ j : Nat, s.u = (j : Int) := ⟨s.u.toNat, by omega⟩
 have hju : s.u.toNat = j := by omega
 obtain ⟨X, hX⟩ : ∃ X, s.m.p.x = X := ⟨_, rfl⟩
 obtain ⟨a, c, rfl, -, hlc, hcm, -⟩ := id hsl
 unfold maxLen at hcm
 obtain ⟨r, hr⟩ : ∃ r, s.next l = r := ⟨_, rfl⟩
 rw [hr]
 have HU : Hid (s.u = (j : Int)) := hj
 have kx : w.cell? ⟨g, 22, none⟩ = some (.int .i64 X) := by rw [← hX]; exact (gc h).px
 obtain ⟨N, hN⟩ : ∃ N, s.nextAt = N := ⟨_, rfl⟩
 have hNX : N = if X = 0 then 1000000101 else X := by rw [← hN, ← hX]; rfl
 by_cases hx : X = 0
 ·rw [if_pos hx] at hNX
  subst hx
  go_enter Tryz.func139, Tryz.ntmps139
  go_wp2_with (first
   | (refine zFs rfl rfl ?_; intro w0 z0 hb0; have h0 := h.below hb0; have sl0 := hsl.below hb0; have lz0 := z0.lt; have kx0 : w0.cell? ⟨g, 22, none⟩ = some (.int .i64 0) := by rw [hb0.cell (p := ⟨g, 22, none⟩) hgl]; exact kx)
   | (refine zUz rfl rfl rfl ?_)
   | (refine zFs rfl rfl ?_; intro w1 q1 hb1; have h1 := h0.below hb1; have sl1 := sl0.below hb1; have z1 := z0.below hb1; have lq1 := q1.lt)
   | (refine zC4 (m := ⟨0, 0, 0⟩) rfl rfl rfl rfl q1 ?_; rintro w2 q2 o2; have h2 := h1.onto o2 (by omega); have z2 := z1.onto o2 (by omega); have B2 := zA (zD hb0 hb1) o2 (by omega); have sl2 := zC5 sl1 o2 (fun h0' k hk => by have := sl0.lt h0' k hk; omega); have kq2 : w2.cell? ⟨w0.heap.size, 0, none⟩ = some (.int .i64 0) := q2.cell 0; clear kx kx0)
   | (refine zVb rfl rfl rfl rfl q2 ?_; rintro w3 q3 o3; have h3 := h2.onto o3 (by omega); have z3 := z2.onto o3 (by omega); have B3 := zA B2 o3 (by omega); have sl3 := zC5 sl2 o3 (fun h0' k hk => by have := sl0.lt h0' k hk; omega)))
  have hG : Gn w g w0.heap.size w.heap.size x y vo ve (.slice a l.length c) s co fin l ⟨N, 0, 0⟩ w3 := ⟨h3, by rw [hNX]; exact q3, z3, sl3, B3⟩
  by_cases hlt : j < l.length
  ·obtain ⟨b, off, c', e, -, -, -⟩ := hG.sl.shape (by omega)
   simp only [Value.slice.injEq] at e
   obtain ⟨rfl, -, rfl⟩ := e
   have hlt' : (j : Int) < (l.length : Int) := by omega
   obtain ⟨tt, htt⟩ : ∃ tt, (M3.at' l j).t = tt := ⟨_, rfl⟩
   have HT : Hid ((M3.at' l j).t = tt) := htt
   by_cases hn : tt ≤ N
   ·have HR : Hid (r = M3.at' l j) := show _ = _ by rw [← hr]; unfold St.next; rw [hju, if_pos ⟨by omega, by rw [hN, htt]; exact hn⟩]
    clear htt hr hN hNX hX hju hj
    refine qD (by kernel_rfl) (by kernel_rfl) 0 (by decide) (by kernel_rfl) (fun _ W => Gn w g w0.heap.size w.heap.size x y vo ve (.slice (some ⟨b, off, none⟩) l.length c) s co fin l ⟨N, 0, 0⟩ W) [pt g 0, pt g 0, pt g 0, pt g 27, .int .i64 (j : Int), pt g 0, pt g 0, pt g 28, .slice (some ⟨b, off, none⟩) l.length c, .int .i64 (l.length : Int), .bool true, .bool true, pt g 0, pt g 0, pt g 28, .slice (some ⟨b, off, none⟩) l.length c, pt g 0, pt g 0, pt g 0, pt g 27, .int .i64 (j : Int), .pointer (some ⟨b, off + j * 3, none⟩), .pointer (some ⟨b, off + j * 3, none⟩), .int .i64 tt, pt w0.heap.size 0, .int .i64 N, .bool true, .bool true] hG.drew ?step ?done
    case step =>
     intro L ix o' A W hj hI hL hd
     have hin : ix < 28 := qB hj
     have hsz : A.tmps.size = 56 := hI.size
     have hg := hI.g
     rcases ix with _ | _ | _ | _ | _ | _ | _ | _ | _ | _ | _ | _ | _ | _ | _ | _ | _ | _ | _ | _ | _ | _ | _ | _ | _ | _ | _ | _ | ix
     ·cases hj; exact am rfl rfl rfl (kv (hI.ol 0 rfl) hg)
     ·cases hj; exact zC rfl rfl (qK rfl (hI.vl hd 0 rfl) (kk hg))
     ·cases hj; exact zC rfl rfl (zH (hI.vl hd 1 rfl) rfl (by kernel_rfl) (kk hg))
     ·cases hj; exact zC rfl rfl (zH (hI.vl hd 2 rfl) rfl (by kernel_rfl) (kk hg))
     ·cases hj; exact zC rfl rfl (zN rfl Tryz.underlying2 (hI.vl hd 3 rfl) (by have := (gc hg.row).u; rwa [HU.out] at this) (kk hg))
     ·cases hj; exact am rfl rfl rfl (kv (hI.ol 0 rfl) hg)
     ·cases hj; exact zC rfl rfl (qK rfl (hI.vl hd 5 rfl) (kk hg))
     ·cases hj; exact zC rfl rfl (zH (hI.vl hd 6 rfl) rfl (by kernel_rfl) (kk hg))
     ·cases hj; exact zC rfl rfl (zA8 rfl Tryz.underlying31 rfl (hI.vl hd 7 rfl) (gc hg.row).vi (kk hg))
     ·cases hj; exact zC rfl rfl (zA7 rfl (hI.vl hd 8 rfl) (kk hg))
     ·cases hj; exact zC rfl rfl (qP rfl (hI.vl hd 4 rfl) (hI.vl hd 9 rfl) (fun w => by simp [go_sem] <;> omega) (kk hg))
     ·cases hj; exact am rfl rfl rfl (kv (hI.vl hd 10 rfl) hg)
     ·cases hj; exact ag rfl rfl (hI.vl hd 11 rfl) (qR rfl (kv (hI.ol 0 rfl) hg))
     ·cases hj; exact ag rfl rfl (hI.vl hd 11 rfl) (qK rfl (hI.vl hd 12 rfl) (kk hg))
     ·cases hj; exact ag rfl rfl (hI.vl hd 11 rfl) (zH (hI.vl hd 13 rfl) rfl (by kernel_rfl) (kk hg))
     ·cases hj; exact ag rfl rfl (hI.vl hd 11 rfl) (zA8 rfl Tryz.underlying31 rfl (hI.vl hd 14 rfl) (gc hg.row).vi (kk hg))
     ·cases hj; exact ag rfl rfl (hI.vl hd 11 rfl) (qR rfl (kv (hI.ol 0 rfl) hg))
     ·cases hj; exact ag rfl rfl (hI.vl hd 11 rfl) (qK rfl (hI.vl hd 16 rfl) (kk hg))
     ·cases hj; exact ag rfl rfl (hI.vl hd 11 rfl) (zH (hI.vl hd 17 rfl) rfl (by kernel_rfl) (kk hg))
     ·cases hj; exact ag rfl rfl (hI.vl hd 11 rfl) (zH (hI.vl hd 18 rfl) rfl (by kernel_rfl) (kk hg))
     ·cases hj; exact ag rfl rfl (hI.vl hd 11 rfl) (zN rfl Tryz.underlying2 (hI.vl hd 19 rfl) (by have := (gc hg.row).u; rwa [HU.out] at this) (kk hg))
     ·cases hj; exact ag rfl rfl (hI.vl hd 11 rfl) (xQ okM rfl (hI.vl hd 15 rfl) (hI.vl hd 20 rfl) (by omega) (kk hg))
     ·cases hj; exact ag rfl rfl (hI.vl hd 11 rfl) (zH (hI.vl hd 21 rfl) rfl (by kernel_rfl) (kk hg))
     ·cases hj; exact ag rfl rfl (hI.vl hd 11 rfl) (zN rfl Tryz.underlying2 (hI.vl hd 22 rfl) (by rw [← HT.out]; exact hg.sl.cell okM (qM (by omega)) (j := 0) (by decide)) (kk hg))
     ·cases hj; exact ag rfl rfl (hI.vl hd 11 rfl) (zH (x := .tmp 3) (hI.ol 3 rfl) rfl (by kernel_rfl) (kk hg))
     ·cases hj; exact ag rfl rfl (hI.vl hd 11 rfl) (zN rfl Tryz.underlying2 (hI.vl hd 24 rfl) (hg.own.cell 0) (kk hg))
     ·cases hj; exact ag rfl rfl (hI.vl hd 11 rfl) (qP rfl (hI.vl hd 23 rfl) (hI.vl hd 25 rfl) (fun w => by first | (simp [go_sem, hn]; done) | (simp [go_sem]; omega)) (kk hg))
     ·cases hj; exact zC rfl rfl (xH rfl (hI.vl hd 11 rfl) (kv ((hI.vl hd 26 rfl)) hg))
     omega
    case done =>
     intro A W hI
     have hg := hI.g
     have s43 := hI.ls 27 rfl rfl
     have hA := hI.frame [16, 17, 18, 19, 20, 21, 22, 23, 24, 25, 26, 27, 28, 29, 30, 31, 32, 33, 34, 35, 36, 37, 38, 39, 40, 41, 42, 43] (by kernel_rfl)
     rw [hA]
     simp only [qJ, List.foldl_cons, List.foldl_nil, s43, Act.put, List.setIfInBounds_toArray, List.set_cons_zero, List.set_cons_succ]
     clear hA hI s43
     go_wp2_with fail
     refine xA (by kernel_rfl) (by kernel_rfl) 11 (by decide) (by kernel_rfl) (by kernel_rfl) (fun W => Gn w g w0.heap.size w.heap.size x y vo ve (.slice (some ⟨b, off, none⟩) l.length c) s co fin l ⟨N, 0, 0⟩ W) (fun W => jQ W w.heap.size (M3.at' l j) ∧ Below w.heap.size w W) [pt g 0, pt g 0, pt g 28, .slice (some ⟨b, off, none⟩) l.length c, pt g 0, pt g 0, pt g 0, pt g 27, .int .i64 (j : Int), .pointer (some ⟨b, off + j * 3, none⟩), (M3.at' l j).val, undef] hg.drew ?step ?last ?done
     case step =>
      intro L ix o' A W hne hj hI hg hd
      have hin : ix < 12 := qB hj
      have hsz : A.tmps.size = 56 := hI.size
      rcases ix with _ | _ | _ | _ | _ | _ | _ | _ | _ | _ | _ | _ | ix
      ·cases hj; exact am rfl rfl rfl (kv (hI.ol 0 rfl) hg)
      ·cases hj; exact zC rfl rfl (qK rfl (hI.vl hd 0 rfl) (kk hg))
      ·cases hj; exact zC rfl rfl (zH (hI.vl hd 1 rfl) rfl (by kernel_rfl) (kk hg))
      ·cases hj; exact zC rfl rfl (zA8 rfl Tryz.underlying31 rfl (hI.vl hd 2 rfl) (gc hg.row).vi (kk hg))
      ·cases hj; exact am rfl rfl rfl (kv (hI.ol 0 rfl) hg)
      ·cases hj; exact zC rfl rfl (qK rfl (hI.vl hd 4 rfl) (kk hg))
      ·cases hj; exact zC rfl rfl (zH (hI.vl hd 5 rfl) rfl (by kernel_rfl) (kk hg))
      ·cases hj; exact zC rfl rfl (zH (hI.vl hd 6 rfl) rfl (by kernel_rfl) (kk hg))
      ·cases hj; exact zC rfl rfl (zN rfl Tryz.underlying2 (hI.vl hd 7 rfl) (by have := (gc hg.row).u; rwa [HU.out] at this) (kk hg))
      ·cases hj; exact zC rfl rfl (xQ okM rfl (hI.vl hd 3 rfl) (hI.vl hd 8 rfl) (by omega) (kk hg))
      ·cases hj; exact zC rfl rfl (jD okM rfl (hI.vl hd 9 rfl) (hg.sl.range okM (qM (by omega))) (kk hg))
      ·exact absurd rfl hne
      omega
     case last =>
      intro L o' A W hj hI hg hd
      cases hj
      have e0 : A.eval (.tmp 2) = .pointer (some ⟨w.heap.size, 0, none⟩) := hI.old 2 (by kernel_rfl)
      have e1 : A.eval (.tmp 54) = (M3.at' l j).val := hI.val hd 10 54 rfl rfl (by kernel_rfl)
      exact zC rfl rfl (zAo rfl e0 e1 hg.res jJ rfl (by simp [Value.oneCell']) (fun W2 r2 o2 => ⟨_, rfl, rfl, r2, zA hg.bel o2 (Nat.le_refl _)⟩))
     case done =>
      intro A W hI hE
      have hA := hI.frame [44, 45, 46, 47, 48, 49, 50, 51, 52, 53, 54] (by kernel_rfl)
      rw [hA]
      simp only [qJ, List.foldl_cons, List.foldl_nil, Act.put, List.setIfInBounds_toArray, List.set_cons_zero, List.set_cons_succ]
      clear hA hI 
      go_wp2_with fail
      refine zDv rfl rfl hE.1 rfl ?_
      exact ⟨by rw [HR.out], hE.2⟩
   ·have HR : Hid (r = ⟨N, 0, 0⟩) := show _ = _ by rw [← hr]; unfold St.next; rw [hju, if_neg (fun hh => hn (by have := hh.2; rwa [hN, htt] at this)), hN]
    clear htt hr hN hNX hX hju hj
    refine qD (by kernel_rfl) (by kernel_rfl) 0 (by decide) (by kernel_rfl) (fun _ W => Gn w g w0.heap.size w.heap.size x y vo ve (.slice (some ⟨b, off, none⟩) l.length c) s co fin l ⟨N, 0, 0⟩ W) [pt g 0, pt g 0, pt g 0, pt g 27, .int .i64 (j : Int), pt g 0, pt g 0, pt g 28, .slice (some ⟨b, off, none⟩) l.length c, .int .i64 (l.length : Int), .bool true, .bool true, pt g 0, pt g 0, pt g 28, .slice (some ⟨b, off, none⟩) l.length c, pt g 0, pt g 0, pt g 0, pt g 27, .int .i64 (j : Int), .pointer (some ⟨b, off + j * 3, none⟩), .pointer (some ⟨b, off + j * 3, none⟩), .int .i64 tt, pt w0.heap.size 0, .int .i64 N, .bool false, .bool false] hG.drew ?step ?done
    case step =>
     intro L ix o' A W hj hI hL hd
     have hin : ix < 28 := qB hj
     have hsz : A.tmps.size = 56 := hI.size
     have hg := hI.g
     rcases ix with _ | _ | _ | _ | _ | _ | _ | _ | _ | _ | _ | _ | _ | _ | _ | _ | _ | _ | _ | _ | _ | _ | _ | _ | _ | _ | _ | _ | ix
     ·cases hj; exact am rfl rfl rfl (kv (hI.ol 0 rfl) hg)
     ·cases hj; exact zC rfl rfl (qK rfl (hI.vl hd 0 rfl) (kk hg))
     ·cases hj; exact zC rfl rfl (zH (hI.vl hd 1 rfl) rfl (by kernel_rfl) (kk hg))
     ·cases hj; exact zC rfl rfl (zH (hI.vl hd 2 rfl) rfl (by kernel_rfl) (kk hg))
     ·cases hj; exact zC rfl rfl (zN rfl Tryz.underlying2 (hI.vl hd 3 rfl) (by have := (gc hg.row).u; rwa [HU.out] at this) (kk hg))
     ·cases hj; exact am rfl rfl rfl (kv (hI.ol 0 rfl) hg)
     ·cases hj; exact zC rfl rfl (qK rfl (hI.vl hd 5 rfl) (kk hg))
     ·cases hj; exact zC rfl rfl (zH (hI.vl hd 6 rfl) rfl (by kernel_rfl) (kk hg))
     ·cases hj; exact zC rfl rfl (zA8 rfl Tryz.underlying31 rfl (hI.vl hd 7 rfl) (gc hg.row).vi (kk hg))
     ·cases hj; exact zC rfl rfl (zA7 rfl (hI.vl hd 8 rfl) (kk hg))
     ·cases hj; exact zC rfl rfl (qP rfl (hI.vl hd 4 rfl) (hI.vl hd 9 rfl) (fun w => by simp [go_sem] <;> omega) (kk hg))
     ·cases hj; exact am rfl rfl rfl (kv (hI.vl hd 10 rfl) hg)
     ·cases hj; exact ag rfl rfl (hI.vl hd 11 rfl) (qR rfl (kv (hI.ol 0 rfl) hg))
     ·cases hj; exact ag rfl rfl (hI.vl hd 11 rfl) (qK rfl (hI.vl hd 12 rfl) (kk hg))
     ·cases hj; exact ag rfl rfl (hI.vl hd 11 rfl) (zH (hI.vl hd 13 rfl) rfl (by kernel_rfl) (kk hg))
     ·cases hj; exact ag rfl rfl (hI.vl hd 11 rfl) (zA8 rfl Tryz.underlying31 rfl (hI.vl hd 14 rfl) (gc hg.row).vi (kk hg))
     ·cases hj; exact ag rfl rfl (hI.vl hd 11 rfl) (qR rfl (kv (hI.ol 0 rfl) hg))
     ·cases hj; exact ag rfl rfl (hI.vl hd 11 rfl) (qK rfl (hI.vl hd 16 rfl) (kk hg))
     ·cases hj; exact ag rfl rfl (hI.vl hd 11 rfl) (zH (hI.vl hd 17 rfl) rfl (by kernel_rfl) (kk hg))
     ·cases hj; exact ag rfl rfl (hI.vl hd 11 rfl) (zH (hI.vl hd 18 rfl) rfl (by kernel_rfl) (kk hg))
     ·cases hj; exact ag rfl rfl (hI.vl hd 11 rfl) (zN rfl Tryz.underlying2 (hI.vl hd 19 rfl) (by have := (gc hg.row).u; rwa [HU.out] at this) (kk hg))
     ·cases hj; exact ag rfl rfl (hI.vl hd 11 rfl) (xQ okM rfl (hI.vl hd 15 rfl) (hI.vl hd 20 rfl) (by omega) (kk hg))
     ·cases hj; exact ag rfl rfl (hI.vl hd 11 rfl) (zH (hI.vl hd 21 rfl) rfl (by kernel_rfl) (kk hg))
     ·cases hj; exact ag rfl rfl (hI.vl hd 11 rfl) (zN rfl Tryz.underlying2 (hI.vl hd 22 rfl) (by rw [← HT.out]; exact hg.sl.cell okM (qM (by omega)) (j := 0) (by decide)) (kk hg))
     ·cases hj; exact ag rfl rfl (hI.vl hd 11 rfl) (zH (x := .tmp 3) (hI.ol 3 rfl) rfl (by kernel_rfl) (kk hg))
     ·cases hj; exact ag rfl rfl (hI.vl hd 11 rfl) (zN rfl Tryz.underlying2 (hI.vl hd 24 rfl) (hg.own.cell 0) (kk hg))
     ·cases hj; exact ag rfl rfl (hI.vl hd 11 rfl) (qP rfl (hI.vl hd 23 rfl) (hI.vl hd 25 rfl) (fun w => by first | (simp [go_sem, hn]; done) | (simp [go_sem]; omega)) (kk hg))
     ·cases hj; exact zC rfl rfl (xH rfl (hI.vl hd 11 rfl) (kv ((hI.vl hd 26 rfl)) hg))
     omega
    case done =>
     intro A W hI
     have hg := hI.g
     have s43 := hI.ls 27 rfl rfl
     have hA := hI.frame [16, 17, 18, 19, 20, 21, 22, 23, 24, 25, 26, 27, 28, 29, 30, 31, 32, 33, 34, 35, 36, 37, 38, 39, 40, 41, 42, 43] (by kernel_rfl)
     rw [hA]
     simp only [qJ, List.foldl_cons, List.foldl_nil, s43, Act.put, List.setIfInBounds_toArray, List.set_cons_zero, List.set_cons_succ]
     clear hA hI s43
     go_wp2_with (first
      | (refine zFk rfl rfl rfl hg.own ?_)
      | (refine zC4 rfl rfl rfl rfl hg.res ?_; rintro w9 r9 o9; have hB9 := zA hg.bel o9 (Nat.le_refl _)))
     refine zDv rfl rfl r9 rfl ?_
     exact ⟨by rw [HR.out], hB9⟩
  ·have hlt' : ¬ (j : Int) < (l.length : Int) := by omega
   have HR : Hid (r = ⟨N, 0, 0⟩) := show _ = _ by rw [← hr]; unfold St.next; rw [if_neg (fun hh => by have := hh.1; omega), hN]
   clear hr hN hNX hX hju hj
   refine qD (by kernel_rfl) (by kernel_rfl) 0 (by decide) (by kernel_rfl) (fun _ W => Gn w g w0.heap.size w.heap.size x y vo ve (.slice a l.length c) s co fin l ⟨N, 0, 0⟩ W) [pt g 0, pt g 0, pt g 0, pt g 27, .int .i64 (j : Int), pt g 0, pt g 0, pt g 28, .slice a l.length c, .int .i64 (l.length : Int), .bool false, .bool false, undef, undef, undef, undef, undef, undef, undef, undef, undef, undef, undef, undef, undef, undef, undef, .bool false] hG.drew ?step ?done
   case step =>
    intro L ix o' A W hj hI hL hd
    have hin : ix < 28 := qB hj
    have hsz : A.tmps.size = 56 := hI.size
    have hg := hI.g
    rcases ix with _ | _ | _ | _ | _ | _ | _ | _ | _ | _ | _ | _ | _ | _ | _ | _ | _ | _ | _ | _ | _ | _ | _ | _ | _ | _ | _ | _ | ix
    ·cases hj; exact am rfl rfl rfl (kv (hI.ol 0 rfl) hg)
    ·cases hj; exact zC rfl rfl (qK rfl (hI.vl hd 0 rfl) (kk hg))
    ·cases hj; exact zC rfl rfl (zH (hI.vl hd 1 rfl) rfl (by kernel_rfl) (kk hg))
    ·cases hj; exact zC rfl rfl (zH (hI.vl hd 2 rfl) rfl (by kernel_rfl) (kk hg))
    ·cases hj; exact zC rfl rfl (zN rfl Tryz.underlying2 (hI.vl hd 3 rfl) (by have := (gc hg.row).u; rwa [HU.out] at this) (kk hg))
    ·cases hj; exact am rfl rfl rfl (kv (hI.ol 0 rfl) hg)
    ·cases hj; exact zC rfl rfl (qK rfl (hI.vl hd 5 rfl) (kk hg))
    ·cases hj; exact zC rfl rfl (zH (hI.vl hd 6 rfl) rfl (by kernel_rfl) (kk hg))
    ·cases hj; exact zC rfl rfl (zA8 rfl Tryz.underlying31 rfl (hI.vl hd 7 rfl) (gc hg.row).vi (kk hg))
    ·cases hj; exact zC rfl rfl (zA7 rfl (hI.vl hd 8 rfl) (kk hg))
    ·cases hj; exact zC rfl rfl (qP rfl (hI.vl hd 4 rfl) (hI.vl hd 9 rfl) (fun w => by simp [go_sem] <;> omega) (kk hg))
    ·cases hj; exact am rfl rfl rfl (kv (hI.vl hd 10 rfl) hg)
    ·cases hj; exact ak rfl rfl (hI.vl hd 11 rfl) (kk hg)
    ·cases hj; exact ak rfl rfl (hI.vl hd 11 rfl) (kk hg)
    ·cases hj; exact ak rfl rfl (hI.vl hd 11 rfl) (kk hg)
    ·cases hj; exact ak rfl rfl (hI.vl hd 11 rfl) (kk hg)
    ·cases hj; exact ak rfl rfl (hI.vl hd 11 rfl) (kk hg)
    ·cases hj; exact ak rfl rfl (hI.vl hd 11 rfl) (kk hg)
    ·cases hj; exact ak rfl rfl (hI.vl hd 11 rfl) (kk hg)
    ·cases hj; exact ak rfl rfl (hI.vl hd 11 rfl) (kk hg)
    ·cases hj; exact ak rfl rfl (hI.vl hd 11 rfl) (kk hg)
    ·cases hj; exact ak rfl rfl (hI.vl hd 11 rfl) (kk hg)
    ·cases hj; exact ak rfl rfl (hI.vl hd 11 rfl) (kk hg)
    ·cases hj; exact ak rfl rfl (hI.vl hd 11 rfl) (kk hg)
    ·cases hj; exact ak rfl rfl (hI.vl hd 11 rfl) (kk hg)
    ·cases hj; exact ak rfl rfl (hI.vl hd 11 rfl) (kk hg)
    ·cases hj; exact ak rfl rfl (hI.vl hd 11 rfl) (kk hg)
    ·cases hj; have e1 := hI.vl hd 26 rfl; exact zC rfl rfl (xH rfl (hI.vl hd 11 rfl) (kk hg))
    omega
   case done =>
    intro A W hI
    have hg := hI.g
    have s43 := hI.ls 27 rfl rfl
    have hA := hI.frame [16, 17, 18, 19, 20, 21, 22, 23, 24, 25, 26, 27, 28, 29, 30, 31, 32, 33, 34, 35, 36, 37, 38, 39, 40, 41, 42, 43] (by kernel_rfl)
    rw [hA]
    simp only [qJ, List.foldl_cons, List.foldl_nil, s43, Act.put, List.setIfInBounds_toArray, List.set_cons_zero, List.set_cons_succ]
    clear hA hI s43
    go_wp2_with (first
     | (refine zFk rfl rfl rfl hg.own ?_)
     | (refine zC4 rfl rfl rfl rfl hg.res ?_; rintro w9 r9 o9; have hB9 := zA hg.bel o9 (Nat.le_refl _)))
    refine zDv rfl rfl r9 rfl ?_
    exact ⟨by rw [HR.out], hB9⟩
 ·rw [if_neg hx] at hNX
  have hd : (X == 0) = false := by simpa using hx
  go_enter Tryz.func139, Tryz.ntmps139
  go_wp2_with (first
   | (refine zFs rfl rfl ?_; intro w0 z0 hb0; have h0 := h.below hb0; have sl0 := hsl.below hb0; have lz0 := z0.lt; have kx0 : w0.cell? ⟨g, 22, none⟩ = some (.int .i64 X) := by rw [hb0.cell (p := ⟨g, 22, none⟩) hgl]; exact kx)
   | (refine zUz rfl rfl rfl ?_)
   | (refine zFs rfl rfl ?_; intro w1 q1 hb1; have h1 := h0.below hb1; have sl1 := sl0.below hb1; have z1 := z0.below hb1; have lq1 := q1.lt)
   | (refine zC4 (m := ⟨X, 0, 0⟩) rfl rfl rfl rfl q1 ?_; rintro w2 q2 o2; have h2 := h1.onto o2 (by omega); have z2 := z1.onto o2 (by omega); have B2 := zA (zD hb0 hb1) o2 (by omega); have sl2 := zC5 sl1 o2 (fun h0' k hk => by have := sl0.lt h0' k hk; omega); have kq2 : w2.cell? ⟨w0.heap.size, 0, none⟩ = some (.int .i64 X) := q2.cell 0; clear kx kx0))
  have hG : Gn w g w0.heap.size w.heap.size x y vo ve (.slice a l.length c) s co fin l ⟨N, 0, 0⟩ w2 := ⟨h2, by rw [hNX]; exact q2, z2, sl2, B2⟩
  by_cases hlt : j < l.length
  ·obtain ⟨b, off, c', e, -, -, -⟩ := hG.sl.shape (by omega)
   simp only [Value.slice.injEq] at e
   obtain ⟨rfl, -, rfl⟩ := e
   have hlt' : (j : Int) < (l.length : Int) := by omega
   obtain ⟨tt, htt⟩ : ∃ tt, (M3.at' l j).t = tt := ⟨_, rfl⟩
   have HT : Hid ((M3.at' l j).t = tt) := htt
   by_cases hn : tt ≤ N
   ·have HR : Hid (r = M3.at' l j) := show _ = _ by rw [← hr]; unfold St.next; rw [hju, if_pos ⟨by omega, by rw [hN, htt]; exact hn⟩]
    clear htt hr hN hNX hX hju hj
    refine qD (by kernel_rfl) (by kernel_rfl) 0 (by decide) (by kernel_rfl) (fun _ W => Gn w g w0.heap.size w.heap.size x y vo ve (.slice (some ⟨b, off, none⟩) l.length c) s co fin l ⟨N, 0, 0⟩ W) [pt g 0, pt g 0, pt g 0, pt g 27, .int .i64 (j : Int), pt g 0, pt g 0, pt g 28, .slice (some ⟨b, off, none⟩) l.length c, .int .i64 (l.length : Int), .bool true, .bool true, pt g 0, pt g 0, pt g 28, .slice (some ⟨b, off, none⟩) l.length c, pt g 0, pt g 0, pt g 0, pt g 27, .int .i64 (j : Int), .pointer (some ⟨b, off + j * 3, none⟩), .pointer (some ⟨b, off + j * 3, none⟩), .int .i64 tt, pt w0.heap.size 0, .int .i64 N, .bool true, .bool true] hG.drew ?step ?done
    case step =>
     intro L ix o' A W hj hI hL hd
     have hin : ix < 28 := qB hj
     have hsz : A.tmps.size = 56 := hI.size
     have hg := hI.g
     rcases ix with _ | _ | _ | _ | _ | _ | _ | _ | _ | _ | _ | _ | _ | _ | _ | _ | _ | _ | _ | _ | _ | _ | _ | _ | _ | _ | _ | _ | ix
     ·cases hj; exact am rfl rfl rfl (kv (hI.ol 0 rfl) hg)
     ·cases hj; exact zC rfl rfl (qK rfl (hI.vl hd 0 rfl) (kk hg))
     ·cases hj; exact zC rfl rfl (zH (hI.vl hd 1 rfl) rfl (by kernel_rfl) (kk hg))
     ·cases hj; exact zC rfl rfl (zH (hI.vl hd 2 rfl) rfl (by kernel_rfl) (kk hg))
     ·cases hj; exact zC rfl rfl (zN rfl Tryz.underlying2 (hI.vl hd 3 rfl) (by have := (gc hg.row).u; rwa [HU.out] at this) (kk hg))
     ·cases hj; exact am rfl rfl rfl (kv (hI.ol 0 rfl) hg)
     ·cases hj; exact zC rfl rfl (qK rfl (hI.vl hd 5 rfl) (kk hg))
     ·cases hj; exact zC rfl rfl (zH (hI.vl hd 6 rfl) rfl (by kernel_rfl) (kk hg))
     ·cases hj; exact zC rfl rfl (zA8 rfl Tryz.underlying31 rfl (hI.vl hd 7 rfl) (gc hg.row).vi (kk hg))
     ·cases hj; exact zC rfl rfl (zA7 rfl (hI.vl hd 8 rfl) (kk hg))
     ·cases hj; exact zC rfl rfl (qP rfl (hI.vl hd 4 rfl) (hI.vl hd 9 rfl) (fun w => by simp [go_sem] <;> omega) (kk hg))
     ·cases hj; exact am rfl rfl rfl (kv (hI.vl hd 10 rfl) hg)
     ·cases hj; exact ag rfl rfl (hI.vl hd 11 rfl) (qR rfl (kv (hI.ol 0 rfl) hg))
     ·cases hj; exact ag rfl rfl (hI.vl hd 11 rfl) (qK rfl (hI.vl hd 12 rfl) (kk hg))
     ·cases hj; exact ag rfl rfl (hI.vl hd 11 rfl) (zH (hI.vl hd 13 rfl) rfl (by kernel_rfl) (kk hg))
     ·cases hj; exact ag rfl rfl (hI.vl hd 11 rfl) (zA8 rfl Tryz.underlying31 rfl (hI.vl hd 14 rfl) (gc hg.row).vi (kk hg))
     ·cases hj; exact ag rfl rfl (hI.vl hd 11 rfl) (qR rfl (kv (hI.ol 0 rfl) hg))
     ·cases hj; exact ag rfl rfl (hI.vl hd 11 rfl) (qK rfl (hI.vl hd 16 rfl) (kk hg))
     ·cases hj; exact ag rfl rfl (hI.vl hd 11 rfl) (zH (hI.vl hd 17 rfl) rfl (by kernel_rfl) (kk hg))
     ·cases hj; exact ag rfl rfl (hI.vl hd 11 rfl) (zH (hI.vl hd 18 rfl) rfl (by kernel_rfl) (kk hg))
     ·cases hj; exact ag rfl rfl (hI.vl hd 11 rfl) (zN rfl Tryz.underlying2 (hI.vl hd 19 rfl) (by have := (gc hg.row).u; rwa [HU.out] at this) (kk hg))
     ·cases hj; exact ag rfl rfl (hI.vl hd 11 rfl) (xQ okM rfl (hI.vl hd 15 rfl) (hI.vl hd 20 rfl) (by omega) (kk hg))
     ·cases hj; exact ag rfl rfl (hI.vl hd 11 rfl) (zH (hI.vl hd 21 rfl) rfl (by kernel_rfl) (kk hg))
     ·cases hj; exact ag rfl rfl (hI.vl hd 11 rfl) (zN rfl Tryz.underlying2 (hI.vl hd 22 rfl) (by rw [← HT.out]; exact hg.sl.cell okM (qM (by omega)) (j := 0) (by decide)) (kk hg))
     ·cases hj; exact ag rfl rfl (hI.vl hd 11 rfl) (zH (x := .tmp 3) (hI.ol 3 rfl) rfl (by kernel_rfl) (kk hg))
     ·cases hj; exact ag rfl rfl (hI.vl hd 11 rfl) (zN rfl Tryz.underlying2 (hI.vl hd 24 rfl) (hg.own.cell 0) (kk hg))
     ·cases hj; exact ag rfl rfl (hI.vl hd 11 rfl) (qP rfl (hI.vl hd 23 rfl) (hI.vl hd 25 rfl) (fun w => by first | (simp [go_sem, hn]; done) | (simp [go_sem]; omega)) (kk hg))
     ·cases hj; exact zC rfl rfl (xH rfl (hI.vl hd 11 rfl) (kv ((hI.vl hd 26 rfl)) hg))
     omega
    case done =>
     intro A W hI
     have hg := hI.g
     have s43 := hI.ls 27 rfl rfl
     have hA := hI.frame [16, 17, 18, 19, 20, 21, 22, 23, 24, 25, 26, 27, 28, 29, 30, 31, 32, 33, 34, 35, 36, 37, 38, 39, 40, 41, 42, 43] (by kernel_rfl)
     rw [hA]
     simp only [qJ, List.foldl_cons, List.foldl_nil, s43, Act.put, List.setIfInBounds_toArray, List.set_cons_zero, List.set_cons_succ]
     clear hA hI s43
     go_wp2_with fail
     refine xA (by kernel_rfl) (by kernel_rfl) 11 (by decide) (by kernel_rfl) (by kernel_rfl) (fun W => Gn w g w0.heap.size w.heap.size x y vo ve (.slice (some ⟨b, off, none⟩) l.length c) s co fin l ⟨N, 0, 0⟩ W) (fun W => jQ W w.heap.size (M3.at' l j) ∧ Below w.heap.size w W) [pt g 0, pt g 0, pt g 28, .slice (some ⟨b, off, none⟩) l.length c, pt g 0, pt g 0, pt g 0, pt g 27, .int .i64 (j : Int), .pointer (some ⟨b, off + j * 3, none⟩), (M3.at' l j).val, undef] hg.drew ?step ?last ?done
     case step =>
      intro L ix o' A W hne hj hI hg hd
      have hin : ix < 12 := qB hj
      have hsz : A.tmps.size = 56 := hI.size
      rcases ix with _ | _ | _ | _ | _ | _ | _ | _ | _ | _ | _ | _ | ix
      ·cases hj; exact am rfl rfl rfl (kv (hI.ol 0 rfl) hg)
      ·cases hj; exact zC rfl rfl (qK rfl (hI.vl hd 0 rfl) (kk hg))
      ·cases hj; exact zC rfl rfl (zH (hI.vl hd 1 rfl) rfl (by kernel_rfl) (kk hg))
      ·cases hj; exact zC rfl rfl (zA8 rfl Tryz.underlying31 rfl (hI.vl hd 2 rfl) (gc hg.row).vi (kk hg))
      ·cases hj; exact am rfl rfl rfl (kv (hI.ol 0 rfl) hg)
      ·cases hj; exact zC rfl rfl (qK rfl (hI.vl hd 4 rfl) (kk hg))
      ·cases hj; exact zC rfl rfl (zH (hI.vl hd 5 rfl) rfl (by kernel_rfl) (kk hg))
      ·cases hj; exact zC rfl rfl (zH (hI.vl hd 6 rfl) rfl (by kernel_rfl) (kk hg))
      ·cases hj; exact zC rfl rfl (zN rfl Tryz.underlying2 (hI.vl hd 7 rfl) (by have := (gc hg.row).u; rwa [HU.out] at this) (kk hg))
      ·cases hj; exact zC rfl rfl (xQ okM rfl (hI.vl hd 3 rfl) (hI.vl hd 8 rfl) (by omega) (kk hg))
      ·cases hj; exact zC rfl rfl (jD okM rfl (hI.vl hd 9 rfl) (hg.sl.range okM (qM (by omega))) (kk hg))
      ·exact absurd rfl hne
      omega
     case last =>
      intro L o' A W hj hI hg hd
      cases hj
      have e0 : A.eval (.tmp 2) = .pointer (some ⟨w.heap.size, 0, none⟩) := hI.old 2 (by kernel_rfl)
      have e1 : A.eval (.tmp 54) = (M3.at' l j).val := hI.val hd 10 54 rfl rfl (by kernel_rfl)
      exact zC rfl rfl (zAo rfl e0 e1 hg.res jJ rfl (by simp [Value.oneCell']) (fun W2 r2 o2 => ⟨_, rfl, rfl, r2, zA hg.bel o2 (Nat.le_refl _)⟩))
     case done =>
      intro A W hI hE
      have hA := hI.frame [44, 45, 46, 47, 48, 49, 50, 51, 52, 53, 54] (by kernel_rfl)
      rw [hA]
      simp only [qJ, List.foldl_cons, List.foldl_nil, Act.put, List.setIfInBounds_toArray, List.set_cons_zero, List.set_cons_succ]
      clear hA hI 
      go_wp2_with fail
      refine zDv rfl rfl hE.1 rfl ?_
      exact ⟨by rw [HR.out], hE.2⟩
   ·have HR : Hid (r = ⟨N, 0, 0⟩) := show _ = _ by rw [← hr]; unfold St.next; rw [hju, if_neg (fun hh => hn (by have := hh.2; rwa [hN, htt] at this)), hN]
    clear htt hr hN hNX hX hju hj
    refine qD (by kernel_rfl) (by kernel_rfl) 0 (by decide) (by kernel_rfl) (fun _ W => Gn w g w0.heap.size w.heap.size x y vo ve (.slice (some ⟨b, off, none⟩) l.length c) s co fin l ⟨N, 0, 0⟩ W) [pt g 0, pt g 0, pt g 0, pt g 27, .int .i64 (j : Int), pt g 0, pt g 0, pt g 28, .slice (some ⟨b, off, none⟩) l.length c, .int .i64 (l.length : Int), .bool true, .bool true, pt g 0, pt g 0, pt g 28, .slice (some ⟨b, off, none⟩) l.length c, pt g 0, pt g 0, pt g 0, pt g 27, .int .i64 (j : Int), .pointer (some ⟨b, off + j * 3, none⟩), .pointer (some ⟨b, off + j * 3, none⟩), .int .i64 tt, pt w0.heap.size 0, .int .i64 N, .bool false, .bool false] hG.drew ?step ?done
    case step =>
     intro L ix o' A W hj hI hL hd
     have hin : ix < 28 := qB hj
     have hsz : A.tmps.size = 56 := hI.size
     have hg := hI.g
     rcases ix with _ | _ | _ | _ | _ | _ | _ | _ | _ | _ | _ | _ | _ | _ | _ | _ | _ | _ | _ | _ | _ | _ | _ | _ | _ | _ | _ | _ | ix
     ·cases hj; exact am rfl rfl rfl (kv (hI.ol 0 rfl) hg)
     ·cases hj; exact zC rfl rfl (qK rfl (hI.vl hd 0 rfl) (kk hg))
     ·cases hj; exact zC rfl rfl (zH (hI.vl hd 1 rfl) rfl (by kernel_rfl) (kk hg))
     ·cases hj; exact zC rfl rfl (zH (hI.vl hd 2 rfl) rfl (by kernel_rfl) (kk hg))
     ·cases hj; exact zC rfl rfl (zN rfl Tryz.underlying2 (hI.vl hd 3 rfl) (by have := (gc hg.row).u; rwa [HU.out] at this) (kk hg))
     ·cases hj; exact am rfl rfl rfl (kv (hI.ol 0 rfl) hg)
     ·cases hj; exact zC rfl rfl (qK rfl (hI.vl hd 5 rfl) (kk hg))
     ·cases hj; exact zC rfl rfl (zH (hI.vl hd 6 rfl) rfl (by kernel_rfl) (kk hg))
     ·cases hj; exact zC rfl rfl (zA8 rfl Tryz.underlying31 rfl (hI.vl hd 7 rfl) (gc hg.row).vi (kk hg))
     ·cases hj; exact zC rfl rfl (zA7 rfl (hI.vl hd 8 rfl) (kk hg))
     ·cases hj; exact zC rfl rfl (qP rfl (hI.vl hd 4 rfl) (hI.vl hd 9 rfl) (fun w => by simp [go_sem] <;> omega) (kk hg))
     ·cases hj; exact am rfl rfl rfl (kv (hI.vl hd 10 rfl) hg)
     ·cases hj; exact ag rfl rfl (hI.vl hd 11 rfl) (qR rfl (kv (hI.ol 0 rfl) hg))
     ·cases hj; exact ag rfl rfl (hI.vl hd 11 rfl) (qK rfl (hI.vl hd 12 rfl) (kk hg))
     ·cases hj; exact ag rfl rfl (hI.vl hd 11 rfl) (zH (hI.vl hd 13 rfl) rfl (by kernel_rfl) (kk hg))
     ·cases hj; exact ag rfl rfl (hI.vl hd 11 rfl) (zA8 rfl Tryz.underlying31 rfl (hI.vl hd 14 rfl) (gc hg.row).vi (kk hg))
     ·cases hj; exact ag rfl rfl (hI.vl hd 11 rfl) (qR rfl (kv (hI.ol 0 rfl) hg))
     ·cases hj; exact ag rfl rfl (hI.vl hd 11 rfl) (qK rfl (hI.vl hd 16 rfl) (kk hg))
     ·cases hj; exact ag rfl rfl (hI.vl hd 11 rfl) (zH (hI.vl hd 17 rfl) rfl (by kernel_rfl) (kk hg))
     ·cases hj; exact ag rfl rfl (hI.vl hd 11 rfl) (zH (hI.vl hd 18 rfl) rfl (by kernel_rfl) (kk hg))
     ·cases hj; exact ag rfl rfl (hI.vl hd 11 rfl) (zN rfl Tryz.underlying2 (hI.vl hd 19 rfl) (by have := (gc hg.row).u; rwa [HU.out] at this) (kk hg))
     ·cases hj; exact ag rfl rfl (hI.vl hd 11 rfl) (xQ okM rfl (hI.vl hd 15 rfl) (hI.vl hd 20 rfl) (by omega) (kk hg))
     ·cases hj; exact ag rfl rfl (hI.vl hd 11 rfl) (zH (hI.vl hd 21 rfl) rfl (by kernel_rfl) (kk hg))
     ·cases hj; exact ag rfl rfl (hI.vl hd 11 rfl) (zN rfl Tryz.underlying2 (hI.vl hd 22 rfl) (by rw [← HT.out]; exact hg.sl.cell okM (qM (by omega)) (j := 0) (by decide)) (kk hg))
     ·cases hj; exact ag rfl rfl (hI.vl hd 11 rfl) (zH (x := .tmp 3) (hI.ol 3 rfl) rfl (by kernel_rfl) (kk hg))
     ·cases hj; exact ag rfl rfl (hI.vl hd 11 rfl) (zN rfl Tryz.underlying2 (hI.vl hd 24 rfl) (hg.own.cell 0) (kk hg))
     ·cases hj; exact ag rfl rfl (hI.vl hd 11 rfl) (qP rfl (hI.vl hd 23 rfl) (hI.vl hd 25 rfl) (fun w => by first | (simp [go_sem, hn]; done) | (simp [go_sem]; omega)) (kk hg))
     ·cases hj; exact zC rfl rfl (xH rfl (hI.vl hd 11 rfl) (kv ((hI.vl hd 26 rfl)) hg))
     omega
    case done =>
     intro A W hI
     have hg := hI.g
     have s43 := hI.ls 27 rfl rfl
     have hA := hI.frame [16, 17, 18, 19, 20, 21, 22, 23, 24, 25, 26, 27, 28, 29, 30, 31, 32, 33, 34, 35, 36, 37, 38, 39, 40, 41, 42, 43] (by kernel_rfl)
     rw [hA]
     simp only [qJ, List.foldl_cons, List.foldl_nil, s43, Act.put, List.setIfInBounds_toArray, List.set_cons_zero, List.set_cons_succ]
     clear hA hI s43
     go_wp2_with (first
      | (refine zFk rfl rfl rfl hg.own ?_)
      | (refine zC4 rfl rfl rfl rfl hg.res ?_; rintro w9 r9 o9; have hB9 := zA hg.bel o9 (Nat.le_refl _)))
     refine zDv rfl rfl r9 rfl ?_
     exact ⟨by rw [HR.out], hB9⟩
  ·have hlt' : ¬ (j : Int) < (l.length : Int) := by omega
   have HR : Hid (r = ⟨N, 0, 0⟩) := show _ = _ by rw [← hr]; unfold St.next; rw [if_neg (fun hh => by have := hh.1; omega), hN]
   clear hr hN hNX hX hju hj
   refine qD (by kernel_rfl) (by kernel_rfl) 0 (by decide) (by kernel_rfl) (fun _ W => Gn w g w0.heap.size w.heap.size x y vo ve (.slice a l.length c) s co fin l ⟨N, 0, 0⟩ W) [pt g 0, pt g 0, pt g 0, pt g 27, .int .i64 (j : Int), pt g 0, pt g 0, pt g 28, .slice a l.length c, .int .i64 (l.length : Int), .bool false, .bool false, undef, undef, undef, undef, undef, undef, undef, undef, undef, undef, undef, undef, undef, undef, undef, .bool false] hG.drew ?step ?done
   case step =>
    intro L ix o' A W hj hI hL hd
    have hin : ix < 28 := qB hj
    have hsz : A.tmps.size = 56 := hI.size
    have hg := hI.g
    rcases ix with _ | _ | _ | _ | _ | _ | _ | _ | _ | _ | _ | _ | _ | _ | _ | _ | _ | _ | _ | _ | _ | _ | _ | _ | _ | _ | _ | _ | ix
    ·cases hj; exact am rfl rfl rfl (kv (hI.ol 0 rfl) hg)
    ·cases hj; exact zC rfl rfl (qK rfl (hI.vl hd 0 rfl) (kk hg))
    ·cases hj; exact zC rfl rfl (zH (hI.vl hd 1 rfl) rfl (by kernel_rfl) (kk hg))
    ·cases hj; exact zC rfl rfl (zH (hI.vl hd 2 rfl) rfl (by kernel_rfl) (kk hg))
    ·cases hj; exact zC rfl rfl (zN rfl Tryz.underlying2 (hI.vl hd 3 rfl) (by have := (gc hg.row).u; rwa [HU.out] at this) (kk hg))
    ·cases hj; exact am rfl rfl rfl (kv (hI.ol 0 rfl) hg)
    ·cases hj; exact zC rfl rfl (qK rfl (hI.vl hd 5 rfl) (kk hg))
    ·cases hj; exact zC rfl rfl (zH (hI.vl hd 6 rfl) rfl (by kernel_rfl) (kk hg))
    ·cases hj; exact zC rfl rfl (zA8 rfl Tryz.underlying31 rfl (hI.vl hd 7 rfl) (gc hg.row).vi (kk hg))
    ·cases hj; exact zC rfl rfl (zA7 rfl (hI.vl hd 8 rfl) (kk hg))
    ·cases hj; exact zC rfl rfl (qP rfl (hI.vl hd 4 rfl) (hI.vl hd 9 rfl) (fun w => by simp [go_sem] <;> omega) (kk hg))
    ·cases hj; exact am rfl rfl rfl (kv (hI.vl hd 10 rfl) hg)
    ·cases hj; exact ak rfl rfl (hI.vl hd 11 rfl) (kk hg)
    ·cases hj; exact ak rfl rfl (hI.vl hd 11 rfl) (kk hg)
    ·cases hj; exact ak rfl rfl (hI.vl hd 11 rfl) (kk hg)
    ·cases hj; exact ak rfl rfl (hI.vl hd 11 rfl) (kk hg)
    ·cases hj; exact ak rfl rfl (hI.vl hd 11 rfl) (kk hg)
    ·cases hj; exact ak rfl rfl (hI.vl hd 11 rfl) (kk hg)
    ·cases hj; exact ak rfl rfl (hI.vl hd 11 rfl) (kk hg)
    ·cases hj; exact ak rfl rfl (hI.vl hd 11 rfl) (kk hg)
    ·cases hj; exact ak rfl rfl (hI.vl hd 11 rfl) (kk hg)
    ·cases hj; exact ak rfl rfl (hI.vl hd 11 rfl) (kk hg)
    ·cases hj; exact ak rfl rfl (hI.vl hd 11 rfl) (kk hg)
    ·cases hj; exact ak rfl rfl (hI.vl hd 11 rfl) (kk hg)
    ·cases hj; exact ak rfl rfl (hI.vl hd 11 rfl) (kk hg)
    ·cases hj; exact ak rfl rfl (hI.vl hd 11 rfl) (kk hg)
    ·cases hj; exact ak rfl rfl (hI.vl hd 11 rfl) (kk hg)
    ·cases hj; have e1 := hI.vl hd 26 rfl; exact zC rfl rfl (xH rfl (hI.vl hd 11 rfl) (kk hg))
    omega
   case done =>
    intro A W hI
    have hg := hI.g
    have s43 := hI.ls 27 rfl rfl
    have hA := hI.frame [16, 17, 18, 19, 20, 21, 22, 23, 24, 25, 26, 27, 28, 29, 30, 31, 32, 33, 34, 35, 36, 37, 38, 39, 40, 41, 42, 43] (by kernel_rfl)
    rw [hA]
    simp only [qJ, List.foldl_cons, List.foldl_nil, s43, Act.put, List.setIfInBounds_toArray, List.set_cons_zero, List.set_cons_succ]
    clear hA hI s43
    go_wp2_with (first
     | (refine zFk rfl rfl rfl hg.own ?_)
     | (refine zC4 rfl rfl rfl rfl hg.res ?_; rintro w9 r9 o9; have hB9 := zA hg.bel o9 (Nat.le_refl _)))
    refine zDv rfl rfl r9 rfl ?_
    exact ⟨by rw [HR.out], hB9⟩
end
open Draw
theorem zTy (m n : Int) (w : World) : Calls Tryz.prog 59 #[.int .i64 m, .int .i64 n] w fun e w' => (∃ z : Int, e = .returned (.int .i64 z)) ∧ w' = w := by
 by_cases h : n < m
 ·go_enter Tryz.func59, Tryz.ntmps59
  go_wp2
  go_ret
  exact ⟨⟨_, rfl⟩, rfl⟩
 ·go_enter Tryz.func59, Tryz.ntmps59
  go_wp2
  go_ret
  exact ⟨⟨_, rfl⟩, rfl⟩
section
variable {w0 : World} {p : Nat} {a : Option Addr} {len cap : Nat}
theorem zCw (q : Int) (w : World) (h : qI p a len cap w0 w) :
  Calls Tryz.prog 70 #[.pointer (some ⟨p, 0, none⟩), .int .i64 q] w fun e w' => ∃ m : M3, e = .returned m.val ∧ Onto p w w' ∧ qI p a len cap w0 w' := by
 have hOn : ∀ w', qI p a len cap w w' → Onto p w w' ∧ qI p a len cap w0 w' := fun w' hd => ⟨hd.onto, h.onto.trans hd.onto, hd.cur⟩
 have HO : Hid (∀ w', qI p a len cap w w' → Onto p w w' ∧ qI p a len cap w0 w') := hOn
 have hc := h.cur.drawn
 have hold : OldC p a len w := ⟨h.cur.lt, h.cur.code.lt⟩
 have HL : Hid (OldC p a len w) := hold
 have hpl := h.cur.lt
 clear hOn h hold
 go_enter Tryz.func70, Tryz.ntmps70
 go_wp2_with (refine zFs rfl rfl ?_; intro w1 z1 hb1; have d1 := hc.below hb1; have l1 := z1.lt)
 go_at_call 69
 refine (zBv 1 3 _ d1 (by omega) (by omega) (by omega)).mono ?_
 rintro e w2 ⟨x, rfl, hx, o2, d2⟩
 have z2 := z1.onto o2 (by omega)
 by_cases h3 : x = 3
 ·subst h3
  go_wp2_with (first
   | (go_at_call 71; refine (below_any 256 _ d2 (by omega)).mono ?_; rintro e w3 ⟨r, rfl, hr, o3, d3⟩; have z3 := z2.onto o3 (by omega))
   | (refine zC4 (m := ⟨q, 3, r⟩) rfl rfl rfl rfl z3 ?_; rintro w4 r4 o4))
  refine zDv rfl rfl r4 rfl ?_
  exact ⟨_, rfl, HO.out _ (zQ d3 o4 (Nat.le_refl _) HL.out)⟩
 ·go_wp2_with (first
   | (go_at_call 71; refine (below_any 2 _ d2 (by omega)).mono ?_; rintro e w3 ⟨r, rfl, hr, o3, d3⟩; have z3 := z2.onto o3 (by omega))
   | (refine zC4 (m := ⟨q, x, r⟩) rfl rfl rfl rfl z3 ?_; rintro w4 r4 o4))
  refine zDv rfl rfl r4 rfl ?_
  exact ⟨_, rfl, HO.out _ (zQ d3 o4 (Nat.le_refl _) HL.out)⟩
theorem zSp (q : Int) (w : World) (h : qI p a len cap w0 w) :
  Calls Tryz.prog 133 #[.pointer (some ⟨p, 0, none⟩), .int .i64 q] w fun e w' => ∃ v l, e = .returned v ∧ OwnF fM w.heap.size w' v l ∧ l.length ≤ 4 ∧ Onto p w w' ∧ qI p a len cap w0 w' := by
 have HO : Hid (∀ w', qI p a len cap w w' → Onto p w w' ∧ qI p a len cap w0 w') := show ∀ _, _ from fun w' hd => ⟨hd.onto, h.onto.trans hd.onto, hd.cur⟩
 have hc := h.cur.drawn
 have hpl := h.cur.lt
 clear h
 have hlit := xO fM okM w.heap.size w #[] [] rfl (by decide) (Nat.le_refl _)
 have hal : Below w.heap.size w (w.alloc (.cells #[] 40)) := (Below.refl _ _).alloc (Nat.le_refl _) _
 have HP : Hid (p < w.heap.size) := hpl
 go_enter Tryz.func133, Tryz.ntmps133
 go_wp2_with fail
 go_at_call 71
 refine (below_any 5 _ (hc.below hal) (by omega)).mono ?_
 rintro e w2 ⟨r, rfl, hr, o2, d2⟩
 have hl2 := hlit.onto o2 (by simp [Value.ownBlock]; omega)
 clear hlit hal hc o2
 have HI : Hid (OwnF fM w.heap.size w2 (.slice (some ⟨w.heap.size, 0, none⟩) 0 0) [] ∧ qI p a len cap w w2) := ⟨hl2, d2⟩
 clear hl2 d2
 go_wp2_with fail
 go_loopw [5, 6] (fun lv iv wr => ∃ (v : Value) (l : List M3) (k : Nat), v = lv ∧ iv = .int .i64 (k : Int) ∧ OwnF fM w.heap.size wr v l ∧ l.length + k ≤ 4 ∧ qI p a len cap w wr) (fun _ iv _ => (intOf iv).toNat)
 case atStart => exact ⟨_, [], r, rfl, rfl, HI.out.1, by simp; omega, HI.out.2⟩
 case round =>
  clear HI
  obtain ⟨v, l, k, rfl, rfl, hl, hn, hd⟩ := hrel
  have HLk : Hid (OwnF fM w.heap.size wr v l ∧ l.length + k ≤ 4) := ⟨hl, hn⟩
  clear hl hn
  by_cases hk : 0 < k
  ·have hone := (HLk.out.1.sl okM).one
   have hk4 : k ≤ 4 := by have := HLk.out.2; omega
   go_wp2_with fail
   go_at_call 71
   refine (below_any 12 _ hd (by omega)).mono ?_
   rintro e w3 ⟨r1, rfl, hr1, o3, d3⟩
   have h3 := HLk.out.1.onto o3 (fun e => by have := (HLk.out.1.lt _ e).1; have := HP.out; omega)
   have HH3 : Hid (OwnF fM w.heap.size w3 v l) := h3
   clear h3 o3 hd
   go_wp2_with fail
   go_at_call 70
   refine (zCw _ _ d3).mono ?_
   rintro e w4 ⟨m, rfl, o4, d4⟩
   have h4 := HH3.out.onto o4 (fun e => by have := (HH3.out.lt _ e).1; have := HP.out; omega)
   have HH4 : Hid (OwnF fM w.heap.size w4 v l) := h4
   clear h4 o4 d3
   go_wp2_with fail
   go_at_call 78
   refine (zGr _ l m _ (HH4.out.sl okM) (by have := HLk.out.2; omega)).mono ?_
   rintro e w5 ⟨v5, rfl, h5, b5⟩
   have d5 := d4.below b5
   have HH5 : Hid (OwnF fM w.heap.size w5 v5 (zBc l m)) := h5.mono (by have := d4.onto.size; omega)
   clear h5 b5 d4
   go_wp2_with fail
   go_roundw
   case rel => exact ⟨v5, zBc l m, k - 1, rfl, by go_num, HH5.out, by rw [zE7]; have := HLk.out.2; omega, d5⟩
   case measure => simp [intOf]; omega
  ·go_wp2
   go_ret
   exact ⟨v, l, rfl, HLk.out.1, by have := HLk.out.2; omega, HO.out _ hd⟩
theorem zAp (t k v : Int) (w : World) : Below w.heap.size w (w.alloc (.cells #[.int .i64 t, .int .i64 k, .int .i64 v] 40)) ∧ OwnF fM w.heap.size (w.alloc (.cells #[.int .i64 t, .int .i64 k, .int .i64 v] 40)) (.slice (some ⟨w.heap.size, 0, none⟩) 1 1) [⟨t, k, v⟩] :=
 ⟨(Below.refl _ _).alloc (Nat.le_refl _) _, xO fM okM w.heap.size w #[.int .i64 t, .int .i64 k, .int .i64 v] [⟨t, k, v⟩] rfl (by unfold maxLen; simp) (Nat.le_refl _)⟩
structure Ld (base p : Nat) (a : Option Addr) (len cap : Nat) (w0 : World) (v : Value) (l : List M3) (W : World) : Prop where
 o : OwnF fM base W v l
 d : qI p a len cap w0 W
 c : OldC p a len w0
 b : w0.heap.size ≤ base
 s : base ≤ W.heap.size
theorem Ld.onto {base : Nat} {v : Value} {l : List M3} {W W' : World} (h : Ld base p a len cap w0 v l W) (o : Onto p W W') (d : qI p a len cap w0 W') : Ld base p a len cap w0 v l W' :=
 ⟨h.o.onto o (fun e => by have := (h.o.lt _ e).1; have := h.c.1; have := h.b; omega), d, h.c, h.b, Nat.le_trans h.s o.size⟩
theorem Ld.below {base : Nat} {v : Value} {l : List M3} {W W' : World} (h : Ld base p a len cap w0 v l W) (b : Below W.heap.size W W') : Ld base p a len cap w0 v l W' :=
 ⟨h.o.below b, h.d.below b, h.c, h.b, Nat.le_trans h.s b.size⟩
theorem Ld.grown {base : Nat} {v v' : Value} {l l' : List M3} {W W' : World} (h : Ld base p a len cap w0 v l W) (o : OwnF fM base W' v' l') (g : W.grownBy W' v.ownBlock) : Ld base p a len cap w0 v' l' W' := by
 refine ⟨o, ?_, h.c, h.b, Nat.le_trans h.s g.size⟩
 cases hv : v.ownBlock with
 | none =>
  rw [hv] at g
  exact h.d.below ((Below.refl W.heap.size W).grown g (Nat.le_refl _) (fun k hk => by cases hk))
 | some k =>
  rw [hv] at g
  have hk := (h.o.lt k hv).1
  exact zQ h.d ⟨g.os, g.tape, g.output, g.size, fun j hj hlt => g.block j hlt (fun e => hj (Option.some.inj e))⟩ (Nat.le_trans h.b hk) h.c
theorem zD8 (q : Int) (w : World) (h : qI p a len cap w0 w) :
  Calls Tryz.prog 58 #[.pointer (some ⟨p, 0, none⟩), .int .i64 q] w fun e w' => ∃ v l, e = .returned v ∧ OwnF fM w.heap.size w' v l ∧ l.length ≤ 300 ∧ Onto p w w' ∧ qI p a len cap w0 w' := by
 have HO : Hid (∀ v l w', Ld w.heap.size p a len cap w v l w' → l.length ≤ 300 → ∃ v' l', Ending.returned v = .returned v' ∧ OwnF fM w.heap.size w' v' l' ∧ l'.length ≤ 300 ∧ Onto p w w' ∧ qI p a len cap w0 w') := show ∀ _, _ from fun v l w' hL hn => ⟨v, l, rfl, hL.o, hn, hL.d.onto, h.onto.trans hL.d.onto, hL.d.cur⟩
 have hc := h.cur.drawn
 have hpl := h.cur.lt
 have HC : Hid (OldC p a len w) := ⟨h.cur.lt, h.cur.code.lt⟩
 clear h
 go_enter Tryz.func58, Tryz.ntmps58
 go_wp2_with fail
 go_at_call 133
 refine (zSp _ _ hc).mono ?_
 rintro e w1 ⟨v, l, rfl, ho1, hn1, o1, d1⟩
 have L1 : Ld w.heap.size p a len cap w v l w1 := ⟨ho1, d1, HC.out, Nat.le_refl _, o1.size⟩
 clear hc ho1 o1 d1
 go_wp2_with fail
 go_at_call 67
 refine (vS 8 _ L1.d (by omega)).mono ?_
 rintro e w2 ⟨r, rfl, o2, d2⟩
 have L2 := L1.onto o2 d2
 clear L1 o2 d2
 cases r
 ·go_wp2
  go_ret
  exact HO.out v l _ L2 (by omega)
 ·go_wp2_with fail
  go_at_call 71
  refine (below_any 4 _ L2.d (by omega)).mono ?_
  rintro e w3 ⟨r, rfl, hr, o3, d3⟩
  have L3 := L2.onto o3 d3
  clear L2 o3 d3
  have hr4 : r = 0 ∨ r = 1 ∨ r = 2 ∨ r = 3 := by omega
  rcases hr4 with rfl | rfl | rfl | rfl
  ·have HL3 : Hid (Ld w.heap.size p a len cap w v l w3) := L3
   clear L3
   go_wp2_with fail
   go_at_call 68
   refine (zB5 1000000100 _ HL3.out.d (by omega) (by omega)).mono ?_
   rintro e w4 ⟨x, rfl, hx, o4, d4⟩
   have L4 := HL3.out.onto o4 d4
   go_wp2_with fail
   go_at_call 70
   refine (zCw _ _ L4.d).mono ?_
   rintro e w5 ⟨⟨t, k, u⟩, rfl, o5, d5⟩
   have L5 := L4.onto o5 d5
   obtain ⟨b6, lit6⟩ := zAp t k u w5
   have L6 := L5.below b6
   rw [zKm]
   go_wp2_with (at_builtin; refine appF okM rfl (.tmp 15) (.tmp 20) rfl w.heap.size l [⟨t, k, u⟩] L6.o (lit6.sl okM) (by simp; omega) L6.s ?_; intro v7 w7 o7 g7; have L7 := L6.grown o7 g7)
   go_ret
   exact HO.out _ _ _ L7 (by simp; omega)
  ·have HL3 : Hid (Ld w.heap.size p a len cap w v l w3) := L3
   clear L3
   go_wp2_with fail
   go_at_call 69
   refine (zBv 0 4 _ HL3.out.d (by omega) (by omega) (by omega)).mono ?_
   rintro e w4 ⟨x, rfl, hx, o4, d4⟩
   have L4 := HL3.out.onto o4 d4
   go_wp2_with fail
   go_at_call 69
   refine (zBv (-1) 2 _ L4.d (by omega) (by omega) (by omega)).mono ?_
   rintro e w5 ⟨y, rfl, hy, o5, d5⟩
   have L5 := L4.onto o5 d5
   go_wp2_with (at_builtin; refine appF okM rfl (.tmp 24) (.tmp 32) rfl w.heap.size l [⟨_, x, y⟩] (L5.below (zAp _ x y _).1).o ((zAp _ x y _).2.sl okM) (by simp; omega) (L5.below (zAp _ x y _).1).s ?_; intro v7 w7 o7 g7; have L7 := (L5.below (zAp _ x y _).1).grown o7 g7)
   go_ret
   exact HO.out _ _ _ L7 (by simp; omega)
  ·have HL3 : Hid (Ld w.heap.size p a len cap w v l w3) := L3
   clear L3
   go_wp2_with fail
   go_at_call 70
   refine (zCw _ _ HL3.out.d).mono ?_
   rintro e w5 ⟨⟨t, k, u⟩, rfl, o5, d5⟩
   have L5 := HL3.out.onto o5 d5
   obtain ⟨b6, lit6⟩ := zAp t k u w5
   have L6 := L5.below b6
   rw [zKm]
   go_wp2_with (at_builtin; refine appF okM rfl (.tmp 36) (.tmp 40) rfl w.heap.size l [⟨t, k, u⟩] L6.o (lit6.sl okM) (by simp; omega) L6.s ?_; intro v7 w7 o7 g7; have L7 := L6.grown o7 g7)
   go_ret
   exact HO.out _ _ _ L7 (by simp; omega)
  ·have HL3 : Hid (Ld w.heap.size p a len cap w v l w3 ∧ l.length ≤ 4) := ⟨L3, hn1⟩
   clear L3 hn1
   go_wp2_with fail
   go_loopg [5] 201 (fun n lv wr => ∃ (v : Value) (l : List M3), v = lv ∧ Ld w.heap.size p a len cap w v l wr ∧ 201 ≤ l.length + n ∧ l.length + n ≤ 205)
   case atStart => exact ⟨v, l, rfl, HL3.out.1, by omega, by have := HL3.out.2; omega⟩
   case round =>
    clear HL3
    obtain ⟨v, l, rfl, hL, h1, h2⟩ := hrel
    have HL : Hid (Ld w.heap.size p a len cap w v l wr) := hL
    obtain ⟨ao, cq, rfl, -, hlc, hcm, -⟩ := hL.o.sl okM
    unfold maxLen at hcm
    clear hL
    go_wp2_with fail
    go_at_call 71
    refine (below_any 2 _ HL.out.d (by omega)).mono ?_
    rintro e w4 ⟨x, rfl, hx, o4, d4⟩
    have L4 := HL.out.onto o4 d4
    by_cases hlt : (l.length : Int) < 200 + (x : Int)
    ·have hp : 0 < gk := by omega
     go_wp2_with (at_builtin; refine appF okM rfl (.tmp 50) (.tmp 54) rfl w.heap.size l [⟨_, 3, 0⟩] (L4.below (zAp _ 3 0 _).1).o ((zAp _ 3 0 _).2.sl okM) (by simp; omega) (L4.below (zAp _ 3 0 _).1).s ?_; intro v7 w7 o7 g7; have L7 := (L4.below (zAp _ 3 0 _).1).grown o7 g7)
     go_roundg (gk - 1)
     case measure => omega
     case rel => exact ⟨v7, _, rfl, L7, by simp; omega, by simp; omega⟩
    ·go_wp2
     go_ret
     exact HO.out _ _ _ L4 (by omega)
end
theorem zG8 (a : Option Addr) (len cap : Nat) (w : World) (hc : jW w a len) (hl : len ≤ 4096) :
  Calls Tryz.prog 17 #[.slice a len cap] w fun e w' => ∃ v l, e = .returned v ∧ OwnF fM w.heap.size w' v l ∧ l.length ≤ 300 ∧ Below w.heap.size w w' := by
 go_enter Tryz.func17, Tryz.ntmps17
 go_wp2_with fail
 go_at_call 56
 refine (zKi a len cap _ hc hl).mono ?_
 rintro e w2 ⟨rfl, hb2, hcur⟩
 go_wp2_with fail
 go_at_call 58
 refine (zD8 50 _ hcur.drawn).mono ?_
 rintro e w3 ⟨v, l, rfl, ho3, hn3, o3, d3⟩
 have HH : Hid (OwnF fM w.heap.size w3 v l ∧ l.length ≤ 300 ∧ Below w.heap.size w w3) := ⟨ho3.mono hb2.size, hn3, zA hb2 o3 (Nat.le_refl _)⟩
 clear ho3 hn3 o3 d3
 go_wp2
 go_ret
 exact ⟨v, l, rfl, HH.out⟩
theorem zHt {a : Act} {w : World} {fn : Func} {R : Ending → World → Prop} {q u : Tmp} {g : Nat} {m : M3} {z : Value} (h : fn.results = #[.tmp u, .cell q 40]) (hp : a.tmps.getD q undef = .pointer (some ⟨g, 0, none⟩)) (hr : jQ w g m) (hde : a.defers = []) (hv : a.tmps.getD u undef = z) (hR : R (.returned (.tuple #[z, m.val])) w) :
  bodyPost Tryz.prog fn R .ret a w := by
 subst hv
 refine bodyPost_ret ?_ hde hR
 have hp' : a.tmps[q]?.getD undef = .pointer (some ⟨g, 0, none⟩) := by simpa using hp
 simp [results, h, hp', asAddr, run_loadVar_row w g 40 40 _ (0, 0) _ hr.row Tryz.underlying40 rfl jJ, M3.val]
theorem zFo (a : Option Addr) (len cap : Nat) (w : World) (hc : jW w a len) (hl : len ≤ 4096) :
  Calls Tryz.prog 14 #[.slice a len cap] w fun e w' => ∃ v l, ∃ m : M3, e = .returned (.tuple #[v, m.val]) ∧ OwnF fM w.heap.size w' v l ∧ l.length ≤ 300 ∧ Below w.heap.size w w' := by
 go_enter Tryz.func14, Tryz.ntmps14
 go_wp2_with (refine zFs rfl rfl ?_; intro w1 z1 hb1; have l1 := z1.lt)
 go_at_call 56
 refine (zKi a len cap _ (hc.below hb1) hl).mono ?_
 rintro e w2 ⟨rfl, hb2, hcur⟩
 have z2 := z1.below hb2
 have hB2 := zD hb1 hb2
 have s2 := hb2.size
 have s1 := hb1.size
 have HC : Hid (OldC w1.heap.size a len w2) := ⟨hcur.lt, hcur.code.lt⟩
 go_wp2_with fail
 go_at_call 58
 refine (zD8 50 _ hcur.drawn).mono ?_
 rintro e w3 ⟨v, l, rfl, ho3, hn3, o3, d3⟩
 have L3 : Ld w2.heap.size w1.heap.size a len cap w2 v l w3 := ⟨ho3, d3, HC.out, Nat.le_refl _, o3.size⟩
 have z3 := z2.onto o3 (by omega)
 have HE : Hid (∀ w', Ld w2.heap.size w1.heap.size a len cap w2 v l w' → OwnF fM w.heap.size w' v l ∧ l.length ≤ 300 ∧ Below w.heap.size w w') := show ∀ _, _ from fun w' h => ⟨h.o.mono (by omega), hn3, zA hB2 h.d.onto (by omega)⟩
 clear ho3 hn3 o3 d3 hcur z2 z1 hB2 hb1 hb2
 go_wp2_with fail
 go_at_call 67
 refine (vS 8 _ L3.d (by omega)).mono ?_
 rintro e w4 ⟨r, rfl, o4, d4⟩
 have L4 := L3.onto o4 d4
 have z4 := z3.onto o4 (by omega)
 have hzz : w.heap.size < w2.heap.size := by omega
 clear L3 z3 o4 d4
 have HL4 : Hid (Ld w2.heap.size w1.heap.size a len cap w2 v l w4) := L4
 clear L4
 cases r
 ·go_wp2_with fail
  go_at_call 71
  refine (below_any 12 _ HL4.out.d (by omega)).mono ?_
  rintro e w5 ⟨r, rfl, hr, o5, d5⟩
  have L5 := HL4.out.onto o5 d5
  have z5 := z4.onto o5 (by omega)
  have HL5 : Hid (Ld w2.heap.size w1.heap.size a len cap w2 v l w5) := L5
  clear L5 o5 d5 z4
  go_wp2_with fail
  go_at_call 70
  refine (zCw _ _ HL5.out.d).mono ?_
  rintro e w6 ⟨m, rfl, o6, d6⟩
  have L6 := HL5.out.onto o6 d6
  have z6 := z5.onto o6 (by omega)
  have HL6 : Hid (Ld w2.heap.size w1.heap.size a len cap w2 v l w6) := L6
  clear L6 o6 d6 z5
  go_wp2_with (refine zC4 (m := m) rfl rfl rfl rfl z6 ?_; rintro w7 r7 o7)
  refine zHt rfl rfl r7 rfl rfl ?_
  have h6 := HL6.out
  have h7 := HE.out _ h6
  have hs6 := h6.s
  exact ⟨_, l, m, rfl, h7.1.onto o7 (fun e => by have := (h6.o.lt _ e).1; omega), h7.2.1, zA h7.2.2 o7 (Nat.le_refl _)⟩
 ·go_wp2_with fail
  go_at_call 68
  refine (zB5 1000000100 _ HL4.out.d (by omega) (by omega)).mono ?_
  rintro e w5 ⟨x, rfl, hx, o5, d5⟩
  have L5 := HL4.out.onto o5 d5
  have z5 := z4.onto o5 (by omega)
  have HL5 : Hid (Ld w2.heap.size w1.heap.size a len cap w2 v l w5) := L5
  clear L5 o5 d5 z4 hx
  go_wp2_with fail
  go_at_call 69
  refine (zBv 0 4 _ HL5.out.d (by omega) (by omega) (by omega)).mono ?_
  rintro e w6 ⟨y, rfl, hy, o6, d6⟩
  have L6 := HL5.out.onto o6 d6
  have z6 := z5.onto o6 (by omega)
  have HL6 : Hid (Ld w2.heap.size w1.heap.size a len cap w2 v l w6) := L6
  clear L6 o6 d6 z5 hy
  go_wp2_with fail
  go_at_call 69
  refine (zBv (-1) 2 _ HL6.out.d (by omega) (by omega) (by omega)).mono ?_
  rintro e w8 ⟨u, rfl, hu, o8, d8⟩
  have L8 := HL6.out.onto o8 d8
  have z8 := z6.onto o8 (by omega)
  have HL8 : Hid (Ld w2.heap.size w1.heap.size a len cap w2 v l w8) := L8
  clear L8 o8 d8 z6 hu
  go_wp2_with (refine zC4 (m := ⟨x, y, u⟩) rfl rfl rfl rfl z8 ?_; rintro w7 r7 o7)
  refine zHt rfl rfl r7 rfl rfl ?_
  have h7 := HE.out _ HL8.out
  have h8 := HL8.out
  exact ⟨_, l, _, rfl, h7.1.onto o7 (fun e => by have := (h8.o.lt _ e).1; omega), h7.2.1, zA h7.2.2 o7 (Nat.le_refl _)⟩
def KLst (b : Nat) (v : Value) (W : World) : Prop := ∃ l : List M3, l.length ≤ 300 ∧ OwnF fM b W v l
theorem zAj {X : Nat → Prop} (b : Nat) (h : ∀ k, X k → k < b) : Bears X (KLst b) := fun v w w' ⟨l, hn, ho⟩ hr =>
 ⟨l, hn, ho.kept fun k hk => hr.2 k (fun hx => by have := h k hx; have := (ho.lt k hk).1; omega) (ho.lt k hk).2⟩
set_option maxRecDepth 20000 in
set_option maxHeartbeats 2000000 in
theorem zIn (a : Option Addr) (len cap : Nat) (w : World) (hc : jW w a len) (hl : len ≤ 4096) :
  Calls Tryz.prog 11 #[.slice a len cap] w fun e w' => ∃ x y M v l, e = .returned (.tuple #[Mc.val x y M, v]) ∧ MDr 0 w' x y M ∧ OwnF fM w.heap.size w' v l ∧ l.length ≤ 300 ∧ Below w.heap.size w w' := by
 go_enter Tryz.func11, Tryz.ntmps11
 go_wp2_with (refine zR rfl rfl ?_; intro w1 z1 hB1; have l1 := z1.lt)
 go_at_call 56
 refine (zKi a len cap _ (hc.below hB1) hl).mono ?_
 rintro e w2 ⟨rfl, hb2, hcur⟩
 have z2 := z1.below hb2
 have hB2 := hB1.trans (hb2.mono hB1.size)
 have hcl := hcur.lt
 have hcode := hcur.code.lt
 go_wp2_with fail
 go_at_call 57
 refine (zJc _ hcur.drawn).mono ?_
 rintro e w3 ⟨x, y, M, rfl, hm, ho3, hd3⟩
 have z3 := z2.onto ho3 (by omega)
 have hB3 := zA hB2 ho3 (by have := hB1.size; omega)
 have s2 := hb2.size
 have s3 := ho3.size
 have hP : Pd w w2 w1.heap.size a len w3.heap.size w.heap.size (w2.heap.size + 1) := ⟨fun h0 x hx e => by have := hc.lt h0 x hx; omega, Nat.le_refl _, by omega, by omega, by omega, by omega, by omega⟩
 go_wp2_with (first
  | (refine zR rfl rfl ?_; intro w4 z4 hB4; have l4 := z4.lt)
  | (refine zL rfl rfl rfl rfl z4 (zE0 hm.s1) (zE0 hm.s2) ?_; rintro w5 z5 o5 -; have hG : Gdm w w2 w1.heap.size a len cap w3.heap.size w.heap.size (w2.heap.size + 1) x y M w5 := ⟨(hd3.cur.below hB4).onto o5 (by omega) (fun h0 x hx e => by have := hcode h0 x hx; omega), z5, ⟨_, rfl, (z3.below hB4).onto o5 (by omega)⟩, zTx hm hB4 o5, zA (hB3.trans (hB4.mono hB3.size)) o5 (by have := hB3.size; omega)⟩))
 have hw12 : w1.heap.size < w2.heap.size := by omega
 have hw1 : w.heap.size < w2.heap.size := by omega
 refine xZ (by kernel_rfl) (by kernel_rfl) (fun W => Gdm w w2 w1.heap.size a len cap w3.heap.size w.heap.size (w2.heap.size + 1) x y M W)
  (kinds [KIs (M.val x y), KIs (.pointer (some ⟨w1.heap.size, 0, none⟩)), KIs (.pointer (some ⟨w3.heap.size, 24, none⟩)), KIs (.int .i64 M.k), KInt, KInt, KLst w2.heap.size, KRow w.heap.size (M.cells x y) 30, KLst w2.heap.size])
  (steps 7 (fun k => k = w.heap.size) (fun k => k = w1.heap.size)) (by kernel_rfl) (vZ ?hY ?hX) hG.drew ?step ?done
 case hY =>
  intro K hK
  simp only [List.mem_cons, List.not_mem_nil, or_false] at hK
  rcases hK with rfl | rfl | rfl | rfl | rfl | rfl | rfl | rfl | rfl
  all_goals first | exact zO _ _ | exact bears_any _ | exact zM _ | exact xX _ _ _ _ (by omega) | exact zAj _ (fun k e => by omega)
 case hX =>
  intro ix K hK hne
  rcases ix with _ | _ | _ | _ | _ | _ | _ | _ | _ | ix
  ·cases hK; first | exact zO _ _ | exact bears_any _ | exact zM _ | exact xX _ _ _ _ (by omega) | exact zAj _ (fun k e => by omega)
  ·cases hK; first | exact zO _ _ | exact bears_any _ | exact zM _ | exact xX _ _ _ _ (by omega) | exact zAj _ (fun k e => by omega)
  ·cases hK; first | exact zO _ _ | exact bears_any _ | exact zM _ | exact xX _ _ _ _ (by omega) | exact zAj _ (fun k e => by omega)
  ·cases hK; first | exact zO _ _ | exact bears_any _ | exact zM _ | exact xX _ _ _ _ (by omega) | exact zAj _ (fun k e => by omega)
  ·cases hK; first | exact zO _ _ | exact bears_any _ | exact zM _ | exact xX _ _ _ _ (by omega) | exact zAj _ (fun k e => by omega)
  ·cases hK; first | exact zO _ _ | exact bears_any _ | exact zM _ | exact xX _ _ _ _ (by omega) | exact zAj _ (fun k e => by omega)
  ·cases hK; first | exact zO _ _ | exact bears_any _ | exact zM _ | exact xX _ _ _ _ (by omega) | exact zAj _ (fun k e => by omega)
  ·exact absurd rfl hne
  ·cases hK; first | exact zO _ _ | exact bears_any _ | exact zM _ | exact xX _ _ _ _ (by omega) | exact zAj _ (fun k e => by omega)
  simp at hK
 case step =>
  intro L ix o A W hi hI hL hd
  have hin : ix < 9 := qB hi
  have hsz : A.tmps.size = 17 := hI.size
  have hS := hI.g
  rcases ix with _ | _ | _ | _ | _ | _ | _ | _ | _ | ix
  ·cases hi; exact zC rfl rfl (wp_load_row _ _ rfl _ (hI.ol 5 rfl) _ _ _ _ hS.row.row Tryz.underlying30 rfl jB ⟨_, rfl, rfl, hS, zK (by decide) (Rel.refl _ _)⟩)
  ·cases hi; exact am rfl rfl rfl ⟨_, rfl, (hI.ol 4 rfl), hS, zK (by decide) (Rel.refl _ _)⟩
  ·cases hi; exact zC rfl rfl (zH (x := .tmp 5) (hI.ol 5 rfl) rfl (by kernel_rfl) ⟨_, rfl, rfl, hS, zK (by decide) (Rel.refl _ _)⟩)
  ·cases hi; have e0 : A.eval (.tmp 12) = .pointer (some ⟨w3.heap.size, 24, none⟩) := hI.get hd 2 12 rfl (by kernel_rfl)
   have kk : W.cell? ⟨w3.heap.size, 24, none⟩ = some (.int .i64 M.k) := hS.row.cell 24
   exact zC rfl rfl (zN rfl Tryz.underlying2 e0 kk ⟨_, rfl, rfl, hS, zK (by decide) (Rel.refl _ _)⟩)
  ·cases hi; have e0 : A.eval (.tmp 13) = .int .i64 M.k := hI.get hd 3 13 rfl (by kernel_rfl)
   exact zC rfl rfl (qP (v := .int .i64 (IntKind.i64.wrap (M.k - 1))) (vy := .int .i64 1) rfl e0 rfl (fun w => by simp [go_sem]) ⟨_, rfl, ⟨_, rfl⟩, hS, zK (by decide) (Rel.refl _ _)⟩)
  ·cases hi; obtain ⟨z, e0⟩ : KInt (A.eval (.tmp 14)) W := hI.get hd 4 14 rfl (by kernel_rfl)
   refine zC rfl rfl (zS (args := [.const (.int .i64 0), .tmp 14]) rfl Tryz.func59 (by kernel_rfl) (by kernel_rfl) ?_)
   simp only [List.map_cons, List.map_nil, e0]
   refine (zTy 0 z W).mono ?_
   rintro e w7 ⟨⟨z7, rfl⟩, rfl⟩
   exact ⟨_, rfl, _, rfl, ⟨z7, rfl⟩, hS, zK (by decide) (Rel.refl _ _)⟩
  ·cases hi; have e0 : A.eval (.tmp 11) = .pointer (some ⟨w1.heap.size, 0, none⟩) := hI.get hd 1 11 rfl (by kernel_rfl)
   obtain ⟨z, e1⟩ : KInt (A.eval (.tmp 15)) W := hI.get hd 5 15 rfl (by kernel_rfl)
   refine zC rfl rfl (zS rfl Tryz.func58 (by kernel_rfl) (by kernel_rfl) ?_)
   simp only [List.map_cons, List.map_nil, e0, e1]
   refine (zD8 z W hS.cur.drawn).mono ?_
   rintro e w7 ⟨v7, l7, rfl, ho7', hn7, ho7, hd7⟩
   have hlw := hS.row.lt
   exact ⟨_, rfl, _, rfl, ⟨l7, hn7, ho7'.mono (by omega)⟩, hS.onto hP ho7 hd7.cur, zK (by decide) (Rel.onto ho7 rfl)⟩
  ·cases hi; have e1 : A.eval (.tmp 10) = M.val x y := hI.get hd 0 10 rfl (by kernel_rfl)
   obtain ⟨oc, hoc, hr⟩ := hS.res
   have hon : Onto w.heap.size W (W.setRow w.heap.size (M.cells x y)) := jZ _
   have hn := hP.n1
   have hn2 := hP.n2
   have hn5 := hP.n5
   have hn3 := hP.n3
   exact zC rfl rfl (wp_store_row _ _ _ rfl _ _ (hI.ol 2 rfl) e1 _ _ hr.row jB hoc (zDj (zE0 hS.md.s1) (zE0 hS.md.s2) M) ⟨_, rfl, setRow_heap W _ _ _ _ _ hr.row, ⟨hS.cur.onto hon (by omega) hP.code, hS.row.onto hon (by omega), ⟨_, rfl, Row.of (setRow_heap W _ _ _ _ _ hr.row)⟩, hS.md.onto hon (by omega), zA hS.bel hon (Nat.le_refl _)⟩, zAu (Rel.onto hon rfl)⟩)
  ·cases hi; have ez : KLst w2.heap.size (A.eval (.tmp 16)) W := hI.get hd 6 16 rfl (by kernel_rfl); exact zC rfl rfl (qC rfl ⟨_, rfl, ez, hS, zK (by decide) (Rel.refl _ _)⟩)
  omega
 case done =>
  intro A W hI
  have hS := hI.g
  obtain ⟨l3, hn3, ho3'⟩ : KLst w2.heap.size (A.tmps.getD 3 undef) W := hI.slot 8 3 rfl rfl
  obtain ⟨v3, hv3⟩ : ∃ v3, A.tmps.getD 3 undef = v3 := ⟨_, rfl⟩
  rw [hv3] at ho3'
  obtain ⟨vv, hv⟩ := hI.eff 7 _ rfl rfl rfl
  have hrow : MRow W w.heap.size x y M := Row.of hv
  have hA := hI.frame [10, 11, 12, 13, 14, 15, 16, 3] (by kernel_rfl)
  rw [hA]
  simp only [qJ, List.foldl_cons, List.foldl_nil, hv3, Act.put, List.setIfInBounds_toArray, List.set_cons_zero, List.set_cons_succ]
  clear hA hI hv3
  have HE : Hid (OwnF fM w.heap.size W v3 l3 ∧ l3.length ≤ 300 ∧ MDr 0 W x y M ∧ Below w.heap.size w W) := ⟨ho3'.mono (by omega), hn3, hS.md.zero, hS.bel⟩
  clear ho3' hn3
  go_wp2
  refine qN rfl rfl hrow Tryz.underlying30 rfl jB rfl rfl ?_
  have h := HE.out
  exact ⟨x, y, M, v3, l3, rfl, h.2.2.1, h.1, h.2.1, h.2.2.2⟩
end Go.Proofs.YtamldhflkfbdnaaGreatDoor.Mem
namespace Go.Proofs.YtamldhflkfbdnaaGreatDoor.Mem
open Go.ChangeShapes Go.WideShapes Go.RowKit Base Num Slc Rw Tmr Srl Rom RomOf Opl Reg

def zMn : List FuncId := [247, 248, 249, 250, 251, 252, 253, 255, 256, 257, 259, 260, 262, 264, 265, 266, 268, 270, 272, 273, 275, 276, 277, 278, 279, 281, 282, 283, 284, 285, 286]
def fval (f : FuncId) : Value := .func (.func f) #[] #[]
def zIh : Array Value := (zMn.map fval).toArray
theorem zPu : Tryz.prog.built 223 (zMn.zipIdx.map fun x => (x.2, fval x.1)) = some zIh := by kernel_rfl
theorem zTm : Tryz.prog.underlying 223 = some (.array 31 222) := by kernel_rfl
theorem zMj : (Tryz.prog.info? 223).map (·.size) = some 31 := by kernel_rfl
theorem zWi : zIh.size = 31 := rfl
theorem fone : zIh.all (·.oneCell') = true := by kernel_rfl
section
variable {ops : Array Oper} {rest : List Oper} {o : Oper} {a : Act} {w : World} {Q : Exit → Act → World → Prop}
theorem zV3 (hgd : o.guard = none) (ho : o.op = .alloc 223)
  (h : ∀ w' cs, cs.size = 31 → Row w' w.heap.size cs 223 → Below w.heap.size w w' → wpList Tryz.prog ops Q rest (a.put o.dst (.pointer (some ⟨w.heap.size, 0, none⟩))) w') : wpList Tryz.prog ops Q (o :: rest) a w :=
 wpList_plain hgd fun _ hK => by
  have e : (execOp a.eval o).run Tryz.prog w = .ok (.value (.pointer (some ⟨w.heap.size, 0, none⟩))) (w.alloc (.cells (Array.replicate 31 .nilFunc) 223)) := by
   unfold execOp
   rw [ho]
   kernel_rfl
  unfold Oper.wp
  rw [e]
  exact hK _ _ (h _ _ (by simp) (Row.new _ _ _) ((Below.refl _ _).alloc (Nat.le_refl _) _))
set_option maxRecDepth 100000 in
theorem zV1 (hgd : o.guard = none) (ho : o.op = .build 223 ((zMn.zipIdx.map fun x => (x.2, Operand.func x.1)).toArray)) (h : wpList Tryz.prog ops Q rest (a.put o.dst (.agg zIh)) w) : wpList Tryz.prog ops Q (o :: rest) a w :=
 wpList_plain hgd fun _ hK => zAr (parts := zMn.zipIdx.map fun x => (x.2, Operand.func x.1)) (vals := zMn.zipIdx.map fun x => (x.2, fval x.1)) ho rfl zPu (hK _ _ h)
end
set_option maxRecDepth 100000 in
theorem zDo (w : World) : Calls Tryz.prog 206 #[] w fun e w' => e = .returned (.agg zIh) ∧ Below w.heap.size w w' := by
 go_enter Tryz.func206, Tryz.ntmps206
 go_wp2_with (first
  | (refine zV3 rfl rfl ?_; intro w1 cs hcs r1 hb1; have l1 := r1.lt)
  | (refine zV1 rfl rfl ?_)
  | (refine zBf rfl _ _ _ rfl rfl rfl r1 zMj (hcs.trans zWi.symm) fone ?_; intro w2 r2 o2 s2))
 refine qQ rfl rfl r2 zTm rfl zMj rfl ?_
 exact ⟨rfl, zA hb1 o2 (Nat.le_refl _)⟩
def Does (f : FuncId) (k : Nat) : Prop := ∀ (base : Nat) (w : World) (g : Nat) (x y : Value) (m : Mc) (n : Int), DSt base w g x y m n (-1) → m.ok = true → bok n = true →
 Calls Tryz.prog f #[.pointer (some ⟨g, 0, none⟩)] w fun e w' => e = .returned (.tuple #[]) ∧ Done base w w' g (m.does n k).1 n (m.does n k).2
structure zN0 (k : Nat) (f : FuncId) (fn : Func) : Prop where
 at_ : ∀ w, (Instr.index 223 (.agg zIh) (.int .i64 (k : Int))).run Tryz.prog w = .ok (fval f) w
 func : Tryz.prog.funcs[f]? = some fn
 nm : (fn.name == "runtime.NumGoroutine") = false
 body : fn.body.isNone = false
 does : Does f k
theorem zQ8 (k : Nat) (hk : k < 31) : ∃ f fn, zN0 k f fn := by
 match k with
 | 0 => exact ⟨247, Tryz.f247, fun w => by kernel_rfl, Tryz.func247, by kernel_rfl, by kernel_rfl, fun base w g x y m n h h1 h2 => zRa h h1 h2⟩
 | 1 => exact ⟨248, Tryz.f248, fun w => by kernel_rfl, Tryz.func248, by kernel_rfl, by kernel_rfl, fun base w g x y m n h h1 h2 => zRm h h1 h2⟩
 | 2 => exact ⟨249, Tryz.f249, fun w => by kernel_rfl, Tryz.func249, by kernel_rfl, by kernel_rfl, fun base w g x y m n h h1 h2 => zRl h h1 h2⟩
 | 3 => exact ⟨250, Tryz.f250, fun w => by kernel_rfl, Tryz.func250, by kernel_rfl, by kernel_rfl, fun base w g x y m n h h1 h2 => zRi h h1 h2⟩
 | 4 => exact ⟨251, Tryz.f251, fun w => by kernel_rfl, Tryz.func251, by kernel_rfl, by kernel_rfl, fun base w g x y m n h h1 h2 => zRh h h1 h2⟩
 | 5 => exact ⟨252, Tryz.f252, fun w => by kernel_rfl, Tryz.func252, by kernel_rfl, by kernel_rfl, fun base w g x y m n h h1 h2 => zSe h h1 h2⟩
 | 6 => exact ⟨253, Tryz.f253, fun w => by kernel_rfl, Tryz.func253, by kernel_rfl, by kernel_rfl, fun base w g x y m n h h1 h2 => zQ0 h h1 h2⟩
 | 7 => exact ⟨255, Tryz.f255, fun w => by kernel_rfl, Tryz.func255, by kernel_rfl, by kernel_rfl, fun base w g x y m n h h1 h2 => zSd h h1 h2⟩
 | 8 => exact ⟨256, Tryz.f256, fun w => by kernel_rfl, Tryz.func256, by kernel_rfl, by kernel_rfl, fun base w g x y m n h h1 h2 => zQ5 h h1 h2⟩
 | 9 => exact ⟨257, Tryz.f257, fun w => by kernel_rfl, Tryz.func257, by kernel_rfl, by kernel_rfl, fun base w g x y m n h h1 h2 => zTh h h1 h2⟩
 | 10 => exact ⟨259, Tryz.f259, fun w => by kernel_rfl, Tryz.func259, by kernel_rfl, by kernel_rfl, fun base w g x y m n h h1 h2 => zTi h h1 h2⟩
 | 11 => exact ⟨260, Tryz.f260, fun w => by kernel_rfl, Tryz.func260, by kernel_rfl, by kernel_rfl, fun base w g x y m n h h1 h2 => zQn h h1 h2⟩
 | 12 => exact ⟨262, Tryz.f262, fun w => by kernel_rfl, Tryz.func262, by kernel_rfl, by kernel_rfl, fun base w g x y m n h h1 h2 => zSv h h1 h2⟩
 | 13 => exact ⟨264, Tryz.f264, fun w => by kernel_rfl, Tryz.func264, by kernel_rfl, by kernel_rfl, fun base w g x y m n h h1 h2 => zTf h h1 h2⟩
 | 14 => exact ⟨265, Tryz.f265, fun w => by kernel_rfl, Tryz.func265, by kernel_rfl, by kernel_rfl, fun base w g x y m n h h1 h2 => zQb h h1 h2⟩
 | 15 => exact ⟨266, Tryz.f266, fun w => by kernel_rfl, Tryz.func266, by kernel_rfl, by kernel_rfl, fun base w g x y m n h h1 h2 => zQy h h1 h2⟩
 | 16 => exact ⟨268, Tryz.f268, fun w => by kernel_rfl, Tryz.func268, by kernel_rfl, by kernel_rfl, fun base w g x y m n h h1 h2 => zQx h h1 h2⟩
 | 17 => exact ⟨270, Tryz.f270, fun w => by kernel_rfl, Tryz.func270, by kernel_rfl, by kernel_rfl, fun base w g x y m n h h1 h2 => zR7 h h1 h2⟩
 | 18 => exact ⟨272, Tryz.f272, fun w => by kernel_rfl, Tryz.func272, by kernel_rfl, by kernel_rfl, fun base w g x y m n h h1 h2 => zSs h h1 h2⟩
 | 19 => exact ⟨273, Tryz.f273, fun w => by kernel_rfl, Tryz.func273, by kernel_rfl, by kernel_rfl, fun base w g x y m n h h1 h2 => zR3 h h1 h2⟩
 | 20 => exact ⟨275, Tryz.f275, fun w => by kernel_rfl, Tryz.func275, by kernel_rfl, by kernel_rfl, fun base w g x y m n h h1 h2 => zR0 h h1 h2⟩
 | 21 => exact ⟨276, Tryz.f276, fun w => by kernel_rfl, Tryz.func276, by kernel_rfl, by kernel_rfl, fun base w g x y m n h h1 h2 => zR2 h h1 h2⟩
 | 22 => exact ⟨277, Tryz.f277, fun w => by kernel_rfl, Tryz.func277, by kernel_rfl, by kernel_rfl, fun base w g x y m n h h1 h2 => zR1 h h1 h2⟩
 | 23 => exact ⟨278, Tryz.f278, fun w => by kernel_rfl, Tryz.func278, by kernel_rfl, by kernel_rfl, fun base w g x y m n h h1 h2 => zSy h h1 h2⟩
 | 24 => exact ⟨279, Tryz.f279, fun w => by kernel_rfl, Tryz.func279, by kernel_rfl, by kernel_rfl, fun base w g x y m n h h1 h2 => zQz h h1 h2⟩
 | 25 => exact ⟨281, Tryz.f281, fun w => by kernel_rfl, Tryz.func281, by kernel_rfl, by kernel_rfl, fun base w g x y m n h h1 h2 => zQ2 h h1 h2⟩
 | 26 => exact ⟨282, Tryz.f282, fun w => by kernel_rfl, Tryz.func282, by kernel_rfl, by kernel_rfl, fun base w g x y m n h h1 h2 => zQ3 h h1 h2⟩
 | 27 => exact ⟨283, Tryz.f283, fun w => by kernel_rfl, Tryz.func283, by kernel_rfl, by kernel_rfl, fun base w g x y m n h h1 h2 => zSn h h1 h2⟩
 | 28 => exact ⟨284, Tryz.f284, fun w => by kernel_rfl, Tryz.func284, by kernel_rfl, by kernel_rfl, fun base w g x y m n h h1 h2 => zSr h h1 h2⟩
 | 29 => exact ⟨285, Tryz.f285, fun w => by kernel_rfl, Tryz.func285, by kernel_rfl, by kernel_rfl, fun base w g x y m n h h1 h2 => zQw h h1 h2⟩
 | 30 => exact ⟨286, Tryz.f286, fun w => by kernel_rfl, Tryz.func286, by kernel_rfl, by kernel_rfl, fun base w g x y m n h h1 h2 => zR8 h h1 h2⟩
 | k + 31 => omega
section
variable {ops : Array Oper} {rest : List Oper} {o : Oper} {a : Act} {w : World} {Q : Exit → Act → World → Prop} {x y : Operand} {k : Nat} {f : FuncId} {fn : Func}
theorem zR4 (hgd : o.guard = none) (ho : o.op = .index 223 x y) (hx : a.eval x = .agg zIh) (hy : a.eval y = .int .i64 (k : Int)) (hs : zN0 k f fn)
  (h : wpList Tryz.prog ops Q rest (a.put o.dst (fval f)) w) : wpList Tryz.prog ops Q (o :: rest) a w :=
 wpList_plain hgd fun _ hK => by
  unfold Oper.wp execOp
  simp only [ho, hx, hy, Sem.run_bind, Result.andThen_ok, hs.at_ w]
  exact hK _ _ h
theorem zMy {tys : Array TypeId} (hgd : o.guard = none) (ho : o.op = .call { callee := .value x, args := #[y], argTypes := tys }) (hx : a.eval x = fval f) (hs : zN0 k f fn)
  (h : Calls Tryz.prog f #[a.eval y] w fun e w' => ∃ v, e = .returned v ∧ wpList Tryz.prog ops Q rest (a.put o.dst v) w') : wpList Tryz.prog ops Q (o :: rest) a w :=
 wpList_plain hgd fun _ hK => by
  unfold Oper.wp execOp
  have hn' : ¬ fn.name = "runtime.NumGoroutine" := by simpa using hs.nm
  have hb' : ¬ fn.body = none := fun e => by have := hs.body; simp [e] at this
  have e : (do let d ← resolve a.eval { callee := .value x, args := #[y], argTypes := tys } o.type; invoke d.target d.args : Sem Next).run Tryz.prog w = .ok (.enter f #[a.eval y]) w := by
   simp [resolve, hx, fval, Deferred.ofValue, invoke, callFunc, hs.func, hn', hb']
  rw [ho]
  show o.upon Tryz.prog a _ Q ((do let d ← resolve a.eval { callee := .value x, args := #[y], argTypes := tys } o.type; invoke d.target d.args : Sem Next).run Tryz.prog w)
  rw [e, Oper.upon_enter]
  refine h.mono ?_
  rintro e w' ⟨v, rfl, hk⟩
  exact hK _ _ hk
end
theorem zS2 (x y : Value) (m : Mc) : Tryz.prog.built 220 [(0, m.val x y), (2, .int .i64 (-1))] = some (jE x y m 0 (-1)) := by kernel_rfl
theorem jK.onto {w w' : World} {g : Nat} (h : jK w) (ho : Onto g w w') (hg : g ≠ 0) : jK w' := by
 have h0 := h.lt
 obtain ⟨t, fz, h⟩ := h
 exact ⟨t, fz, by rw [ho.block 0 (fun e => hg e.symm) h0]; exact h⟩
theorem zSt {x y : Value} (hx : x.oneCell' = true) (hy : y.oneCell' = true) (m : Mc) (n o : Int) : (jE x y m n o).all (·.oneCell') = true := by
 unfold Value.oneCell' at hx hy
 simp only [jE, List.all_toArray, List.all_cons, List.all_nil, Value.oneCell', hx, hy, Bool.and_true]
section
variable {ops : Array Oper} {rest : List Oper} {o : Oper} {a : Act} {w : World} {Q : Exit → Act → World → Prop} {p q : Operand} {g k : Nat} {x y : Value} {m : Mc}
theorem zU1 (hgd : o.guard = none) (ho : o.op = .alloc 220)
  (h : ∀ w', DRow w' w.heap.size zY zY Mc.nul 0 0 → Below w.heap.size w w' → wpList Tryz.prog ops Q rest (a.put o.dst (.pointer (some ⟨w.heap.size, 0, none⟩))) w') : wpList Tryz.prog ops Q (o :: rest) a w :=
 wpList_plain hgd fun _ hK => by
  have e : (execOp a.eval o).run Tryz.prog w = .ok (.value (.pointer (some ⟨w.heap.size, 0, none⟩))) (w.alloc (.cells (jE zY zY Mc.nul 0 0) 220)) := by
   unfold execOp
   rw [ho]
   kernel_rfl
  unfold Oper.wp
  rw [e]
  exact hK _ _ (h _ (Row.new _ _ _) ((Below.refl _ _).alloc (Nat.le_refl _) _))
theorem zU0 (hgd : o.guard = none) (ho : o.op = .build 220 #[(0, p), (2, .const (.int .i64 (-1)))]) (hp : a.eval p = m.val x y) (h : wpList Tryz.prog ops Q rest (a.put o.dst (.agg (jE x y m 0 (-1)))) w) : wpList Tryz.prog ops Q (o :: rest) a w :=
 wpList_plain hgd fun _ hK => zAr (parts := [(0, p), (2, .const (.int .i64 (-1)))]) (vals := [(0, m.val x y), (2, .int .i64 (-1))]) ho (by simp only [List.map_cons, List.map_nil, hp]; rfl) (zS2 x y m) (hK _ _ h)
theorem zUt {x0 y0 : Value} {m0 : Mc} {n0 o0 n1 o1 : Int} (hgd : o.guard = none) (ho : o.op = .store 220 p q) (hx : a.eval p = .pointer (some ⟨g, 0, none⟩)) (hy : a.eval q = .agg (jE x y m n1 o1)) (hr : DRow w g x0 y0 m0 n0 o0) (h1 : x.oneCell' = true) (h2 : y.oneCell' = true)
  (h : ∀ w', DRow w' g x y m n1 o1 → Onto g w w' → w'.heap.size = w.heap.size → wpList Tryz.prog ops Q rest (a.put o.dst undef) w') : wpList Tryz.prog ops Q (o :: rest) a w :=
 zBf hgd _ p q ho hx hy hr zOi rfl (zSt h1 h2 m _ _) h
theorem zEf {fn : Func} {R : Ending → World → Prop} {q u u2 : Tmp} {v v2 : Value} (h : fn.results = #[.cell q 30, .tmp u, .tmp u2]) (hp : a.tmps.getD q undef = .pointer (some ⟨g, 0, none⟩)) (hr : MRow w g x y m) (hde : a.defers = []) (hv : a.tmps.getD u undef = v) (hv2 : a.tmps.getD u2 undef = v2)
  (hR : R (.returned (.tuple #[m.val x y, v, v2])) w) : bodyPost Tryz.prog fn R .ret a w := qO h hp hr Tryz.underlying30 rfl jB hde hv hv2 hR
end
def Ans (base : Nat) (w' : World) (e : Ending) (r : Mc × Int × Int) : Prop := ∃ v, e = .returned (.tuple #[v, .int .i64 r.2.1, .int .i64 r.2.2]) ∧ MOwn base w' v r.1
theorem Ans.mk {base b : Nat} {w' : World} {x y : Value} {m : Mc} {c o : Int} (h1 : Own b w' x m.rom) (h2 : Own b w' y m.ram) (h3 : ∀ k, x.ownBlock = some k → y.ownBlock ≠ some k) (hb : base ≤ b) : Ans base w' (.returned (.tuple #[m.val x y, .int .i64 c, .int .i64 o])) (m, c, o) :=
 ⟨_, rfl, x, y, rfl, h1.mono hb, h2.mono hb, h3⟩

set_option maxHeartbeats 2000000 in
theorem zMr (v : Value) (m : Mc) (w : World) (hm : MSl w v m) (hok : m.ok = false) :
  Calls Tryz.prog 137 #[v] w fun e w' => Ans w.heap.size w' e (Mc.nul, 0, -1) ∧ Below w.heap.size w w' := by
 obtain ⟨vr, va, hv, hr, ha⟩ := hm
 go_enter Tryz.func137, Tryz.ntmps137
 go_wp2_with (first
   | (refine zP rfl rfl hv ?_; intro w0 r0 hB0)
   | (refine zR rfl rfl ?_; intro w1 z1 hB1; have r1 := r0.below hB1; have hB2 := hB0.trans (hB1.mono hB0.size); have l0 := r0.lt; have lz := z1.lt)
   | (refine zI rfl rfl rfl r1 ?_)
   | (go_at_call 23; refine (zX _ m _ ⟨vr, va, rfl, hr.below hB2, ha.below hB2⟩).mono ?_; rintro e w2 ⟨rfl, hb2⟩; rw [hok]; have hB3 := hB2.trans (hb2.mono hB2.size); have z2 := z1.below hb2; replace r1 := r1.below hb2)
   | (refine zGh rfl rfl ?_)
   | (refine zL rfl rfl rfl rfl z2 rfl rfl ?_; intro w6 r6 o6 s6))
 refine zEf rfl rfl r6 rfl rfl rfl ?_
 exact ⟨Ans.mk (Own.nil w.heap.size _) (Own.nil _ _) (by simp [Value.ownBlock]) (Nat.le_refl _), zA hB3 o6 (by omega)⟩
set_option maxHeartbeats 2000000 in
theorem zJg (v : Value) (m : Mc) (w : World) (hm : MSl w v m) (hok : m.ok = true) (hi : (m.h || m.s) = true) :
  Calls Tryz.prog 137 #[v] w fun e w' => Ans w.heap.size w' e (m, 1, -1) ∧ Below w.heap.size w w' := by
 obtain ⟨vr, va, hv, hr, ha⟩ := hm
 have hR := Mc.right hok
 have hR1 := hR.rom
 have hR2 : Hid (m.ram.length = 64) := hR.ram
 cases hh : m.h
 ·have hs : m.s = true := by simpa [hh] using hi
  go_enter Tryz.func137, Tryz.ntmps137
  go_wp2_with (first
   | (refine zP rfl rfl hv ?_; intro w0 r0 hB0)
   | (refine zR rfl rfl ?_; intro w1 z1 hB1; have r1 := r0.below hB1; have hB2 := hB0.trans (hB1.mono hB0.size); have l0 := r0.lt; have lz := z1.lt)
   | (refine zI rfl rfl rfl r1 ?_)
   | (go_at_call 23; refine (zX _ m _ ⟨vr, va, rfl, hr.below hB2, ha.below hB2⟩).mono ?_; rintro e w2 ⟨rfl, hb2⟩; rw [hok]; have hB3 := hB2.trans (hb2.mono hB2.size); have z2 := z1.below hb2; replace r1 := r1.below hb2))
  go_at_call 92
  refine (xP _ m _ ⟨vr, va, rfl, hr.below hB3, ha.below hB3⟩ (by omega) (by have := hR2.out; omega) (by omega) (by have := hR2.out; omega)).mono ?_
  rintro e w4 ⟨v4, rfl, ⟨x4, y4, rfl, ho4, hp4, ha4⟩, hb4⟩
  have hB4 := hB3.trans (hb4.mono hB3.size)
  have z4 := z2.below hb4
  have s34 := z2.lt
  have r4 := r1.below hb4
  have lr4 := r4.lt
  have lz4 := z4.lt
  have sB3 := hB3.size
  have sb4 := hb4.size
  have hxl := ho4.lt
  have hyl := hp4.lt
  clear z1 z2 r1
  go_wp2_with (first
   | (refine zR rfl rfl ?_; intro w5 z5 hB5; have lz5 := z5.lt; have r5 := r4.below hB5; have z5' := z4.below hB5; have hp5 := hp4.below hB5; have ho5 := ho4.below hB5)
   | (refine zL rfl rfl rfl rfl z5 (zB ho4) (zB hp4) ?_; intro w6 c6 o6 s6; have hp6 := hp5.onto o6 (fun e => by have := hyl _ e; omega); have ho6 := ho5.onto o6 (fun e => by have := hxl _ e; omega); have z6 := z5'.onto o6 (by omega); have r6 := r5.onto o6 (by omega); have hB6 := zA (hB4.trans (hB5.mono hB4.size)) o6 (by have := hB4.size; omega); have kh := (cw r6).h; have ks := (cw r6).s; have kp := (cw r6).pc; clear z5 z5' r5 hp5 ho5; rw [hh] at kh; rw [hs] at ks)
   | (refine zI rfl rfl rfl c6 ?_)
   | (refine zL rfl rfl rfl rfl z6 (zB ho6) (zB hp6) ?_; intro w7 c7 o7 s7))
  refine zEf rfl rfl c7 rfl rfl rfl ?_
  exact ⟨Ans.mk (ho6.onto o7 (fun e => by have := hxl _ e; omega)) (hp6.onto o7 (fun e => by have := hyl _ e; omega)) ha4 (by omega), zA hB6 o7 (by omega)⟩
 ·go_enter Tryz.func137, Tryz.ntmps137
  go_wp2_with (first
   | (refine zP rfl rfl hv ?_; intro w0 r0 hB0)
   | (refine zR rfl rfl ?_; intro w1 z1 hB1; have r1 := r0.below hB1; have hB2 := hB0.trans (hB1.mono hB0.size); have l0 := r0.lt; have lz := z1.lt)
   | (refine zI rfl rfl rfl r1 ?_)
   | (go_at_call 23; refine (zX _ m _ ⟨vr, va, rfl, hr.below hB2, ha.below hB2⟩).mono ?_; rintro e w2 ⟨rfl, hb2⟩; rw [hok]; have hB3 := hB2.trans (hb2.mono hB2.size); have z2 := z1.below hb2; replace r1 := r1.below hb2))
  go_at_call 92
  refine (xP _ m _ ⟨vr, va, rfl, hr.below hB3, ha.below hB3⟩ (by omega) (by have := hR2.out; omega) (by omega) (by have := hR2.out; omega)).mono ?_
  rintro e w4 ⟨v4, rfl, ⟨x4, y4, rfl, ho4, hp4, ha4⟩, hb4⟩
  have hB4 := hB3.trans (hb4.mono hB3.size)
  have z4 := z2.below hb4
  have s34 := z2.lt
  have r4 := r1.below hb4
  have lr4 := r4.lt
  have lz4 := z4.lt
  have sB3 := hB3.size
  have sb4 := hb4.size
  have hxl := ho4.lt
  have hyl := hp4.lt
  clear z1 z2 r1
  go_wp2_with (first
   | (refine zR rfl rfl ?_; intro w5 z5 hB5; have lz5 := z5.lt; have r5 := r4.below hB5; have z5' := z4.below hB5; have hp5 := hp4.below hB5; have ho5 := ho4.below hB5)
   | (refine zL rfl rfl rfl rfl z5 (zB ho4) (zB hp4) ?_; intro w6 c6 o6 s6; have hp6 := hp5.onto o6 (fun e => by have := hyl _ e; omega); have ho6 := ho5.onto o6 (fun e => by have := hxl _ e; omega); have z6 := z5'.onto o6 (by omega); have r6 := r5.onto o6 (by omega); have hB6 := zA (hB4.trans (hB5.mono hB4.size)) o6 (by have := hB4.size; omega); have kh := (cw r6).h; have ks := (cw r6).s; have kp := (cw r6).pc; clear z5 z5' r5 hp5 ho5; rw [hh] at kh)
   | (refine zI rfl rfl rfl c6 ?_)
   | (refine zL rfl rfl rfl rfl z6 (zB ho6) (zB hp6) ?_; intro w7 c7 o7 s7))
  refine zEf rfl rfl c7 rfl rfl rfl ?_
  exact ⟨Ans.mk (ho6.onto o7 (fun e => by have := hxl _ e; omega)) (hp6.onto o7 (fun e => by have := hyl _ e; omega)) ha4 (by omega), zA hB6 o7 (by omega)⟩
set_option maxHeartbeats 2000000 in
theorem zIk (v : Value) (m : Mc) (w : World) (hm : MSl w v m) (ho : jK w) (hok : m.ok = true) (hi : (m.h || m.s) = false) (hz : m.size' = 0) :
  Calls Tryz.prog 137 #[v] w fun e w' => Ans w.heap.size w' e ({ m with s := true }, 1, -1) ∧ Below w.heap.size w w' := by
 obtain ⟨vr, va, hv, hr, ha⟩ := hm
 have hR := Mc.right hok
 have hR1 := hR.rom
 have hR2 : Hid (m.ram.length = 64) := hR.ram
 have hh : m.h = false := by simp at hi; exact hi.1
 have hs : m.s = false := by simp at hi; exact hi.2
 have hcd : m.readAt m.pc = m.code := zBh hok (okm.1 hok).pc
 have hz' : (line m.code).2.1 = 0 := hz
 clear hz
 ·go_enter Tryz.func137, Tryz.ntmps137
  go_wp2_with (first
   | (refine zP rfl rfl hv ?_; intro w0 r0 hB0)
   | (refine zR rfl rfl ?_; intro w1 z1 hB1; have r1 := r0.below hB1; have hB2 := hB0.trans (hB1.mono hB0.size); have l0 := r0.lt; have lz := z1.lt)
   | (refine zI rfl rfl rfl r1 ?_)
   | (go_at_call 23; refine (zX _ m _ ⟨vr, va, rfl, hr.below hB2, ha.below hB2⟩).mono ?_; rintro e w2 ⟨rfl, hb2⟩; rw [hok]; have hB3 := hB2.trans (hb2.mono hB2.size); have z2 := z1.below hb2; replace r1 := r1.below hb2))
  go_at_call 92
  refine (xP _ m _ ⟨vr, va, rfl, hr.below hB3, ha.below hB3⟩ (by omega) (by have := hR2.out; omega) (by omega) (by have := hR2.out; omega)).mono ?_
  rintro e w4 ⟨v4, rfl, ⟨x4, y4, rfl, ho4, hp4, ha4⟩, hb4⟩
  have hB4 := hB3.trans (hb4.mono hB3.size)
  have z4 := z2.below hb4
  have s34 := z2.lt
  have r4 := r1.below hb4
  have lr4 := r4.lt
  have lz4 := z4.lt
  have sB3 := hB3.size
  have sb4 := hb4.size
  have hxl := ho4.lt
  have hyl := hp4.lt
  clear z1 z2 r1
  go_wp2_with (first
   | (refine zR rfl rfl ?_; intro w5 z5 hB5; have lz5 := z5.lt; have r5 := r4.below hB5; have z5' := z4.below hB5; have hp5 := hp4.below hB5; have ho5 := ho4.below hB5)
   | (refine zL rfl rfl rfl rfl z5 (zB ho4) (zB hp4) ?_; intro w6 c6 o6 s6; have hp6 := hp5.onto o6 (fun e => by have := hyl _ e; omega); have ho6 := ho5.onto o6 (fun e => by have := hxl _ e; omega); have z6 := z5'.onto o6 (by omega); have r6 := r5.onto o6 (by omega); have hB6 := zA (hB4.trans (hB5.mono hB4.size)) o6 (by have := hB4.size; omega); have kh := (cw r6).h; have ks := (cw r6).s; have kp := (cw r6).pc; clear z5 z5' r5 hp5 ho5; rw [hh] at kh; rw [hs] at ks)
   | (refine zI rfl rfl rfl r6 ?_)
   | (go_at_call 203; refine (vR _ m _ _ ⟨vr, va, rfl, hr.below hB6, ha.below hB6⟩).mono ?_; rintro e w7 ⟨rfl, hb7⟩; rw [hcd]; have hB7 := hB6.trans (hb7.mono hB6.size); have z7 := z6.below hb7; have c7 := c6.below hb7; have hp7 := hp6.below hb7; have ho7 := ho6.below hb7; clear kh ks kp)
   | (go_at_call 204; refine (zDr _ _ (ho.below hB7)).mono ?_; rintro e w8 ⟨rfl, hb8⟩; rw [hz']; have hB8 := hB7.trans (hb8.mono hB7.size); have z8 := z7.below hb8; have c8 := c7.below hb8; have hp8 := hp7.below hb8; have ho8 := ho7.below hb8)
   | (refine xY (m' := { m with s := true }) rfl rfl rfl rfl c8 rfl rfl ?_; intro w9 c9 o9 s9; have z9 := z8.onto o9 (by omega); have hp9 := hp8.onto o9 (fun e => by have := hyl _ e; omega); have ho9 := ho8.onto o9 (fun e => by have := hxl _ e; omega); have hB9 := zA hB8 o9 (by omega))
   | (refine zI rfl rfl rfl c9 ?_)
   | (refine zL rfl rfl rfl rfl z9 (zB ho9) (zB hp9) ?_; intro w10 c10 o10 s10))
  refine zEf rfl rfl c10 rfl rfl rfl ?_
  exact ⟨Ans.mk (ho9.onto o10 (fun e => by have := hxl _ e; omega)) (hp9.onto o10 (fun e => by have := hyl _ e; omega)) ha4 (by omega), zA hB9 o10 (by omega)⟩
section
variable {op : Oper} {a : Act} {w : World} {K : Act → World → Prop} {Q : Exit → Act → World → Prop} {p q : Operand} {g : Nat} {x y x0 y0 : Value} {m m0 : Mc}
theorem zUu (ho : op.op = .store 30 p q) (hx : a.eval p = .pointer (some ⟨g, 0, none⟩)) (hy : a.eval q = m.val x y) (hr : MRow w g x0 y0 m0) (h1 : x.oneCell' = true) (h2 : y.oneCell' = true)
  (h : ∀ w', MRow w' g x y m → Onto g w w' → K (a.put op.dst undef) w') : op.wp Tryz.prog a w K Q :=
 wp_store_row _ p q ho g _ hx hy _ _ hr.row jB rfl (zDj h1 h2 m)
  (h _ (Row.of (setRow_heap w g _ _ _ _ hr.row)) ⟨rfl, rfl, rfl, by simp, fun k hk _ => setRow_other w g k _ hk⟩)
end
structure Gx (w : World) (base g g2 : Nat) (x y : Value) (m : Mc) (n o : Int) (b : Bool) (W : World) : Prop where
 d : DSt base W g x y m n o
 t : jK W
 bel : Below w.heap.size w W
 res : if b = true then MRow W g2 x y m else MRow W g2 zY zY Mc.nul
theorem Gx.below {w W W' : World} {base g g2 : Nat} {x y : Value} {m : Mc} {n o : Int} {b : Bool} (h : Gx w base g g2 x y m n o b W) (hb : Below W.heap.size W W') : Gx w base g g2 x y m n o b W' :=
 ⟨h.d.below hb, h.t.below hb, h.bel.trans (hb.mono h.bel.size), by have := h.res; cases b <;> exact Row.below this hb⟩
theorem Gx.drew {w W : World} {base g g2 : Nat} {x y : Value} {m : Mc} {n o : Int} {b : Bool} (h : Gx w base g g2 x y m n o b W) : Gx w base g g2 x y m n o b W.drew :=
 h.below (below_drewN (Below.refl _ _) 1)
theorem Gx.lay {w W W' : World} {base g g2 : Nat} {x y : Value} {m : Mc} {n o : Int} {b : Bool} (h : Gx w base g g2 x y m n o b W) (hr : MRow W' g2 x y m) (ho : Onto g2 W W') (h1 : g2 < base) (h2 : w.heap.size ≤ g2) (h3 : 0 < w.heap.size) : Gx w base g g2 x y m n o true W' := by
 have hb := h.d.hb
 exact ⟨{ h.d with row := h.d.row.onto ho (by omega), hx := h.d.hx.onto ho (fun e => by have := (h.d.hx.lt _ e).1; omega), hy := h.d.hy.onto ho (fun e => by have := (h.d.hy.lt _ e).1; omega) }, jK.onto h.t ho (by omega), zA h.bel ho h2, by simpa using hr⟩
set_option maxRecDepth 100000 in
set_option maxHeartbeats 4000000 in
theorem zKz (v : Value) (m : Mc) (w : World) (hm : MSl w v m) (ho : jK w) (hok : m.ok = true) (hi : (m.h || m.s) = false) (k : Nat) (hk : k < 31) (hcode : m.code = (k : Int)) (hsz : (line (k : Int)).2.1 = 1) :
  Calls Tryz.prog 137 #[v] w fun e w' => Ans w.heap.size w' e ((m.onw.does m.opnd k).1, (line (k : Int)).2.2, (m.onw.does m.opnd k).2) ∧ Below w.heap.size w w' := by
 obtain ⟨vr, va, hv, hr, ha⟩ := hm
 have hR := Mc.right hok
 have hR1 := hR.rom
 have hR2 : Hid (m.ram.length = 64) := hR.ram
 have hh : m.h = false := by simp at hi; exact hi.1
 have hs : m.s = false := by simp at hi; exact hi.2
 have hcd : m.readAt m.pc = (k : Int) := (zBh hok (okm.1 hok).pc).trans hcode
 have HO : Hid (m.onw = { m with pc := addB m.pc 1 }) := show m.onw = { m with pc := addB m.pc 1 } by
  unfold Mc.onw Mc.size'; rw [hcode, hsz, zK4 (okm.1 hok).pc]
 have HD : Hid (m.onw.does m.opnd k = m.onw.does 0 k) := zSq _ _ _ k hk (by rw [hsz]; decide)
 have h0 := ho.lt
 obtain ⟨f, fn, hst⟩ := zQ8 k hk
 clear hcode
 ·go_enter Tryz.func137, Tryz.ntmps137
  go_wp2_with (first
   | (refine zP rfl rfl hv ?_; intro w0 r0 hB0)
   | (refine zR rfl rfl ?_; intro w1 z1 hB1; have r1 := r0.below hB1; have hB2 := hB0.trans (hB1.mono hB0.size); have l0 := r0.lt; have lz := z1.lt)
   | (refine zI rfl rfl rfl r1 ?_)
   | (go_at_call 23; refine (zX _ m _ ⟨vr, va, rfl, hr.below hB2, ha.below hB2⟩).mono ?_; rintro e w2 ⟨rfl, hb2⟩; rw [hok]; have hB3 := hB2.trans (hb2.mono hB2.size); have z2 := z1.below hb2; replace r1 := r1.below hb2))
  go_at_call 92
  refine (xP _ m _ ⟨vr, va, rfl, hr.below hB3, ha.below hB3⟩ (by omega) (by have := hR2.out; omega) (by omega) (by have := hR2.out; omega)).mono ?_
  rintro e w4 ⟨v4, rfl, ⟨x4, y4, rfl, ho4, hp4, ha4⟩, hb4⟩
  have hB4 := hB3.trans (hb4.mono hB3.size)
  have z4 := z2.below hb4
  have s34 := z2.lt
  have r4 := r1.below hb4
  have lr4 := r4.lt
  have lz4 := z4.lt
  have sB3 := hB3.size
  have sb4 := hb4.size
  have hxl := ho4.lt
  have hyl := hp4.lt
  clear z1 z2 r1
  go_wp2_with (first
   | (refine zR rfl rfl ?_; intro w5 z5 hB5; have lz5 := z5.lt; have r5 := r4.below hB5; have z5' := z4.below hB5; have hp5 := hp4.below hB5; have ho5 := ho4.below hB5)
   | (refine zL rfl rfl rfl rfl z5 (zB ho4) (zB hp4) ?_; intro w6 c6 o6 s6; have hp6 := hp5.onto o6 (fun e => by have := hyl _ e; omega); have ho6 := ho5.onto o6 (fun e => by have := hxl _ e; omega); have z6 := z5'.onto o6 (by omega); have r6 := r5.onto o6 (by omega); have hB6 := zA (hB4.trans (hB5.mono hB4.size)) o6 (by have := hB4.size; omega); have kh := (cw r6).h; have ks := (cw r6).s; have kp := (cw r6).pc; clear z5 z5' r5 hp5 ho5; rw [hh] at kh; rw [hs] at ks)
   | (refine zI rfl rfl rfl r6 ?_)
   | (go_at_call 203; refine (vR _ m _ _ ⟨vr, va, rfl, hr.below hB6, ha.below hB6⟩).mono ?_; rintro e w7 ⟨rfl, hb7⟩; rw [hcd]; have hB7 := hB6.trans (hb7.mono hB6.size); have z7 := z6.below hb7; have c7 := c6.below hb7; have q7 := r6.below hb7; have hp7 := hp6.below hb7; have ho7 := ho6.below hb7; clear kh ks kp)
   | (go_at_call 204; refine (zDr _ _ (ho.below hB7)).mono ?_; rintro e w8 ⟨rfl, hb8⟩; rw [hsz]; have hB8 := hB7.trans (hb8.mono hB7.size); have z8 := z7.below hb8; have c8 := c7.below hb8; have q8 := q7.below hb8; have hp8 := hp7.below hb8; have ho8 := ho7.below hb8; have l8 := c8.lt)
   | (refine zI rfl rfl rfl c8 ?_)
   | (refine zU0 rfl rfl rfl ?_)
   | (refine zU1 rfl rfl ?_; intro w9 d9 hb9; have hB9 := hB8.trans (hb9.mono hB8.size); have z9 := z8.below hb9; have q9 := q8.below hb9; have hp9 := hp8.below hb9; have ho9 := ho8.below hb9; have l9 := d9.lt)
   | (refine zUt rfl rfl rfl rfl d9 (zB ho9) (zB hp9) ?_; intro w10 d10 o10 s10; have z10 := z9.onto o10 (by omega); have q10 := q9.onto o10 (by omega); have kp := (cw q10).pc
      have D10 : DSt w2.heap.size w10 w8.heap.size x4 y4 m 0 (-1) := ⟨d10, ho9.onto o10 (fun e => by have := hxl _ e; omega), hp9.onto o10 (fun e => by have := hyl _ e; omega), ha4, fun e => by have := hxl _ e; omega, fun e => by have := hyl _ e; omega, by omega⟩
      have hB10 := zA hB9 o10 (by omega))
   | (go_at_call 205; refine (zAg _ _ _).mono ?_; rintro e w11 ⟨rfl, rfl⟩)
   | (refine zBd (m' := { m with pc := addB m.pc 1 }) (n' := 0) (o' := -1) rfl rfl rfl rfl d10 rfl rfl ?_; intro w12 d12 o12 s12; have z12 := z10.onto o12 (by omega); have D12 := D10.set d12 o12 rfl rfl; have hB12 := zA hB10 o12 (by omega))
   | (go_at_call 206; refine (zDo _).mono ?_; rintro e w13 ⟨rfl, hb13⟩; have z13 := z12.below hb13; have D13 := D12.below hb13; have hB13 := hB12.trans (hb13.mono hB12.size))
   | (refine zR4 rfl rfl rfl rfl hst ?_)
   | (refine zMy rfl rfl rfl hst ?_; refine (hst.does _ _ _ _ _ _ _ D13 (zGo hok (zEp _ _)) rfl).mono ?_; rintro e w14 ⟨rfl, x14, y14, D14, o14⟩; refine ⟨_, rfl, ?_⟩
      rw [← HO.out, ← HD.out] at D14
      have z14 := z13.onto o14 (by omega)
      have hB14 := zA hB13 o14 (by omega)
      have t14 : jK w14 := jK.below ho hB14))
  have hGx : Gx w w2.heap.size w8.heap.size w0.heap.size x14 y14 (m.onw.does m.opnd k).1 0 (m.onw.does m.opnd k).2 false w14 := ⟨D14, t14, hB14, z14⟩
  obtain ⟨M, HM⟩ : ∃ M, Hid (M = (m.onw.does m.opnd k).1) := ⟨_, show _ = _ from rfl⟩
  obtain ⟨O, HQ⟩ : ∃ O, Hid (O = (m.onw.does m.opnd k).2) := ⟨_, show _ = _ from rfl⟩
  rw [← HM.out, ← HQ.out] at hGx
  have hs0 := hB0.size
  have hs1 := hb2.size
  refine qD (by kernel_rfl) (by kernel_rfl) 6 (by decide) (by kernel_rfl) (Gx w w2.heap.size w8.heap.size w0.heap.size x14 y14 M 0 O)
   [.pointer (some ⟨w8.heap.size, 0, none⟩), M.val x14 y14, .int .i64 (k : Int), .int .i64 (line (k : Int)).2.2, .pointer (some ⟨w8.heap.size, 26, none⟩), .int .i64 O, undef, .int .i64 (line (k : Int)).2.2, .int .i64 O] hGx.drew ?step ?done
  case step =>
   intro L ix o' A W hi hI hL hd
   have hin : ix < 9 := qB hi
   have hg := hI.g
   rcases ix with _ | _ | _ | _ | _ | _ | _ | _ | _ | ix
   ·cases hi; exact zC rfl rfl (zH (x := .tmp 8) (hI.ol 8 rfl) rfl (by kernel_rfl) ⟨_, rfl, rfl, by simpa using hg⟩)
   ·cases hi; have e0 : A.eval (.tmp 52) = .pointer (some ⟨w8.heap.size, 0, none⟩) := hI.vl hd 0 rfl; exact zC rfl rfl (zLx rfl e0 hg.d.row ⟨_, rfl, rfl, by simpa using hg⟩)
   ·cases hi; exact am rfl rfl rfl ⟨_, rfl, hI.ol 6 rfl, by simpa using hg⟩
   ·cases hi; have e0 : A.eval (.tmp 54) = .int .i64 (k : Int) := hI.vl hd 2 rfl
    refine zC rfl rfl (zS rfl Tryz.func207 (by kernel_rfl) (by kernel_rfl) ?_)
    simp only [List.map_cons, List.map_nil, e0]
    refine (zGy _ _ hg.t).mono ?_
    rintro e W1 ⟨rfl, hb⟩
    exact ⟨_, rfl, _, rfl, rfl, by simpa using hg.below hb⟩
   ·cases hi; exact zC rfl rfl (zH (x := .tmp 8) (hI.ol 8 rfl) rfl (by kernel_rfl) ⟨_, rfl, rfl, by simpa using hg⟩)
   ·cases hi; exact zC rfl rfl (zN rfl Tryz.underlying2 (hI.vl hd 4 rfl) (dw hg.d.row).o ⟨_, rfl, rfl, by simpa using hg⟩)
   ·cases hi; have e0 := hI.ol 2 rfl
    have e1 : A.eval (.tmp 53) = M.val x14 y14 := hI.vl hd 1 rfl
    have hres : MRow W w0.heap.size zY zY Mc.nul := by have := hg.res; simpa [hL] using this
    refine zC rfl rfl (zUu rfl e0 e1 hres (zB hg.d.hx) (zB hg.d.hy) (fun W1 hr hon => ⟨_, rfl, rfl, ?_⟩))
    have := hg.lay hr hon (by omega) (by omega) h0
    simpa using this
   ·cases hi; exact zC rfl rfl (qC rfl ⟨_, rfl, hI.vl hd 3 rfl, by simpa using hg⟩)
   ·cases hi; exact zC rfl rfl (qC rfl ⟨_, rfl, hI.vl hd 5 rfl, by simpa using hg⟩)
   omega
  case done =>
   intro A W hI
   have hg := hI.g
   have hres : MRow W w0.heap.size x14 y14 M := by have := hg.res; simpa using this
   have a2 : A.tmps.getD 2 undef = .pointer (some ⟨w0.heap.size, 0, none⟩) := hI.old 2 (by kernel_rfl)
   have a3 : A.tmps.getD 3 undef = .int .i64 (line (k : Int)).2.2 := hI.last 7 3 rfl
   have a4 : A.tmps.getD 4 undef = .int .i64 O := hI.last 8 4 rfl
   go_wp2_with fail
   refine zEf rfl a2 hres hI.defers a3 a4 ?_
   rw [← HM.out, ← HQ.out]
   exact ⟨Ans.mk hg.d.hx hg.d.hy hg.d.ap (by omega), hg.bel⟩
set_option maxRecDepth 100000 in
set_option maxHeartbeats 4000000 in
theorem zKy (v : Value) (m : Mc) (w : World) (hm : MSl w v m) (ho : jK w) (hok : m.ok = true) (hi : (m.h || m.s) = false) (k : Nat) (hk : k < 31) (hcode : m.code = (k : Int)) (hsz : (line (k : Int)).2.1 = 2) :
  Calls Tryz.prog 137 #[v] w fun e w' => Ans w.heap.size w' e ((m.onw.does m.opnd k).1, (line (k : Int)).2.2, (m.onw.does m.opnd k).2) ∧ Below w.heap.size w w' := by
 obtain ⟨vr, va, hv, hr, ha⟩ := hm
 have hR := Mc.right hok
 have hR1 := hR.rom
 have hR2 : Hid (m.ram.length = 64) := hR.ram
 have hh : m.h = false := by simp at hi; exact hi.1
 have hs : m.s = false := by simp at hi; exact hi.2
 have hcd : m.readAt m.pc = (k : Int) := (zBh hok (okm.1 hok).pc).trans hcode
 have HO : Hid (m.onw = { m with pc := addB m.pc 2 }) := show m.onw = { m with pc := addB m.pc 2 } by
  unfold Mc.onw Mc.size'; rw [hcode, hsz]
  have h2 : bok 2 = true := rfl
  simp [addB, (okm.1 hok).pc, h2]
 have HN : Hid (m.readAt (addB m.pc 1) = m.opnd) := show m.readAt (addB m.pc 1) = m.opnd by rw [zBh hok (zEp _ _), zK4 (okm.1 hok).pc]; rfl
 have h0 := ho.lt
 obtain ⟨f, fn, hst⟩ := zQ8 k hk
 clear hcode
 ·go_enter Tryz.func137, Tryz.ntmps137
  go_wp2_with (first
   | (refine zP rfl rfl hv ?_; intro w0 r0 hB0)
   | (refine zR rfl rfl ?_; intro w1 z1 hB1; have r1 := r0.below hB1; have hB2 := hB0.trans (hB1.mono hB0.size); have l0 := r0.lt; have lz := z1.lt)
   | (refine zI rfl rfl rfl r1 ?_)
   | (go_at_call 23; refine (zX _ m _ ⟨vr, va, rfl, hr.below hB2, ha.below hB2⟩).mono ?_; rintro e w2 ⟨rfl, hb2⟩; rw [hok]; have hB3 := hB2.trans (hb2.mono hB2.size); have z2 := z1.below hb2; replace r1 := r1.below hb2))
  go_at_call 92
  refine (xP _ m _ ⟨vr, va, rfl, hr.below hB3, ha.below hB3⟩ (by omega) (by have := hR2.out; omega) (by omega) (by have := hR2.out; omega)).mono ?_
  rintro e w4 ⟨v4, rfl, ⟨x4, y4, rfl, ho4, hp4, ha4⟩, hb4⟩
  have hB4 := hB3.trans (hb4.mono hB3.size)
  have z4 := z2.below hb4
  have s34 := z2.lt
  have r4 := r1.below hb4
  have lr4 := r4.lt
  have lz4 := z4.lt
  have sB3 := hB3.size
  have sb4 := hb4.size
  have hxl := ho4.lt
  have hyl := hp4.lt
  clear z1 z2 r1
  go_wp2_with (first
   | (refine zR rfl rfl ?_; intro w5 z5 hB5; have lz5 := z5.lt; have r5 := r4.below hB5; have z5' := z4.below hB5; have hp5 := hp4.below hB5; have ho5 := ho4.below hB5)
   | (refine zL rfl rfl rfl rfl z5 (zB ho4) (zB hp4) ?_; intro w6 c6 o6 s6; have hp6 := hp5.onto o6 (fun e => by have := hyl _ e; omega); have ho6 := ho5.onto o6 (fun e => by have := hxl _ e; omega); have z6 := z5'.onto o6 (by omega); have r6 := r5.onto o6 (by omega); have hB6 := zA (hB4.trans (hB5.mono hB4.size)) o6 (by have := hB4.size; omega); have kh := (cw r6).h; have ks := (cw r6).s; have kp := (cw r6).pc; clear z5 z5' r5 hp5 ho5; rw [hh] at kh; rw [hs] at ks)
   | (refine zI rfl rfl rfl r6 ?_)
   | (go_at_call 203; refine (vR _ m _ _ ⟨vr, va, rfl, hr.below hB6, ha.below hB6⟩).mono ?_; rintro e w7 ⟨rfl, hb7⟩; rw [hcd]; have hB7 := hB6.trans (hb7.mono hB6.size); have z7 := z6.below hb7; have c7 := c6.below hb7; have q7 := r6.below hb7; have hp7 := hp6.below hb7; have ho7 := ho6.below hb7; clear kh ks kp)
   | (go_at_call 204; refine (zDr _ _ (ho.below hB7)).mono ?_; rintro e w8 ⟨rfl, hb8⟩; rw [hsz]; have hB8 := hB7.trans (hb8.mono hB7.size); have z8 := z7.below hb8; have c8 := c7.below hb8; have q8 := q7.below hb8; have hp8 := hp7.below hb8; have ho8 := ho7.below hb8; have l8 := c8.lt)
   | (refine zI rfl rfl rfl c8 ?_)
   | (refine zU0 rfl rfl rfl ?_)
   | (refine zU1 rfl rfl ?_; intro w9 d9 hb9; have hB9 := hB8.trans (hb9.mono hB8.size); have z9 := z8.below hb9; have q9 := q8.below hb9; have hp9 := hp8.below hb9; have ho9 := ho8.below hb9; have l9 := d9.lt)
   | (refine zUt rfl rfl rfl rfl d9 (zB ho9) (zB hp9) ?_; intro w10 d10 o10 s10; have z10 := z9.onto o10 (by omega); have q10 := q9.onto o10 (by omega); have kp := (cw q10).pc
      have D10 : DSt w2.heap.size w10 w8.heap.size x4 y4 m 0 (-1) := ⟨d10, ho9.onto o10 (fun e => by have := hxl _ e; omega), hp9.onto o10 (fun e => by have := hyl _ e; omega), ha4, fun e => by have := hxl _ e; omega, fun e => by have := hyl _ e; omega, by omega⟩
      have hB10 := zA hB9 o10 (by omega)))
  obtain ⟨N, HNN⟩ : ∃ N, Hid (N = m.opnd) := ⟨_, show _ = _ from rfl⟩
  refine xA (by kernel_rfl) (by kernel_rfl) 6 (by decide) (by kernel_rfl) (by kernel_rfl) (fun W => DSt w2.heap.size W w8.heap.size x4 y4 m 0 (-1) ∧ MRow W w.heap.size vr va m ∧ MRow W w0.heap.size zY zY Mc.nul ∧ Below w.heap.size w W) (fun W => DSt w2.heap.size W w8.heap.size x4 y4 m m.opnd (-1) ∧ MRow W w.heap.size vr va m ∧ MRow W w0.heap.size zY zY Mc.nul ∧ Below w.heap.size w W)
   [m.val vr va, .pointer (some ⟨w.heap.size, 4, none⟩), .int .i64 m.pc, .int .i64 (addB m.pc 1), .int .i64 m.opnd, .pointer (some ⟨w8.heap.size, 25, none⟩), undef] ⟨D10.drew, q10.drewN 1, z10.drewN 1, below_drewN hB10 1⟩ ?step ?last ?done
  case step =>
   intro L ix o' A W hne hi hI hg hd
   have hin : ix < 7 := qB hi
   rcases ix with _ | _ | _ | _ | _ | _ | _ | ix
   ·cases hi; exact zC rfl rfl (wp_load_row _ _ rfl _ (hI.ol 1 rfl) _ _ _ _ hg.2.1.row Tryz.underlying30 rfl jB (kk hg))
   ·cases hi; exact zC rfl rfl (zH (x := .tmp 1) (hI.ol 1 rfl) rfl (by kernel_rfl) (kk hg))
   ·cases hi; exact zC rfl rfl (zN rfl Tryz.underlying2 (hI.vl hd 1 rfl) (cw hg.2.1).pc (kk hg))
   ·cases hi; have e0 : A.eval (.tmp 38) = .int .i64 m.pc := hI.vl hd 2 rfl
    refine zC rfl rfl (zS rfl Tryz.func205 (by kernel_rfl) (by kernel_rfl) ?_)
    simp only [List.map_cons, List.map_nil, e0]
    refine (zAg _ _ _).mono ?_
    rintro e W1 ⟨rfl, rfl⟩
    exact ⟨_, rfl, _, rfl, rfl, hg⟩
   ·cases hi; have e0 : A.eval (.tmp 36) = m.val vr va := hI.vl hd 0 rfl
    have e1 : A.eval (.tmp 39) = .int .i64 (addB m.pc 1) := hI.vl hd 3 rfl
    refine zC rfl rfl (zS rfl Tryz.func203 (by kernel_rfl) (by kernel_rfl) ?_)
    simp only [List.map_cons, List.map_nil, e0, e1]
    refine (vR _ m _ _ ⟨vr, va, rfl, hr.below hg.2.2.2, ha.below hg.2.2.2⟩).mono ?_
    rintro e W1 ⟨rfl, hb⟩
    rw [HN.out]
    exact ⟨_, rfl, _, rfl, rfl, hg.1.below hb, hg.2.1.below hb, hg.2.2.1.below hb, hg.2.2.2.trans (hb.mono hg.2.2.2.size)⟩
   ·cases hi; exact zC rfl rfl (zH (x := .tmp 8) (hI.ol 8 rfl) rfl (by kernel_rfl) (kk hg))
   ·exact absurd rfl hne
   omega
  case last =>
   intro L o' A W hi hI hg hd
   cases hi
   have e0 : A.eval (.tmp 41) = .pointer (some ⟨w8.heap.size, 25, none⟩) := hI.val hd 5 41 rfl rfl (by kernel_rfl)
   have e1 : A.eval (.tmp 40) = .int .i64 m.opnd := hI.val hd 4 40 rfl rfl (by kernel_rfl)
   exact zC rfl rfl (zQv (m' := m) (n' := m.opnd) (o' := -1) rfl e0 e1 hg.1.row rfl rfl (fun W1 hr1 hon => ⟨_, rfl, rfl, hg.1.set hr1 hon rfl rfl, hg.2.1.onto hon (by omega), hg.2.2.1.onto hon (by omega), zA hg.2.2.2 hon (by omega)⟩))
  case done =>
  intro A W hI hE
  have t36 : A.tmps.getD 36 undef = m.val vr va := hI.last 0 36 rfl
  have t37 : A.tmps.getD 37 undef = .pointer (some ⟨w.heap.size, 4, none⟩) := hI.last 1 37 rfl
  have t38 : A.tmps.getD 38 undef = .int .i64 m.pc := hI.last 2 38 rfl
  have t39 : A.tmps.getD 39 undef = .int .i64 (addB m.pc 1) := hI.last 3 39 rfl
  have t40 : A.tmps.getD 40 undef = .int .i64 m.opnd := hI.last 4 40 rfl
  have t41 : A.tmps.getD 41 undef = .pointer (some ⟨w8.heap.size, 25, none⟩) := hI.last 5 41 rfl
  have hA := hI.frame [36, 37, 38, 39, 40, 41] (by kernel_rfl)
  rw [hA]
  clear hA hI
  simp only [qJ, List.foldl_cons, List.foldl_nil, t36, t37, t38, t39, t40, t41]
  clear t36 t37 t38 t39 t40 t41
  obtain ⟨D11, q11, z11, hB11⟩ := hE
  have d11 := D11.row
  have kp' := (cw q11).pc
  rw [← HNN.out] at D11 d11
  rw [← HNN.out]
  go_wp2_with (first
   | (go_at_call 205; refine (zAg _ _ _).mono ?_; rintro e w11 ⟨rfl, rfl⟩)
   | (refine zBd (m' := { m with pc := addB m.pc 2 }) (n' := N) (o' := -1) rfl rfl rfl rfl d11 rfl rfl ?_; intro w12 d12 o12 s12; have z12 := z11.onto o12 (by omega); have D12 := D11.set d12 o12 rfl rfl; have hB12 := zA hB11 o12 (by omega))
   | (go_at_call 206; refine (zDo _).mono ?_; rintro e w13 ⟨rfl, hb13⟩; have z13 := z12.below hb13; have D13 := D12.below hb13; have hB13 := hB12.trans (hb13.mono hB12.size))
   | (refine zR4 rfl rfl rfl rfl hst ?_)
   | (refine zMy rfl rfl rfl hst ?_; refine (hst.does _ _ _ _ _ _ _ D13 (zGo hok (zEp _ _)) (by rw [HNN.out]; exact zKh hok)).mono ?_; rintro e w14 ⟨rfl, x14, y14, D14, o14⟩; refine ⟨_, rfl, ?_⟩
      rw [← HO.out, HNN.out] at D14
      have z14 := z13.onto o14 (by omega)
      have hB14 := zA hB13 o14 (by omega)
      have t14 : jK w14 := jK.below ho hB14))
  have hGx : Gx w w2.heap.size w8.heap.size w0.heap.size x14 y14 (m.onw.does m.opnd k).1 m.opnd (m.onw.does m.opnd k).2 false w14 := ⟨D14, t14, hB14, z14⟩
  obtain ⟨M, HM⟩ : ∃ M, Hid (M = (m.onw.does m.opnd k).1) := ⟨_, show _ = _ from rfl⟩
  obtain ⟨O, HQ⟩ : ∃ O, Hid (O = (m.onw.does m.opnd k).2) := ⟨_, show _ = _ from rfl⟩
  rw [← HM.out, ← HQ.out] at hGx
  have hs0 := hB0.size
  have hs1 := hb2.size
  refine qD (by kernel_rfl) (by kernel_rfl) 6 (by decide) (by kernel_rfl) (Gx w w2.heap.size w8.heap.size w0.heap.size x14 y14 M m.opnd O)
   [.pointer (some ⟨w8.heap.size, 0, none⟩), M.val x14 y14, .int .i64 (k : Int), .int .i64 (line (k : Int)).2.2, .pointer (some ⟨w8.heap.size, 26, none⟩), .int .i64 O, undef, .int .i64 (line (k : Int)).2.2, .int .i64 O] hGx.drew ?step ?done
  case step =>
   intro L ix o' A W hi hI hL hd
   have hin : ix < 9 := qB hi
   have hg := hI.g
   rcases ix with _ | _ | _ | _ | _ | _ | _ | _ | _ | ix
   ·cases hi; exact zC rfl rfl (zH (x := .tmp 8) (hI.ol 8 rfl) rfl (by kernel_rfl) ⟨_, rfl, rfl, by simpa using hg⟩)
   ·cases hi; have e0 : A.eval (.tmp 52) = .pointer (some ⟨w8.heap.size, 0, none⟩) := hI.vl hd 0 rfl; exact zC rfl rfl (zLx rfl e0 hg.d.row ⟨_, rfl, rfl, by simpa using hg⟩)
   ·cases hi; exact am rfl rfl rfl ⟨_, rfl, hI.ol 6 rfl, by simpa using hg⟩
   ·cases hi; have e0 : A.eval (.tmp 54) = .int .i64 (k : Int) := hI.vl hd 2 rfl
    refine zC rfl rfl (zS rfl Tryz.func207 (by kernel_rfl) (by kernel_rfl) ?_)
    simp only [List.map_cons, List.map_nil, e0]
    refine (zGy _ _ hg.t).mono ?_
    rintro e W1 ⟨rfl, hb⟩
    exact ⟨_, rfl, _, rfl, rfl, by simpa using hg.below hb⟩
   ·cases hi; exact zC rfl rfl (zH (x := .tmp 8) (hI.ol 8 rfl) rfl (by kernel_rfl) ⟨_, rfl, rfl, by simpa using hg⟩)
   ·cases hi; exact zC rfl rfl (zN rfl Tryz.underlying2 (hI.vl hd 4 rfl) (dw hg.d.row).o ⟨_, rfl, rfl, by simpa using hg⟩)
   ·cases hi; have e0 := hI.ol 2 rfl
    have e1 : A.eval (.tmp 53) = M.val x14 y14 := hI.vl hd 1 rfl
    have hres : MRow W w0.heap.size zY zY Mc.nul := by have := hg.res; simpa [hL] using this
    refine zC rfl rfl (zUu rfl e0 e1 hres (zB hg.d.hx) (zB hg.d.hy) (fun W1 hr hon => ⟨_, rfl, rfl, ?_⟩))
    have := hg.lay hr hon (by omega) (by omega) h0
    simpa using this
   ·cases hi; exact zC rfl rfl (qC rfl ⟨_, rfl, hI.vl hd 3 rfl, by simpa using hg⟩)
   ·cases hi; exact zC rfl rfl (qC rfl ⟨_, rfl, hI.vl hd 5 rfl, by simpa using hg⟩)
   omega
  case done =>
   intro A W hI
   have hg := hI.g
   have hres : MRow W w0.heap.size x14 y14 M := by have := hg.res; simpa using this
   have a2 : A.tmps.getD 2 undef = .pointer (some ⟨w0.heap.size, 0, none⟩) := hI.old 2 (by kernel_rfl)
   have a3 : A.tmps.getD 3 undef = .int .i64 (line (k : Int)).2.2 := hI.last 7 3 rfl
   have a4 : A.tmps.getD 4 undef = .int .i64 O := hI.last 8 4 rfl
   go_wp2_with fail
   refine zEf rfl a2 hres hI.defers a3 a4 ?_
   rw [← HM.out, ← HQ.out]
   exact ⟨Ans.mk hg.d.hx hg.d.hy hg.d.ap (by omega), hg.bel⟩
theorem zJf (v : Value) (m : Mc) (w : World) (hm : MSl w v m) (ho : jK w) :
  Calls Tryz.prog 137 #[v] w fun e w' => Ans w.heap.size w' e m.execd ∧ Below w.heap.size w w' := by
 unfold Mc.execd
 cases hok : m.ok
 ·exact zMr v m w hm hok
 rw [if_pos rfl]
 unfold Mc.exec
 cases hi : (m.h || m.s)
 ·rw [if_neg (by decide)]
  by_cases hz : m.size' = 0
  ·rw [if_pos hz]; exact zIk v m w hm ho hok hi hz
  ·rw [if_neg hz]
   have hc : 0 ≤ m.code ∧ m.code < 31 := by
    by_cases h : 0 ≤ m.code ∧ m.code < 31
    ·exact h
    ·exact absurd (by unfold Mc.size'; rw [zN6 _ h]) hz
   obtain ⟨k, hk⟩ : ∃ k : Nat, m.code = (k : Int) := ⟨m.code.toNat, by omega⟩
   have hk31 : k < 31 := by omega
   rw [hk, Int.toNat_natCast]
   rcases zN7 k hk31 with h1 | h1
   ·exact zKz v m w hm ho hok hi k hk31 hk h1
   ·exact zKy v m w hm ho hok hi k hk31 hk h1
 ·rw [if_pos rfl]; exact zJg v m w hm hok hi
end Go.Proofs.YtamldhflkfbdnaaGreatDoor.Mem
namespace Go.Proofs.YtamldhflkfbdnaaGreatDoor.Mem
open Go.ChangeShapes Go.WideShapes Go.RowKit Base Num Slc Rw Tmr Srl Rom RomOf Opl

theorem zD7 {m M : Mc} {C O : Int} (h : m.execd = (M, C, O)) (v : Value) (w : World) (hm : MSl w v m) (ho : jK w) :
  Calls Tryz.prog 137 #[v] w fun e w' => ∃ v', e = .returned (.tuple #[v', .int .i64 C, .int .i64 O]) ∧ MOwn w.heap.size w' v' M ∧ Below w.heap.size w w' := by
 have := zJf v m w hm ho
 rw [h] at this
 refine this.mono ?_
 rintro e w' ⟨⟨v', rfl, hv'⟩, hb⟩
 exact ⟨v', rfl, hv', hb⟩
end Go.Proofs.YtamldhflkfbdnaaGreatDoor.Mem
namespace Go.Proofs.YtamldhflkfbdnaaGreatDoor.Mem
open Go.ChangeShapes Go.WideShapes Go.RowKit Base Num Slc Slf Rw Tmr Srl Rom Opl Reg

theorem zPt (m : Mc) : m.call.2 = -1 ∨ 0 ≤ m.call.2 := by
 unfold Mc.call
 split
 ·exact .inl rfl
 split
 ·exact .inl rfl
 ·rcases zFg m.fl m.ms with h | h | h | h
  ·exact .inl h
  all_goals (refine .inr ?_; show 0 ≤ Mem.pend m.fl m.ms; omega)
theorem zJu {q n : Int} (h : 0 ≤ n) : outs q n = -1 ∨ 0 ≤ outs q n := by
 unfold outs
 split
 ·exact .inr h
 ·exact .inl rfl
theorem zPr {m : Mc} (h : m.ok = true) (n : Int) (k : Nat) : (m.does n k).2 = -1 ∨ 0 ≤ (m.does n k).2 := by
 have ha := (xI.1 (okm.1 h).a).1
 have hp := (xI.1 (okm.1 h).pc).1
 unfold Mc.does
 split <;> first | exact .inl rfl | exact zJu ha | exact zJu hp
theorem zPo {m : Mc} (h : m.ok = true) : m.exec.2.2 = -1 ∨ 0 ≤ m.exec.2.2 := by
 unfold Mc.exec
 split
 ·exact .inl rfl
 split
 ·exact .inl rfl
 ·exact zPr (zQ9 h) _ _
section
variable {op : Oper} {a : Act} {w : World} {Q : Exit → Act → World → Prop} {p : Operand} {ops : Array Oper} {rest : List Oper}
theorem zOa {fn : Func} {R : Ending → World → Prop} {q : Tmp} {g : Nat} {x y vo ve vi : Value} {s : St} {co fin : Int} (h : fn.results = #[.cell q 99]) (hp : a.tmps.getD q undef = .pointer (some ⟨g, 0, none⟩)) (hr : GRow w g x y vo ve vi s co fin) (hde : a.defers = []) (hR : R (.returned (gval x y vo ve vi s co fin)) w) :
  bodyPost Tryz.prog fn R .ret a w := qQ h hp hr Tryz.underlying99 rfl zNt hde hR
end
theorem zC0 (v x y : Value) (m : Mc) (C K : Int) (w : World) (hv : v = m.val x y) (hx : x.oneCell' = true) (hy : y.oneCell' = true) (hk : m.k = K) (h0 : 0 ≤ K ∧ K ≤ 1000000000) (hC : 0 ≤ C ∧ C ≤ 5) :
  Calls Tryz.prog 135 #[v, .int .i64 C] w fun e w' => e = .returned (gval x y zY zY zY ⟨m, [], [], 0⟩ C (K + C)) ∧ Below w.heap.size w w' := by
 have HK : Hid (m.k = K) := hk
 clear hk
 go_enter Tryz.func135, Tryz.ntmps135
 go_wp2_with (first
  | (refine zP rfl rfl hv ?_; intro w0 r0 hb0; have ck : w0.cell? ⟨w.heap.size, 24, none⟩ = some (.int .i64 K) := by rw [← HK.out]; exact (cw r0).k)
  | (refine al_g rfl rfl ?_; intro w1 z1 hb1; have r1 := r0.below hb1; have lr := r0.lt; have ck1 : w1.cell? ⟨w.heap.size, 24, none⟩ = some (.int .i64 K) := by rw [hb1.cell (p := ⟨w.heap.size, 24, none⟩) lr]; exact ck)
  | (refine zI rfl rfl rfl r1 ?_)
  | (refine zEu rfl rfl rfl ?_)
  | (refine bd_g rfl rfl rfl rfl rfl ?_)
  | (refine st_g rfl rfl rfl rfl z1 hx hy rfl rfl rfl ?_; rintro w2 z2 o2 -; have hB := zA (zD hb0 hb1) o2 (by omega)))
 refine zOa rfl rfl z2 rfl ?_
 exact ⟨rfl, hB⟩
theorem zRb {w2 w3 w4 : World} (hb : Below w2.heap.size w2 w3) (ho : Onto w2.heap.size w3 w4) : Below w2.heap.size w2 w4 := zA hb ho (Nat.le_refl _)
def Bgn (base : Nat) (w w' : World) (e : Ending) (m : Mc) : Prop := ∃ x y vo ve, e = .returned (gval x y vo ve zY (St.first m) m.turn.2.1 m.fin) ∧ So base w' x y vo ve (St.first m) ∧ Below w.heap.size w w'
set_option maxHeartbeats 2000000 in
theorem zIu (v : Value) (m : Mc) (w : World) (hm : MSl w v m) (hok : m.ok = true) (ho : jK w) :
  Calls Tryz.prog 60 #[v] w fun e w' => Bgn w.heap.size w w' e m := by
 have hL := zJi hok
 have hcst := zJj m
 have hkk : 0 ≤ m.k ∧ m.k ≤ 1000000000 := by
  have h1 := (okm.1 hok).k
  have h2 := (Tm.ok_true (okm.1 hok).t).1
  omega
 obtain ⟨M1, I, hC⟩ : ∃ M1 I, m.call = (M1, I) := ⟨_, _, rfl⟩
 have hct := zPt m
 rw [hC] at hct
 have HC : Hid (m.called = (M1, I)) := show _ = _ by unfold Mc.called; rw [if_pos hok, hC]
 obtain ⟨x, y, hv, hr, ha⟩ := hm
 by_cases hI : I = -1
 ·have HC1 : Hid (I = -1) := hI
  subst hI
  have hok1 : M1.ok = true := by
   have := (zGg hok).1
   rw [hC] at this; exact this
  obtain ⟨M2, C, U, hR⟩ : ∃ M2 C U, M1.exec = (M2, C, U) := ⟨_, _, _, rfl⟩
  have hU := zPo hok1
  rw [hR] at hU
  have HR : Hid (M1.execd = (M2, C, U)) := show _ = _ by unfold Mc.execd; rw [if_pos hok1, hR]
  obtain ⟨K, hK⟩ : ∃ K, m.k = K := ⟨_, rfl⟩
  have HU : Hid (U = -1 ∨ 0 ≤ U) := hU
  by_cases hU1 : U = -1
  ·subst hU1
   have ht : m.turn = (M2, C, []) := by unfold Mc.turn; rw [hC]; simp only []; rw [if_pos (by decide), hR]; simp only []; rw [if_neg (by decide)]
   rw [ht] at hL hcst
   simp only [] at hcst
   have HF : Hid (St.first m = ⟨M2, [], [], 0⟩ ∧ m.turn.2.1 = C ∧ m.fin = m.k + C) := by
    refine ⟨?_, ?_, ?_⟩
    ·unfold St.first; rw [ht]
    ·rw [ht]
    ·unfold Mc.fin; rw [ht]
   have HKK : Hid (M2.k = m.k) := show _ = _ from hL.2.1
   skip
   clear hL hC hct ht hR hU hok1 HC1
   rw [hK] at HF HKK hkk
   clear hK
   go_enter Tryz.func60, Tryz.ntmps60
   go_wp2_with (first
    | (refine zP rfl rfl hv ?_; intro w0 r0 hb0; have hr0 := hr.below hb0; have ha0 := ha.below hb0; have oo0 := ho.below hb0)
    | (refine al_g rfl rfl ?_; intro w1 z1 hb1; have r1 := r0.below hb1; have hr1 := hr0.below hb1; have ha1 := ha0.below hb1; have oo1 := oo0.below hb1; have hB1 := zD hb0 hb1; have s0 := hb0.size; have s1 := hb1.size; have lz1 := z1.lt)
    | (refine zI rfl rfl rfl r1 ?_)
    | (go_at_call 134; refine (zBa HC.out _ _ ⟨x, y, rfl, hr1, ha1⟩).mono ?_; rintro e w2 ⟨v2, rfl, ⟨x2, y2, rfl, hx2, hy2, ap2⟩, hb2⟩; have s2 := hb2.size; have z2 := z1.below hb2; have hB2 := zD hB1 hb2; have oo2 := oo1.below hb2)
    | (refine zR rfl rfl ?_; intro w3 q3 hb3; have z3 := z2.below hb3; have hx3 := hx2.below hb3; have hy3 := hy2.below hb3; have hB3 := zD hB2 hb3; have s3 := hb3.size; have lq3 := q3.lt; have oo3 := oo2.below hb3)
    | (refine zL rfl rfl rfl rfl q3 (zB hx3) (zB hy3) ?_; rintro w4 q4 o4 -; have z4 := z3.onto o4 (by omega); have b34 := zRb hb3 o4; have hx4 := hx2.below b34; have hy4 := hy2.below b34; have hB4 := zA hB3 o4 (by omega); have s4 := o4.size; have oo4 := oo2.below b34)
    | (refine zI rfl rfl rfl q4 ?_)
    | (go_at_call 137; refine (zD7 HR.out _ _ ⟨x2, y2, rfl, hx4.sl, hy4.sl⟩ oo4).mono ?_; rintro e w5 ⟨v5, rfl, ⟨x5, y5, rfl, hx5, hy5, ap5⟩, hb5⟩; have s5 := hb5.size; have O5 : Ow w.heap.size w5 x5 y5 M2 := ⟨hx5.mono (by omega), hy5.mono (by omega), ap5, by omega⟩; have z5 := z4.below hb5; have hB5 := zD hB4 hb5)
    | (refine zR rfl rfl ?_; intro w6 q6 hb6; have z6 := z5.below hb6; have O6 := O5.below hb6; have hB6 := zD hB5 hb6; have s6 := hb6.size; have lq6 := q6.lt)
    | (refine zL rfl rfl rfl rfl q6 (zB O6.hx) (zB O6.hy) ?_; rintro w7 q7 o7 -; have z7 := z6.onto o7 (by omega); have O7 := O6.at o7 (zF O6.hx q6 (by decide)) (zF O6.hy q6 (by decide)); have hB7 := zA hB6 o7 (by omega); have s7 := o7.size)
    | (refine zI rfl rfl rfl q7 ?_)
    | (go_at_call 135; refine (zC0 _ x5 y5 M2 C K _ rfl (zB O7.hx) (zB O7.hy) HKK.out hkk (by omega)).mono ?_; rintro e w8 ⟨rfl, hb8⟩; have z8 := z7.below hb8; have O8 := O7.below hb8; have hB8 := zD hB7 hb8; have s8 := hb8.size)
    | (refine al_g rfl rfl ?_; intro w9 g9 hb9; have z9 := z8.below hb9; have O9 := O8.below hb9; have hB9 := zD hB8 hb9; have s9 := hb9.size; have lg9 := g9.lt)
    | (refine st_g rfl rfl rfl rfl g9 (zB O9.hx) (zB O9.hy) rfl rfl rfl ?_; rintro wa ga oa -; have za := z9.onto oa (by omega); have Oa := O9.at oa (zF O9.hx g9 (by decide)) (zF O9.hy g9 (by decide)); have hBa := zA hB9 oa (by omega); have sa := oa.size; have kf := (gc ga).fin; have Ya : So w.heap.size wa x5 y5 zY zY ⟨M2, [], [], 0⟩ := ⟨Oa, OwnF.nil _ _ _, OwnF.nil _ _ _⟩)
    | (refine ld_g rfl rfl rfl ga ?_)
    | (refine st_g rfl rfl rfl rfl za (zB Ya.ow.hx) (zB Ya.ow.hy) rfl rfl rfl ?_; rintro wc zc oc -; have Yc := Ya.row oc za xE (by decide); have hBc := zA hBa oc (by omega)))
   refine zOa rfl rfl zc rfl ?_
   unfold Bgn
   rw [HF.out.1, HF.out.2.1, HF.out.2.2]
   exact ⟨x5, y5, zY, zY, rfl, Yc, hBc⟩
  ·have hU0 : 0 ≤ U := hU.resolve_left hU1
   have ht : m.turn = (M2, C, [⟨m.k + C, 1, U⟩]) := by unfold Mc.turn; rw [hC]; simp only []; rw [if_pos (by decide), hR]; simp only []; rw [if_pos hU0]
   rw [ht] at hL hcst
   simp only [] at hcst
   have HF : Hid (St.first m = ⟨M2, [], [⟨m.k + C, 1, U⟩], 0⟩ ∧ m.turn.2.1 = C ∧ m.fin = m.k + C) := by
    refine ⟨?_, ?_, ?_⟩
    ·unfold St.first; rw [ht]
    ·rw [ht]
    ·unfold Mc.fin; rw [ht]
   have HKK : Hid (M2.k = m.k) := show _ = _ from hL.2.1
   have bU : (U == -1) = false := by simp; omega
   clear hL hC hct ht hR hU hok1 HC1
   rw [hK] at HF HKK hkk
   clear hK
   go_enter Tryz.func60, Tryz.ntmps60
   go_wp2_with (first
    | (refine zP rfl rfl hv ?_; intro w0 r0 hb0; have hr0 := hr.below hb0; have ha0 := ha.below hb0; have oo0 := ho.below hb0)
    | (refine al_g rfl rfl ?_; intro w1 z1 hb1; have r1 := r0.below hb1; have hr1 := hr0.below hb1; have ha1 := ha0.below hb1; have oo1 := oo0.below hb1; have hB1 := zD hb0 hb1; have s0 := hb0.size; have s1 := hb1.size; have lz1 := z1.lt)
    | (refine zI rfl rfl rfl r1 ?_)
    | (go_at_call 134; refine (zBa HC.out _ _ ⟨x, y, rfl, hr1, ha1⟩).mono ?_; rintro e w2 ⟨v2, rfl, ⟨x2, y2, rfl, hx2, hy2, ap2⟩, hb2⟩; have s2 := hb2.size; have z2 := z1.below hb2; have hB2 := zD hB1 hb2; have oo2 := oo1.below hb2)
    | (refine zR rfl rfl ?_; intro w3 q3 hb3; have z3 := z2.below hb3; have hx3 := hx2.below hb3; have hy3 := hy2.below hb3; have hB3 := zD hB2 hb3; have s3 := hb3.size; have lq3 := q3.lt; have oo3 := oo2.below hb3)
    | (refine zL rfl rfl rfl rfl q3 (zB hx3) (zB hy3) ?_; rintro w4 q4 o4 -; have z4 := z3.onto o4 (by omega); have b34 := zRb hb3 o4; have hx4 := hx2.below b34; have hy4 := hy2.below b34; have hB4 := zA hB3 o4 (by omega); have s4 := o4.size; have oo4 := oo2.below b34)
    | (refine zI rfl rfl rfl q4 ?_)
    | (go_at_call 137; refine (zD7 HR.out _ _ ⟨x2, y2, rfl, hx4.sl, hy4.sl⟩ oo4).mono ?_; rintro e w5 ⟨v5, rfl, ⟨x5, y5, rfl, hx5, hy5, ap5⟩, hb5⟩; have s5 := hb5.size; have O5 : Ow w.heap.size w5 x5 y5 M2 := ⟨hx5.mono (by omega), hy5.mono (by omega), ap5, by omega⟩; have z5 := z4.below hb5; have hB5 := zD hB4 hb5)
    | (refine zR rfl rfl ?_; intro w6 q6 hb6; have z6 := z5.below hb6; have O6 := O5.below hb6; have hB6 := zD hB5 hb6; have s6 := hb6.size; have lq6 := q6.lt)
    | (refine zL rfl rfl rfl rfl q6 (zB O6.hx) (zB O6.hy) ?_; rintro w7 q7 o7 -; have z7 := z6.onto o7 (by omega); have O7 := O6.at o7 (zF O6.hx q6 (by decide)) (zF O6.hy q6 (by decide)); have hB7 := zA hB6 o7 (by omega); have s7 := o7.size)
    | (refine zI rfl rfl rfl q7 ?_)
    | (go_at_call 135; refine (zC0 _ x5 y5 M2 C K _ rfl (zB O7.hx) (zB O7.hy) HKK.out hkk (by omega)).mono ?_; rintro e w8 ⟨rfl, hb8⟩; have z8 := z7.below hb8; have O8 := O7.below hb8; have hB8 := zD hB7 hb8; have s8 := hb8.size)
    | (refine al_g rfl rfl ?_; intro w9 g9 hb9; have z9 := z8.below hb9; have O9 := O8.below hb9; have hB9 := zD hB8 hb9; have s9 := hb9.size; have lg9 := g9.lt)
    | (refine st_g rfl rfl rfl rfl g9 (zB O9.hx) (zB O9.hy) rfl rfl rfl ?_; rintro wa ga oa -; have za := z9.onto oa (by omega); have Oa := O9.at oa (zF O9.hx g9 (by decide)) (zF O9.hy g9 (by decide)); have hBa := zA hB9 oa (by omega); have sa := oa.size; have kf := (gc ga).fin; have Ya : So w.heap.size wa x5 y5 zY zY ⟨M2, [], [], 0⟩ := ⟨Oa, OwnF.nil _ _ _, OwnF.nil _ _ _⟩)
    | (go_at_call 136; refine (zFw (K + C) 1 U ga Ya (by simp)).mono ?_; rintro e wb ⟨rfl, vo8, ve8, gb, Yb, Mb⟩; have zb := Mb.row za xE (by omega); have hBb : Below w.heap.size w wb := hBa.trans (Mb.below (by omega) hBa.size); have sb := Mb.size)
    | (refine ld_g rfl rfl rfl gb ?_)
    | (refine st_g rfl rfl rfl rfl zb (zB Yb.ow.hx) (zB Yb.ow.hy) (Yb.o.one okM) (Yb.e.one okE) rfl ?_; rintro wc zc oc -; have Yc := Yb.row oc zb xE (by decide); have hBc := zA hBb oc (by omega)))
   refine zOa rfl rfl zc rfl ?_
   unfold Bgn
   rw [HF.out.1, HF.out.2.1, HF.out.2.2]
   exact ⟨x5, y5, vo8, ve8, rfl, Yc, hBc⟩
 ·have hI0 : 0 ≤ I := hct.resolve_left hI
  have ht : m.turn = (M1, 5, [⟨m.k + 5, 2, I⟩]) := by unfold Mc.turn; rw [hC]; simp only []; rw [if_neg (by omega)]
  have HF : Hid (St.first m = ⟨M1, [], [⟨m.k + 5, 2, I⟩], 0⟩ ∧ m.turn.2.1 = 5 ∧ m.fin = m.k + 5) := by
   refine ⟨?_, ?_, ?_⟩
   ·unfold St.first; rw [ht]
   ·rw [ht]
   ·unfold Mc.fin; rw [ht]
  have HKK : Hid (M1.k = m.k) := show _ = _ by rw [ht] at hL; exact hL.2.1
  have bI : (I == -1) = false := by simpa using hI
  clear hL hcst hC hct ht hI
  obtain ⟨K, hK⟩ : ∃ K, m.k = K := ⟨_, rfl⟩
  rw [hK] at HF HKK hkk
  clear hK
  go_enter Tryz.func60, Tryz.ntmps60
  go_wp2_with (first
   | (refine zP rfl rfl hv ?_; intro w0 r0 hb0; have hr0 := hr.below hb0; have ha0 := ha.below hb0)
   | (refine al_g rfl rfl ?_; intro w1 z1 hb1; have r1 := r0.below hb1; have hr1 := hr0.below hb1; have ha1 := ha0.below hb1; have hB1 := zD hb0 hb1; have s0 := hb0.size; have s1 := hb1.size; have lz1 := z1.lt)
   | (refine zI rfl rfl rfl r1 ?_)
   | (go_at_call 134; refine (zBa HC.out _ _ ⟨x, y, rfl, hr1, ha1⟩).mono ?_; rintro e w2 ⟨v2, rfl, ⟨x2, y2, rfl, hx2, hy2, ap2⟩, hb2⟩; have s2 := hb2.size; have O2 : Ow w.heap.size w2 x2 y2 M1 := ⟨hx2.mono (by omega), hy2.mono (by omega), ap2, by omega⟩; have z2 := z1.below hb2; have hB2 := zD hB1 hb2)
   | (refine zR rfl rfl ?_; intro w3 q3 hb3; have z3 := z2.below hb3; have O3 := O2.below hb3; have hB3 := zD hB2 hb3; have s3 := hb3.size; have lq3 := q3.lt)
   | (refine zL rfl rfl rfl rfl q3 (zB O3.hx) (zB O3.hy) ?_; rintro w4 q4 o4 -; have z4 := z3.onto o4 (by omega); have O4 := O3.at o4 (zF O3.hx q3 (by decide)) (zF O3.hy q3 (by decide)); have hB4 := zA hB3 o4 (by omega); have s4 := o4.size)
   | (refine zI rfl rfl rfl q4 ?_)
   | (go_at_call 135; refine (zC0 _ x2 y2 M1 5 K _ rfl (zB O4.hx) (zB O4.hy) HKK.out hkk (by decide)).mono ?_; rintro e w5 ⟨rfl, hb5⟩; have z5 := z4.below hb5; have O5 := O4.below hb5; have hB5 := zD hB4 hb5; have s5 := hb5.size)
   | (refine al_g rfl rfl ?_; intro w6 g6 hb6; have z6 := z5.below hb6; have O6 := O5.below hb6; have hB6 := zD hB5 hb6; have s6 := hb6.size; have lg6 := g6.lt)
   | (refine st_g rfl rfl rfl rfl g6 (zB O6.hx) (zB O6.hy) rfl rfl rfl ?_; rintro w7 g7 o7 -; have z7 := z6.onto o7 (by omega); have O7 := O6.at o7 (zF O6.hx g6 (by decide)) (zF O6.hy g6 (by decide)); have hB7 := zA hB6 o7 (by omega); have s7 := o7.size; have kf := (gc g7).fin; have Y7 : So w.heap.size w7 x2 y2 zY zY ⟨M1, [], [], 0⟩ := ⟨O7, OwnF.nil _ _ _, OwnF.nil _ _ _⟩)
   | (go_at_call 136; refine (zFw (K + 5) 2 I g7 Y7 (by simp)).mono ?_; rintro e w8 ⟨rfl, vo8, ve8, g8, Y8, M8⟩; have z8 := M8.row z7 xE (by omega); have hB8 : Below w.heap.size w w8 := hB7.trans (M8.below (by omega) hB7.size); have s8 := M8.size)
   | (refine ld_g rfl rfl rfl g8 ?_)
   | (refine st_g rfl rfl rfl rfl z8 (zB Y8.ow.hx) (zB Y8.ow.hy) (Y8.o.one okM) (Y8.e.one okE) rfl ?_; rintro w9 z9 o9 -; have Y9 := Y8.row o9 z8 xE (by decide); have hB9 := zA hB8 o9 (by omega)))
  refine zOa rfl rfl z9 rfl ?_
  unfold Bgn
  rw [HF.out.1, HF.out.2.1, HF.out.2.2]
  exact ⟨x2, y2, vo8, ve8, rfl, Y9, hB9⟩
def AnsT (base : Nat) (w' : World) (e : Ending) (r : St × Bool) : Prop := ∃ x y vo ve, e = .returned (.tuple #[r.1.val x y vo ve, .bool r.2]) ∧ So base w' x y vo ve r.1
theorem zEi (base : Nat) (w : World) (h : base ≤ w.heap.size) : So base w zY zY zY zY St.nul := ⟨⟨Own.nil _ _, Own.nil _ _, (by intro k hk; cases hk), h⟩, OwnF.nil _ _ _, OwnF.nil _ _ _⟩
section
variable {ops : Array Oper} {rest : List Oper} {op : Oper} {a : Act} {w : World} {Q : Exit → Act → World → Prop} {p : Operand} {g : Nat} {x y vo ve : Value} {s : St}
theorem zVm (hw : Region.wanted op (yielded ops a.tmps) = true) (ho : op.op = .load 30 p) (hx : a.eval p = .pointer (some ⟨g, 0, none⟩)) (hr : SRow w g x y vo ve s)
  (h : wpList Tryz.prog ops Q rest (a.put op.dst (s.m.val x y)) w) : wpList Tryz.prog ops Q (op :: rest) a w :=
 wpList_step fun K hK => by
  rw [if_pos hw]
  exact zFj (cs' := s.m.cells x y) ho hx hr Tryz.underlying30 rfl (zLh x y vo ve s) jB (hK _ _ h)
end
set_option maxHeartbeats 2000000 in
theorem zK9 (v vi : Value) (m : Mc) (l : List M3) (w : World) (hm : MSl w v m) (hs : SlF fM w vi l) :
  Calls Tryz.prog 13 #[v, vi] w fun e w' => AnsT w.heap.size w' e (stepOf m l) ∧ Below w.heap.size w w' := by
 obtain ⟨x, y, hv, hr, ha⟩ := hm
 obtain ⟨r, HX⟩ : ∃ r, Hid (r = stepOf m l) := ⟨_, show _ = _ from rfl⟩
 rw [← HX.out]
 cases hok : m.ok
 ·have HX' : Hid (r = (St.nul, false)) := show _ = _ by rw [HX.out]; exact vJ (by rw [hok]; simp)
  go_enter Tryz.func13, Tryz.ntmps13
  go_wp2_with (first
   | (refine zP rfl rfl hv ?_; intro w0 r0 hb0; have hr0 := hr.below hb0; have ha0 := ha.below hb0)
   | (refine xV rfl rfl ?_; intro w1 z1 hb1; have r1 := r0.below hb1; have hB1 := zD hb0 hb1; have hr1 := hr0.below hb1; have ha1 := ha0.below hb1)
   | (refine zI rfl rfl rfl r1 ?_)
   | (go_at_call 64; refine (vU _ m _ ⟨x, y, rfl, hr1, ha1⟩).mono ?_; rw [hok]; rintro e w2 ⟨rfl, hb2⟩; have z2 := z1.below hb2; have hB2 := zD hB1 hb2; have lz := z1.lt; have s2 := hB2.size; have s0 := hb0.size)
   | (refine zFr rfl rfl ?_)
   | (refine st_s rfl rfl rfl rfl z2 rfl rfl rfl rfl ?_; rintro w3 z3 o3 -; have hB3 := zA hB2 o3 (by omega)))
  refine vQ rfl rfl z3 rfl rfl ?_
  rw [HX'.out]
  exact ⟨⟨_, _, _, _, rfl, zEi _ _ hB3.size⟩, hB3⟩
 ·cases hio : qH l
  ·have HX' : Hid (r = (St.nul, false)) := show _ = _ by rw [HX.out]; exact vJ (by rw [hio]; simp)
   go_enter Tryz.func13, Tryz.ntmps13
   go_wp2_with (first
    | (refine zP rfl rfl hv ?_; intro w0 r0 hb0; have hr0 := hr.below hb0; have ha0 := ha.below hb0; have hs0 := hs.below hb0)
    | (refine xV rfl rfl ?_; intro w1 z1 hb1; have r1 := r0.below hb1; have hB1 := zD hb0 hb1; have hr1 := hr0.below hb1; have ha1 := ha0.below hb1; have hs1 := hs0.below hb1)
    | (refine zI rfl rfl rfl r1 ?_)
    | (go_at_call 64; refine (vU _ m _ ⟨x, y, rfl, hr1, ha1⟩).mono ?_; rw [hok]; rintro e w2 ⟨rfl, hb2⟩; have z2 := z1.below hb2; have hB2 := zD hB1 hb2; have lz := z1.lt; have s2 := hB2.size; have s0 := hb0.size; have hs2 := hs1.below hb2)
    | (go_at_call 21; refine (xU _ l _ hs2).mono ?_; rw [hio]; rintro e w5 ⟨rfl, hb5⟩; have z5 := z2.below hb5; have hB5 := zD hB2 hb5; have s5 := hb5.size)
    | (refine zFr rfl rfl ?_)
    | (refine st_s rfl rfl rfl rfl z5 rfl rfl rfl rfl ?_; rintro w3 z3 o3 -; have hB3 := zA hB5 o3 (by omega)))
   refine vQ rfl rfl z3 rfl rfl ?_
   rw [HX'.out]
   exact ⟨⟨_, _, _, _, rfl, zEi _ _ hB3.size⟩, hB3⟩
  ·have hrom := (zF3 (okm.1 hok).rom).2
   have hram := (okm.1 hok).len
   have HOK : Hid (m.ok = true) := hok
   have HIO : Hid (qH l = true) := hio
   by_cases hf : m.fin ≤ 999999900
   ·have HX' : Hid (r = (m.stepped l, true)) := show _ = _ by rw [HX.out]; exact zBe hok hio hf
    have HR : Hid (m.step' l = (m.stepped l, true)) := show _ = _ by unfold Mc.step'; rw [if_pos hf]
    have HD : Hid ((m.stepped l).m.ok = true) := (zB2 hok hio hf).ok
    obtain ⟨S, hS⟩ : ∃ S, m.stepped l = S := ⟨_, rfl⟩
    rw [hS] at HX' HR HD
    clear hS
    go_enter Tryz.func13, Tryz.ntmps13
    go_wp2_with (first
     | (go_at_call 64; refine (vU _ S.m _ ⟨x6, y6, rfl, Y9.ow.hx.sl, Y9.ow.hy.sl⟩).mono ?_; rw [HD.out]; rintro e w10 ⟨rfl, hb10⟩; have q10 := q9.below hb10; have z10 := z9.below hb10; have Y10 := Y9.below hb10; have hB10 := zD hB9 hb10)
     | (refine zP rfl rfl hv ?_; intro w0 r0 hb0; have hr0 := hr.below hb0; have ha0 := ha.below hb0; have hs0 := hs.below hb0)
     | (refine xV rfl rfl ?_; intro w1 z1 hb1; have r1 := r0.below hb1; have hB1 := zD hb0 hb1; have hr1 := hr0.below hb1; have ha1 := ha0.below hb1; have hs1 := hs0.below hb1)
     | (refine zI rfl rfl rfl r1 ?_)
     | (go_at_call 64; refine (vU _ m _ ⟨x, y, rfl, hr1, ha1⟩).mono ?_; rw [hok]; rintro e w2 ⟨rfl, hb2⟩; have z2 := z1.below hb2; have r2 := r1.below hb2; have hB2 := zD hB1 hb2; have lz := z1.lt; have s2 := hB2.size; have s0 := hb0.size; have hs2 := hs1.below hb2; have hr2 := hr1.below hb2; have ha2 := ha1.below hb2; have t2 := hb2.size)
     | (go_at_call 21; refine (xU _ l _ hs2).mono ?_; rw [hio]; rintro e w5 ⟨rfl, hb5⟩; have z5 := z2.below hb5; have r5 := r2.below hb5; have hB5 := zD hB2 hb5; have s5 := hb5.size; have hs5 := hs2.below hb5; have hr5 := hr2.below hb5; have ha5 := ha2.below hb5)
     | (refine zI rfl rfl rfl r5 ?_)
     | (go_at_call 66; refine (zGt _ m _ ⟨x, y, rfl, hr5, ha5⟩ (by omega) (by omega)).mono ?_; rintro e w6 ⟨v6, rfl, ⟨x6, y6, rfl, hx6, hy6, hxy6⟩, hb6⟩; have z6 := z5.below hb6; have hB6 := zD hB5 hb6; have s6 := hb6.size; have hs6 := hs5.below hb6)
     | (go_at_call 65; refine (zGs _ _ x6 y6 m l _ w5.heap.size rfl ⟨hx6, hy6, hxy6, s6⟩ HOK.out hs6 (fun h0 k hk => hs5.lt h0 k hk) HIO.out).mono ?_; rw [HR.out]; rintro e w7 ⟨K7, H7⟩
        obtain ⟨-, vo, ve, rfl, Y7⟩ : _ ∧ _ := H7.resolve_right (by rintro ⟨hh, -⟩; cases hh)
        have hB7 : Below w.heap.size w w7 := hB6.trans ((K7.below (by omega)).mono (by omega))
        have z7 := K7.row z6 zJ (by decide))
     | (refine xV rfl rfl ?_; intro w8 q8 hb8; have z8 := z7.below hb8; have hB8 := zD hB7 hb8; have Y8 := Y7.below hb8; have l8 := z7.lt)
     | (refine st_s rfl rfl rfl rfl q8 (zB Y8.ow.hx) (zB Y8.ow.hy) (Y8.o.one okM) (Y8.e.one okE) ?_; rintro w9 q9 o9 -; have z9 := z8.onto o9 (by omega); have Y9 := Y8.row o9 q8 zJ (by decide); have s7 := K7.size; have hB9 := zA hB8 o9 (by omega))
     | (refine zVm rfl rfl rfl q9 ?_)
     | (refine vP rfl rfl rfl q10 ?_)
     | (refine st_s rfl rfl rfl rfl z10 (zB Y10.ow.hx) (zB Y10.ow.hy) (Y10.o.one okM) (Y10.e.one okE) ?_; rintro w11 z11 o11 -; have Y11 := Y10.row o11 z10 zJ (by decide); have hB11 := zA hB10 o11 (by omega)))
    refine vQ rfl rfl z11 rfl rfl ?_
    rw [HX'.out]
    exact ⟨⟨x6, y6, vo, ve, rfl, ⟨⟨Y11.ow.hx.mono (by omega), Y11.ow.hy.mono (by omega), Y11.ow.ap, hB11.size⟩, Y11.o.mono (by omega), Y11.e.mono (by omega)⟩⟩, hB11⟩
   ·have HX' : Hid (r = (St.nul, false)) := show _ = _ by rw [HX.out]; exact vJ (fun h => hf h.2.2)
    have HR : Hid (m.step' l = (St.nul, false)) := show _ = _ by unfold Mc.step'; rw [if_neg hf]
    go_enter Tryz.func13, Tryz.ntmps13
    go_wp2_with (first
     | (refine zP rfl rfl hv ?_; intro w0 r0 hb0; have hr0 := hr.below hb0; have ha0 := ha.below hb0; have hs0 := hs.below hb0)
     | (refine xV rfl rfl ?_; intro w1 z1 hb1; have r1 := r0.below hb1; have hB1 := zD hb0 hb1; have hr1 := hr0.below hb1; have ha1 := ha0.below hb1; have hs1 := hs0.below hb1)
     | (refine zI rfl rfl rfl r1 ?_)
     | (go_at_call 64; refine (vU _ m _ ⟨x, y, rfl, hr1, ha1⟩).mono ?_; rw [hok]; rintro e w2 ⟨rfl, hb2⟩; have z2 := z1.below hb2; have r2 := r1.below hb2; have hB2 := zD hB1 hb2; have lz := z1.lt; have s2 := hB2.size; have s0 := hb0.size; have hs2 := hs1.below hb2; have hr2 := hr1.below hb2; have ha2 := ha1.below hb2; have t2 := hb2.size)
     | (go_at_call 21; refine (xU _ l _ hs2).mono ?_; rw [hio]; rintro e w5 ⟨rfl, hb5⟩; have z5 := z2.below hb5; have r5 := r2.below hb5; have hB5 := zD hB2 hb5; have s5 := hb5.size; have hs5 := hs2.below hb5; have hr5 := hr2.below hb5; have ha5 := ha2.below hb5)
     | (refine zI rfl rfl rfl r5 ?_)
     | (go_at_call 66; refine (zGt _ m _ ⟨x, y, rfl, hr5, ha5⟩ (by omega) (by omega)).mono ?_; rintro e w6 ⟨v6, rfl, ⟨x6, y6, rfl, hx6, hy6, hxy6⟩, hb6⟩; have z6 := z5.below hb6; have hB6 := zD hB5 hb6; have s6 := hb6.size; have hs6 := hs5.below hb6)
     | (go_at_call 65; refine (zGs _ _ x6 y6 m l _ w5.heap.size rfl ⟨hx6, hy6, hxy6, s6⟩ HOK.out hs6 (fun h0 k hk => hs5.lt h0 k hk) HIO.out).mono ?_; rw [HR.out]; rintro e w7 ⟨K7, H7⟩
        obtain ⟨-, rfl⟩ : _ ∧ _ := H7.resolve_left (by rintro ⟨hh, -⟩; cases hh)
        have hB7 : Below w.heap.size w w7 := hB6.trans ((K7.below (by omega)).mono (by omega))
        have z7 := K7.row z6 zJ (by decide))
     | (refine xV rfl rfl ?_; intro w8 q8 hb8; have z8 := z7.below hb8; have hB8 := zD hB7 hb8; have l8 := z7.lt)
     | (refine st_s rfl rfl rfl rfl q8 rfl rfl rfl rfl ?_; rintro w9 q9 o9 -; have z9 := z8.onto o9 (by omega); have s7 := K7.size; have hB9 := zA hB8 o9 (by omega))
     | (refine zFr rfl rfl ?_)
     | (refine st_s rfl rfl rfl rfl z9 rfl rfl rfl rfl ?_; rintro w11 z11 o11 -; have hB11 := zA hB9 o11 (by omega)))
    refine vQ rfl rfl z11 rfl rfl ?_
    rw [HX'.out]
    exact ⟨⟨_, _, _, _, rfl, zEi _ _ hB11.size⟩, hB11⟩
end Go.Proofs.YtamldhflkfbdnaaGreatDoor.Mem
namespace Go.Proofs.YtamldhflkfbdnaaGreatDoor.Mem
open Go.ChangeShapes Go.WideShapes Go.RowKit Base Draw Slc Num Rw Tmr Srl Rom RomOf Reg

theorem MDr.mono {base base' : Nat} {W : World} {x y : Value} {M : Mc} (h : MDr base W x y M) (hb : base' ≤ base) : MDr base' W x y M := ⟨h.o1.mono hb, h.s2, fun k hk => Nat.le_trans hb (h.b1 k hk), fun k hk => Nat.le_trans hb (h.b2 k hk), h.l0, h.l1, h.l2, h.pc, h.ap, h.m0⟩
section
variable {w wd W W' : World} {p : Nat} {a : Option Addr} {len cap g gr base b n c : Nat} {x y : Value} {M : Mc}
theorem Gdm.cellX (h : Gdm w wd p a len cap g gr base (.slice (some ⟨b, 0, none⟩) n c) y M W) (hP : Pd w wd p a len g gr base) (hb : b < g) (hcode : 0 < len → ∀ x, a = some x → x.block < base) (j : Nat) (z : Int) :
  Gdm w wd p a len cap g gr base (.slice (some ⟨b, 0, none⟩) n c) y { M with rom := M.rom.set j z } (W.setCell ⟨b, j, none⟩ (.int .i64 z)) := by
 have := hP.n0; have := hP.n1; have := hP.n2; have := hP.n3; have := hP.n4
 have hbb := h.md.b1 b rfl
 have ho : Onto b W (W.setCell ⟨b, j, none⟩ (.int .i64 z)) := (Onto.refl b W).setCell rfl _
 have hm := h.md
 exact ⟨h.cur.onto ho (by omega) (fun h0 x hx e => by have := hcode h0 x hx; omega), h.row.onto ho (by omega), h.res.imp fun _ r => ⟨r.1, r.2.onto ho (by omega)⟩,
  ⟨(hm.o1.store j z).1, zDe hm.s2 ho (fun e => hm.ap b rfl e), hm.b1, hm.b2, by simpa using hm.l0, by simpa using hm.l1, hm.l2, hm.pc, hm.ap, hm.m0⟩, zA h.bel ho (by omega)⟩
theorem Gdm.field {M' : Mc} (h : Gdm w wd p a len cap g gr base x y M W) (hP : Pd w wd p a len g gr base) (hcode : 0 < len → ∀ x, a = some x → x.block < base) (hx : ∀ k, x.ownBlock = some k → k ≠ g) (hy : ∀ k, y.ownBlock = some k → k ≠ g) (ho : Onto g W W') (hr : MRow W' g x y M')
  (h1 : M'.rom = M.rom) (h2 : M'.ram = M.ram) (h3 : M'.pc = M.pc) (hg : base ≤ g) : Gdm w wd p a len cap g gr base x y M' W' := by
 have := hP.n0; have := hP.n1; have := hP.n2; have := hP.n3; have := hP.n4; have := hP.n5
 have hm := h.md
 exact ⟨h.cur.onto ho (by omega) (fun h0 x hx e => by have := hcode h0 x hx; omega), hr, h.res.imp fun _ r => ⟨r.1, r.2.onto ho (by omega)⟩,
  ⟨h1 ▸ hm.o1.onto ho (fun e => hx _ e rfl), h2 ▸ zDe hm.s2 ho (fun e => hy _ e rfl), hm.b1, hm.b2, by rw [h1]; exact hm.l0, by rw [h1]; exact hm.l1, by rw [h2]; exact hm.l2, by rw [h3]; exact hm.pc, hm.ap, by rw [h2]; exact hm.m0⟩, zA h.bel ho (by omega)⟩
end
end Go.Proofs.YtamldhflkfbdnaaGreatDoor.Mem
