/-
  The laws' own helpers over machines: a copy field by field, whether two are alike, how great one is, marks that are set and found again.
-/
import Derived.Test.YtjjafaikaghlgaaMcW
import Derived.Test.YtjjafaikaghlgaaMcNew
import Derived.Test.YtjjafaikaghlgaaEx
import Derived.Test.YtjjafaikaghlgaaSrl
import Derived.Test.YtjjafaikaghlgaaTmr
namespace Go.Proofs.Ytjjafaikaghlgaa.Mem
open Go.ChangeShapes Go.WideShapes Go.RowKit Base Num Slc Rw Tmr Srl Rom RomOf Ex
set_option linter.unusedVariables false
set_option maxRecDepth 20000
set_option linter.unusedSimpArgs false

/-- Of the blocks that were there, those of X alone may have turned. -/
structure Turn (X : Nat → Prop) (w w' : World) : Prop where
  os : w'.os = w.os
  tape : w'.tape = w.tape
  output : w'.output = w.output
  size : w.heap.size ≤ w'.heap.size
  block : ∀ k, ¬ X k → k < w.heap.size → w'.heap[k]? = w.heap[k]?
theorem Turn.of {X : Nat → Prop} {w w' : World} (h : Below w.heap.size w w') : Turn X w w' := ⟨h.os, h.tape, h.output, h.size, fun k _ hk => h.block k hk⟩
theorem Turn.trans {X : Nat → Prop} {a b c : World} (h : Turn X a b) (k : Turn X b c) : Turn X a c :=
  ⟨k.os.trans h.os, k.tape.trans h.tape, k.output.trans h.output, Nat.le_trans h.size k.size, fun i hi hl => (k.block i hi (Nat.lt_of_lt_of_le hl h.size)).trans (h.block i hi hl)⟩
theorem Turn.grown {X : Nat → Prop} {w w' : World} {row : Option Nat} (h : w.grownBy w' row) (hx : ∀ k, row = some k → X k) : Turn X w w' :=
  ⟨h.os, h.tape, h.output, h.size, fun k hk hl => h.block k hl (fun e => hk (hx k e.symm))⟩
theorem Turn.own {X : Nat → Prop} {w w' : World} (t : Turn X w w') {base : Nat} {v : Value} {l : List Int} (h : Own base w v l) (hx : ∀ k, v.ownBlock = some k → ¬ X k) : Own base w' v l :=
  h.kept fun k hk => t.block k (hx k hk) (h.lt k hk).2
theorem Turn.row {X : Nat → Prop} {w w' : World} (t : Turn X w w') {g : Nat} {cs : Array Value} {T : TypeId} (h : Row w g cs T) (hx : ¬ X g) : Row w' g cs T := h.keep (t.block g hx h.lt)
theorem Turn.sl {X : Nat → Prop} {w w' : World} (t : Turn X w w') {v : Value} {l : List Int} (h : Sl w v l) (hx : 0 < l.length → ∀ k, v.ownBlock = some k → ¬ X k) : Sl w' v l := by
  obtain ⟨a, cap, rfl, h1, h2⟩ := h
  refine ⟨a, cap, rfl, ⟨h1.1, ?_⟩, h2⟩
  rcases h1.2 with h0 | ⟨b, off, rfl, hb, hc⟩
  · exact .inl h0
  · by_cases h0 : 0 < l.length
    · refine .inr ⟨b, off, rfl, Nat.lt_of_lt_of_le hb t.size, fun i hi => ?_⟩
      rw [World.cell?_of_block (w := w) (a := ⟨b, off + i, none⟩) (t.block b (hx h0 b rfl) hb)]
      exact hc i hi
    · exact .inl (by omega)
theorem Turn.below {X : Nat → Prop} {w0 w w' : World} (t : Turn X w w') (h : Below w0.heap.size w0 w) (hx : ∀ k, X k → w0.heap.size ≤ k) : Below w0.heap.size w0 w' :=
  ⟨t.os.trans h.os, t.tape.trans h.tape, t.output.trans h.output, Nat.le_trans h.size t.size, fun k hk => by
    rw [t.block k (fun e => by have := hx k e; omega) (Nat.lt_of_lt_of_le hk h.size)]; exact h.block k hk⟩
/-- The blocks of a machine's lists. -/
def Blk (vr va : Value) (k : Nat) : Prop := vr.ownBlock = some k ∨ va.ownBlock = some k
section
variable {ops : Array Oper} {rest : List Oper} {o : Oper} {a : Act} {w : World} {Q : Exit → Act → World → Prop} {x y : Operand} {g : Nat} {v vr va : Value} {m : Mc}
theorem box_l (hgd : o.guard = none) (ho : o.op = .box 98 x) (hx : a.eval x = m.val vr va)
    (h : ∀ w', Row w' w.heap.size (m.cells vr va) 98 → Below w.heap.size w w' → wpList Try.prog ops Q rest (a.put o.dst (.pointer (some ⟨w.heap.size, 0, none⟩))) w') : wpList Try.prog ops Q (o :: rest) a w :=
  wpList_plain hgd fun _ hK => by
    have e : (Instr.box 98 (.agg (m.cells vr va))).run Try.prog w = .ok (.pointer (some ⟨w.heap.size, 0, none⟩)) (w.alloc (.cells (m.cells vr va) 98)) := rfl
    unfold Oper.wp execOp
    rw [Mc.val] at hx
    simp only [ho, hx, Sem.run_bind, Result.andThen_ok, e]
    exact hK _ _ (h _ (Row.new _ _ _) ((Below.refl _ _).alloc (Nat.le_refl _) _))
theorem info_l : (Try.prog.info? 98).map (·.size) = some 25 := by kernel_rfl
theorem ld_l (hgd : o.guard = none) (ho : o.op = .load 98 x) (hx : a.eval x = .pointer (some ⟨g, 0, none⟩)) (hr : Row w g (m.cells vr va) 98)
    (h : wpList Try.prog ops Q rest (a.put o.dst (m.val vr va)) w) : wpList Try.prog ops Q (o :: rest) a w :=
  ld_row hgd _ x ho hx hr Try.underlying98 rfl info_l h
theorem ld_lt (hgd : o.guard = none) (ho : o.op = .load 95 x) (hx : a.eval x = .pointer (some ⟨g, 14, none⟩)) (hr : Row w g (m.cells vr va) 98) (h : wpList Try.prog ops Q rest (a.put o.dst m.t.val) w) : wpList Try.prog ops Q (o :: rest) a w :=
  ld_in (cs' := #[.int .i64 m.t.c, .int .i64 m.t.v, .int .i64 m.t.s, .int .i64 m.t.m]) hgd ho hx hr Try.underlying95 rfl rfl (by kernel_rfl) h
theorem ld_lp (hgd : o.guard = none) (ho : o.op = .load 96 x) (hx : a.eval x = .pointer (some ⟨g, 18, none⟩)) (hr : Row w g (m.cells vr va) 98) (h : wpList Try.prog ops Q rest (a.put o.dst m.p.val) w) : wpList Try.prog ops Q (o :: rest) a w :=
  ld_in (cs' := #[.int .i64 m.p.d, .bool m.p.b, .bool m.p.l, .int .i64 m.p.n, .int .i64 m.p.x, .bool m.p.t]) hgd ho hx hr Try.underlying96 rfl rfl (by kernel_rfl) h
/-- The whole machine is read, behind a guard that lets it. -/
theorem ld_mcg (hw : Region.wanted o (yielded ops a.tmps) = true) (ho : o.op = .load 64 x) (hx : a.eval x = .pointer (some ⟨g, 0, none⟩)) (hr : MRow w g vr va m)
    (h : wpList Try.prog ops Q rest (a.put o.dst (m.val vr va)) w) : wpList Try.prog ops Q (o :: rest) a w :=
  wpList_step fun K hK => by
    rw [if_pos hw]
    exact wp_load_row _ _ ho _ hx _ _ _ _ hr.row Try.underlying64 rfl info_mc (hK _ _ h)
end
theorem cwl {w : World} {g : Nat} {vr va : Value} {m : Mc} (h : Row w g (m.cells vr va) 98) : Cw w g vr va m := (Cs.of vr va m).at h
theorem szInts_any (v : Value) (l : List Int) (left : Int) (w : World) (h : Sl w v l) (hl : 0 ≤ left ∧ left ≤ 1048576) :
    Calls Try.prog 81 #[v, .int .i64 left] w fun e w' => e = .returned (.int .i64 (if left < l.length then -1 else left - l.length)) ∧ w' = w := by
  obtain ⟨a, cap, rfl, hat, hlc, hcm, hnil⟩ := h
  unfold maxLen at hcm
  clear hat hnil
  by_cases hh : left < (l.length : Int)
  · rw [if_pos hh]
    go_enter Try.func81, Try.ntmps81
    go_wp2
    go_ret
    exact ⟨rfl, rfl⟩
  · rw [if_neg hh]
    go_enter Try.func81, Try.ntmps81
    go_wp2
    go_ret
    exact ⟨rfl, rfl⟩
def szOf (m : Mc) : Int := if (1048576 : Int) < m.rom.length then -1 else if (1048576 : Int) - m.rom.length < m.ram.length then -1 else 1048576 - m.rom.length - m.ram.length
theorem szMachine_any (vr va : Value) (m : Mc) (w : World) (hr : Sl w vr m.rom) (ha : Sl w va m.ram) :
    Calls Try.prog 52 #[m.val vr va, .int .i64 1048576] w fun e w' => e = .returned (.int .i64 (szOf m)) ∧ Below w.heap.size w w' := by
  obtain ⟨vv, hvv⟩ : ∃ vv, vv = m.val vr va := ⟨_, rfl⟩
  rw [← hvv]
  by_cases h1 : (1048576 : Int) < m.rom.length
  · have e : szOf m = -1 := by simp [szOf, h1]
    rw [e]
    go_enter Try.func52, Try.ntmps52
    go_wp2_with (first
      | (refine box_l rfl rfl hvv ?_; intro w0 r0 hB0; have k0 := (cwl r0).vr; have k1 := (cwl r0).va)
      | (go_at_call 81; refine (szInts_any vr m.rom _ _ (hr.below hB0) (by omega)).mono ?_; rintro e w1 ⟨rfl, rfl⟩; rw [if_pos h1]))
    go_ret
    exact ⟨rfl, hB0⟩
  · by_cases h2 : (1048576 : Int) - m.rom.length < m.ram.length
    · have e : szOf m = -1 := by simp [szOf, h1, h2]
      rw [e]
      go_enter Try.func52, Try.ntmps52
      go_wp2_with (first
        | (refine box_l rfl rfl hvv ?_; intro w0 r0 hB0; have k0 := (cwl r0).vr; have k1 := (cwl r0).va))
      go_at_call 81
      refine (szInts_any vr m.rom _ _ (hr.below hB0) (by omega)).mono ?_
      rintro e w1 ⟨rfl, rfl⟩
      rw [if_neg (show ¬ (1048576 : Int) < (m.rom.length : Int) by omega)]
      go_wp2_with fail
      go_at_call 81
      refine (szInts_any va m.ram _ _ (ha.below hB0) (by omega)).mono ?_
      rintro e w2 ⟨rfl, rfl⟩
      rw [if_pos h2]
      go_wp2
      go_ret
      exact ⟨rfl, hB0⟩
    · have e : szOf m = 1048576 - m.rom.length - m.ram.length := by simp [szOf, h1, h2]
      rw [e]
      go_enter Try.func52, Try.ntmps52
      go_wp2_with (first
        | (refine box_l rfl rfl hvv ?_; intro w0 r0 hB0; have k0 := (cwl r0).vr; have k1 := (cwl r0).va))
      go_at_call 81
      refine (szInts_any vr m.rom _ _ (hr.below hB0) (by omega)).mono ?_
      rintro e w1 ⟨rfl, rfl⟩
      rw [if_neg (show ¬ (1048576 : Int) < (m.rom.length : Int) by omega)]
      go_wp2_with fail
      go_at_call 81
      refine (szInts_any va m.ram _ _ (ha.below hB0) (by omega)).mono ?_
      rintro e w2 ⟨rfl, rfl⟩
      rw [if_neg (show ¬ (1048576 : Int) - (m.rom.length : Int) < (m.ram.length : Int) by omega)]
      go_wp2
      go_ret
      exact ⟨rfl, hB0⟩
theorem Turn.onto {X : Nat → Prop} {g : Nat} {w w' : World} (h : Onto g w w') (hx : X g) : Turn X w w' :=
  ⟨h.os, h.tape, h.output, h.size, fun k hk hl => h.block k (fun e => hk (e ▸ hx)) hl⟩
set_option maxHeartbeats 2000000 in
theorem eqMachine_same (vr va ur ua : Value) (m : Mc) (w : World) (h1 : Sl w vr m.rom) (h2 : Sl w va m.ram) (h3 : Sl w ur m.rom) (h4 : Sl w ua m.ram) :
    Calls Try.prog 68 #[m.val vr va, m.val ur ua] w fun e w' => e = .returned (.bool true) ∧ Below w.heap.size w w' := by
  obtain ⟨vv, hvv⟩ : ∃ vv, vv = m.val vr va := ⟨_, rfl⟩
  obtain ⟨uu, huu⟩ : ∃ uu, uu = m.val ur ua := ⟨_, rfl⟩
  rw [← hvv, ← huu]
  go_enter Try.func68, Try.ntmps68
  go_wp2_with (first
    | (refine box_m rfl rfl hvv ?_; intro w0 r0 hB0)
    | (refine box_m rfl rfl huu ?_; intro w1 q1 hB1; have r1 := r0.below hB1; have hB2 := hB0.trans (hB1.mono hB0.size); have a0 := (cw r1).vr; have b0 := (cw q1).vr))
  go_at_call 15
  refine (eq_any vr ur m.rom m.rom _ (h1.below hB2) (h3.below hB2)).mono ?_
  rintro e w2 ⟨rfl, n2, hw2⟩
  have hb2 := drew_below hw2
  have hB3 := hB2.trans (hb2.mono hB2.size)
  have r2 := r1.below hb2
  have q2 := q1.below hb2
  clear hw2 a0 b0
  have a0 := (cw r2).va
  have b0 := (cw q2).va
  rw [decide_eq_true rfl]
  go_wp2_with fail
  go_at_call 15
  refine (eq_any va ua m.ram m.ram _ (h2.below hB3) (h4.below hB3)).mono ?_
  rintro e w3 ⟨rfl, n3, hw3⟩
  have hb3 := drew_below hw3
  have hB4 := hB3.trans (hb3.mono hB3.size)
  have r3 := r2.below hb3
  have q3 := q2.below hb3
  clear hw3 a0 b0
  rw [decide_eq_true rfl]
  have a0 := (cw r3).vr
  have a1 := (cw r3).va
  have a2 := (cw r3).a
  have a3 := (cw r3).b
  have a4 := (cw r3).pc
  have a5 := (cw r3).sp
  have a6 := (cw r3).z
  have a7 := (cw r3).c
  have a8 := (cw r3).e
  have a9 := (cw r3).h
  have a10 := (cw r3).s
  have a11 := (cw r3).fl
  have a12 := (cw r3).ms
  have a13 := (cw r3).ky
  have a24 := (cw r3).k
  have b0 := (cw q3).vr
  have b1 := (cw q3).va
  have b2 := (cw q3).a
  have b3 := (cw q3).b
  have b4 := (cw q3).pc
  have b5 := (cw q3).sp
  have b6 := (cw q3).z
  have b7 := (cw q3).c
  have b8 := (cw q3).e
  have b9 := (cw q3).h
  have b10 := (cw q3).s
  have b11 := (cw q3).fl
  have b12 := (cw q3).ms
  have b13 := (cw q3).ky
  have b24 := (cw q3).k
  go_wp2_with (first
    | (refine ld_time rfl rfl rfl r3 ?_)
    | (refine ld_time rfl rfl rfl q3 ?_))
  go_at_call 104
  refine (eqTimer_same m.t _).mono ?_
  rintro e w4 ⟨rfl, hb4⟩
  have hB5 := hB4.trans (hb4.mono hB4.size)
  have r4 := r3.below hb4
  have q4 := q3.below hb4
  clear a0 a1 a2 a3 a4 a5 a6 a7 a8 a9 a10 a11 a12 a13 a24 b0 b1 b2 b3 b4 b5 b6 b7 b8 b9 b10 b11 b12 b13 b24
  go_wp2_with (first
    | (refine ld_ser rfl rfl rfl r4 ?_)
    | (refine ld_ser rfl rfl rfl q4 ?_))
  go_at_call 105
  refine (eqSerial_same m.p _).mono ?_
  rintro e w5 ⟨rfl, hb5⟩
  have hB6 := hB5.trans (hb5.mono hB5.size)
  have a24 := (cw (r4.below hb5)).k
  have b24 := (cw (q4.below hb5)).k
  go_wp2
  go_ret
  exact ⟨rfl, hB6⟩
set_option maxHeartbeats 2000000 in
theorem toMachine_any (vr va : Value) (m : Mc) (w : World) (hr : Sl w vr m.rom) (ha : Sl w va m.ram) (l1 : m.rom.length ≤ 4000000) (l2 : m.ram.length ≤ 4000000) :
    Calls Try.prog 56 #[m.val vr va] w fun e w' => ∃ v', e = .returned v' ∧ MOwn w.heap.size w' v' m ∧ Below w.heap.size w w' := by
  obtain ⟨vv, hvv⟩ : ∃ vv, vv = m.val vr va := ⟨_, rfl⟩
  rw [← hvv]
  go_enter Try.func56, Try.ntmps56
  go_wp2_with (first
    | (refine box_l rfl rfl hvv ?_; intro w0 r0 hB0; have l0 := r0.lt)
    | (have hh := hB1; refine al_mc rfl rfl ?_; intro w2 z2 hB2; have lz2 := z2.lt; have y2 := z1.below hB2; have r2 := (r0.below hB1).below hB2; have hB := (hB0.trans (hB1.mono hB0.size)).trans (hB2.mono (by have := hB0.size; have := hB1.size; omega)); have k0 := (cwl r2).vr)
    | (refine al_mc rfl rfl ?_; intro w1 z1 hB1; have lz1 := z1.lt))
  go_at_call 12
  refine (to_any vr m.rom _ (hr.below hB) l1).mono ?_
  rintro e w3 ⟨v3, rfl, ho3, hb3⟩
  have r3 := r2.below hb3
  have z3 := z2.below hb3
  have y3 := y2.below hb3
  have hB3 := hB.trans (hb3.mono hB.size)
  have ho3l := ho3.lt
  have sB := hB0.size
  have sb3 := hb3.size
  clear r2 z2 y2 k0 r0
  go_wp2_with (first
    | (refine st_rom rfl rfl rfl rfl z3 (one_own ho3) m.rom ?_; intro w4 z4 o4 s4; have r4 := r3.onto o4 (by omega); have y4 := y3.onto o4 (by omega); have k0 := (cwl r4).va))
  go_at_call 12
  have hB4 := below_onto hB3 o4 (by omega)
  refine (to_any va m.ram _ (ha.below hB4) l2).mono ?_
  rintro e w5 ⟨v5, rfl, ho5, hb5⟩
  have hB5 := hB4.trans (hb5.mono hB4.size)
  have r5 := r4.below hb5
  have z5 := z4.below hb5
  have y5 := y4.below hb5
  have ho5l := ho5.lt
  have ho35 := (ho3.onto o4 (fun e => by have := ho3l _ e; omega)).below hb5
  have sb5 := hb5.size
  have so4 := o4.size
  have hap : ∀ k, v3.ownBlock = some k → v5.ownBlock ≠ some k := fun k hk hk' => by have := ho3l k hk; have := ho5l k hk'; omega
  clear k0 r3 z3 y3 r4 z4 y4
  go_wp2_with (first
    | (refine st_ram rfl rfl rfl rfl z5 (one_own ho5) m.ram ?_; intro w6 z6 o6 s6; have r6 := r5.onto o6 (by omega); have y6 := y5.onto o6 (by omega); have t6 : Turn (fun k => k = w1.heap.size ∨ k = w0.heap.size) w5 w6 := Turn.onto o6 (.inl rfl); have f6 := (cwl r6).a)
    | (refine st_num (m' := { Mc.nul with rom := m.rom, ram := m.ram, a := m.a }) (k := 2) rfl rfl rfl rfl z6 rfl rfl ?_; intro w7 z7 o7 s7; have r7 := r6.onto o7 (by omega); have y7 := y6.onto o7 (by omega); have t7 := t6.trans (Turn.onto o7 (.inl rfl)); have f7 := (cwl r7).b)
    | (refine st_num (m' := { Mc.nul with rom := m.rom, ram := m.ram, a := m.a, b := m.b }) (k := 3) rfl rfl rfl rfl z7 rfl rfl ?_; intro w8 z8 o8 s8; have r8 := r7.onto o8 (by omega); have y8 := y7.onto o8 (by omega); have t8 := t7.trans (Turn.onto o8 (.inl rfl)); have f8 := (cwl r8).pc)
    | (refine st_num (m' := { Mc.nul with rom := m.rom, ram := m.ram, a := m.a, b := m.b, pc := m.pc }) (k := 4) rfl rfl rfl rfl z8 rfl rfl ?_; intro w9 z9 o9 s9; have r9 := r8.onto o9 (by omega); have y9 := y8.onto o9 (by omega); have t9 := t8.trans (Turn.onto o9 (.inl rfl)); have f9 := (cwl r9).sp)
    | (refine st_num (m' := { Mc.nul with rom := m.rom, ram := m.ram, a := m.a, b := m.b, pc := m.pc, sp := m.sp }) (k := 5) rfl rfl rfl rfl z9 rfl rfl ?_; intro w10 z10 o10 s10; have r10 := r9.onto o10 (by omega); have y10 := y9.onto o10 (by omega); have t10 := t9.trans (Turn.onto o10 (.inl rfl)); have f10 := (cwl r10).z)
    | (refine st_yes (m' := { Mc.nul with rom := m.rom, ram := m.ram, a := m.a, b := m.b, pc := m.pc, sp := m.sp, z := m.z }) (k := 6) rfl rfl rfl rfl z10 rfl rfl ?_; intro w11 z11 o11 s11; have r11 := r10.onto o11 (by omega); have y11 := y10.onto o11 (by omega); have t11 := t10.trans (Turn.onto o11 (.inl rfl)); have f11 := (cwl r11).c)
    | (refine st_yes (m' := { Mc.nul with rom := m.rom, ram := m.ram, a := m.a, b := m.b, pc := m.pc, sp := m.sp, z := m.z, c := m.c }) (k := 7) rfl rfl rfl rfl z11 rfl rfl ?_; intro w12 z12 o12 s12; have r12 := r11.onto o12 (by omega); have y12 := y11.onto o12 (by omega); have t12 := t11.trans (Turn.onto o12 (.inl rfl)); have f12 := (cwl r12).e)
    | (refine st_yes (m' := { Mc.nul with rom := m.rom, ram := m.ram, a := m.a, b := m.b, pc := m.pc, sp := m.sp, z := m.z, c := m.c, e := m.e }) (k := 8) rfl rfl rfl rfl z12 rfl rfl ?_; intro w13 z13 o13 s13; have r13 := r12.onto o13 (by omega); have y13 := y12.onto o13 (by omega); have t13 := t12.trans (Turn.onto o13 (.inl rfl)); have f13 := (cwl r13).h)
    | (refine st_yes (m' := { Mc.nul with rom := m.rom, ram := m.ram, a := m.a, b := m.b, pc := m.pc, sp := m.sp, z := m.z, c := m.c, e := m.e, h := m.h }) (k := 9) rfl rfl rfl rfl z13 rfl rfl ?_; intro w14 z14 o14 s14; have r14 := r13.onto o14 (by omega); have y14 := y13.onto o14 (by omega); have t14 := t13.trans (Turn.onto o14 (.inl rfl)); have f14 := (cwl r14).s)
    | (refine st_yes (m' := { Mc.nul with rom := m.rom, ram := m.ram, a := m.a, b := m.b, pc := m.pc, sp := m.sp, z := m.z, c := m.c, e := m.e, h := m.h, s := m.s }) (k := 10) rfl rfl rfl rfl z14 rfl rfl ?_; intro w15 z15 o15 s15; have r15 := r14.onto o15 (by omega); have y15 := y14.onto o15 (by omega); have t15 := t14.trans (Turn.onto o15 (.inl rfl)); have f15 := (cwl r15).fl)
    | (refine st_num (m' := { Mc.nul with rom := m.rom, ram := m.ram, a := m.a, b := m.b, pc := m.pc, sp := m.sp, z := m.z, c := m.c, e := m.e, h := m.h, s := m.s, fl := m.fl }) (k := 11) rfl rfl rfl rfl z15 rfl rfl ?_; intro w16 z16 o16 s16; have r16 := r15.onto o16 (by omega); have y16 := y15.onto o16 (by omega); have t16 := t15.trans (Turn.onto o16 (.inl rfl)); have f16 := (cwl r16).ms)
    | (refine st_num (m' := { Mc.nul with rom := m.rom, ram := m.ram, a := m.a, b := m.b, pc := m.pc, sp := m.sp, z := m.z, c := m.c, e := m.e, h := m.h, s := m.s, fl := m.fl, ms := m.ms }) (k := 12) rfl rfl rfl rfl z16 rfl rfl ?_; intro w17 z17 o17 s17; have r17 := r16.onto o17 (by omega); have y17 := y16.onto o17 (by omega); have t17 := t16.trans (Turn.onto o17 (.inl rfl)); have f17 := (cwl r17).ky)
    | (refine st_num (m' := { Mc.nul with rom := m.rom, ram := m.ram, a := m.a, b := m.b, pc := m.pc, sp := m.sp, z := m.z, c := m.c, e := m.e, h := m.h, s := m.s, fl := m.fl, ms := m.ms, ky := m.ky }) (k := 13) rfl rfl rfl rfl z17 rfl rfl ?_; intro w18 z18 o18 s18; have r18 := r17.onto o18 (by omega); have y18 := y17.onto o18 (by omega); have t18 := t17.trans (Turn.onto o18 (.inl rfl)))
    | (refine ld_lt rfl rfl rfl r18 ?_)
    | (go_at_call 89; refine (toTimer_any m.t _).mono ?_; rintro e w19 ⟨rfl, hb19⟩; have r19 := r18.below hb19; have z19 := z18.below hb19; have y19 := y18.below hb19; have t19 := t18.trans (Turn.of hb19))
    | (refine st_time' (t := m.t) rfl rfl rfl rfl z19 ?_; intro w20 z20 o20 s20; have r20 := r19.onto o20 (by omega); have y20 := y19.onto o20 (by omega); have t20 := t19.trans (Turn.onto o20 (.inl rfl)))
    | (refine ld_lp rfl rfl rfl r20 ?_)
    | (go_at_call 90; refine (toSerial_any m.p _).mono ?_; rintro e w21 ⟨rfl, hb21⟩; have r21 := r20.below hb21; have z21 := z20.below hb21; have y21 := y20.below hb21; have t21 := t20.trans (Turn.of hb21))
    | (refine st_port' (s := m.p) rfl rfl rfl rfl z21 ?_; intro w22 z22 o22 s22; have r22 := r21.onto o22 (by omega); have y22 := y21.onto o22 (by omega); have t22 := t21.trans (Turn.onto o22 (.inl rfl)); have f22 := (cwl r22).k)
    | (refine st_num (m' := m) (k := 24) rfl rfl rfl rfl z22 rfl rfl ?_; intro w23 z23 o23 s23; have y23 := y22.onto o23 (by omega); have t23 := t22.trans (Turn.onto o23 (.inl rfl)))
    | (refine ld_mc rfl rfl rfl z23 ?_)
    | (refine st_mc rfl rfl rfl rfl y23 (one_own ho3) (one_own ho5) ?_; intro w24 z24 o24 s24; have t24 := t23.trans (Turn.onto o24 (.inr rfl))))
  refine ret_mc rfl rfl z24 rfl ?_
  refine ⟨_, rfl, ⟨v3, v5, rfl, ?_, ?_, hap⟩, t24.below hB5 (fun k hk => by rcases hk with rfl | rfl <;> omega)⟩
  · exact (t24.own ho35 (fun k hk e => by have := ho3l k hk; rcases e with rfl | rfl <;> omega)).mono (by omega)
  · exact (t24.own ho5 (fun k hk e => by have := ho5l k hk; rcases e with rfl | rfl <;> omega)).mono (by omega)
end Go.Proofs.Ytjjafaikaghlgaa.Mem
