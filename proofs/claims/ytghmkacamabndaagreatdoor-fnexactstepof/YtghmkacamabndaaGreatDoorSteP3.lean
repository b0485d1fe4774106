/-
  What FnExactStepOf leans on: part 3.
-/
import Derived.Deep.QuietTactic
import Derived.BigQuiet
import Derived.Test.YtghmkacamabndaaGreatDoorSteP1
import Derived.Test.YtghmkacamabndaaGreatDoorSteP2
set_option linter.unusedVariables false
set_option linter.unusedSimpArgs false
set_option maxRecDepth 20000
namespace Go.Proofs.YtghmkacamabndaaGreatDoor.Mem
open Go.ChangeShapes Go.WideShapes Go.RowKit Base Num Slc Rw Tmr Srl Rom RomOf Ex

structure Turn (X : Nat → Prop) (w w' : World) : Prop where
  os : w'.os = w.os
  tape : w'.tape = w.tape
  output : w'.output = w.output
  size : w.heap.size ≤ w'.heap.size
  block : ∀ k, ¬ X k → k < w.heap.size → w'.heap[k]? = w.heap[k]?
theorem Turn.of {X : Nat → Prop} {w w' : World} (h : Below w.heap.size w w') : Turn X w w' := ⟨h.os, h.tape, h.output, h.size, fun k _ hk => h.block k hk⟩
theorem Turn.trans {X : Nat → Prop} {a b c : World} (h : Turn X a b) (k : Turn X b c) : Turn X a c :=
  ⟨k.os.trans h.os, k.tape.trans h.tape, k.output.trans h.output, Nat.le_trans h.size k.size, fun i hi hl => (k.block i hi (Nat.lt_of_lt_of_le hl h.size)).trans (h.block i hi hl)⟩
theorem Turn.grown {X : Nat → Prop} {w w' : World} {row : Option Nat} (h : w.grownBy w' row) (hx : ∀ k, row = some k → X k) : Turn X w w' :=
  ⟨h.os, h.tape, h.output, h.size, fun k hk hl => h.block k hl (fun e => hk (hx k e.symm))⟩
theorem Turn.own {X : Nat → Prop} {w w' : World} (t : Turn X w w') {base : Nat} {v : Value} {l : List Int} (h : Own base w v l) (hx : ∀ k, v.ownBlock = some k → ¬ X k) : Own base w' v l :=
  h.kept fun k hk => t.block k (hx k hk) (h.lt k hk).2
theorem Turn.row {X : Nat → Prop} {w w' : World} (t : Turn X w w') {g : Nat} {cs : Array Value} {T : TypeId} (h : Row w g cs T) (hx : ¬ X g) : Row w' g cs T := h.keep (t.block g hx h.lt)
theorem Turn.sl {X : Nat → Prop} {w w' : World} (t : Turn X w w') {v : Value} {l : List Int} (h : Sl w v l) (hx : 0 < l.length → ∀ k, v.ownBlock = some k → ¬ X k) : Sl w' v l := by
  obtain ⟨a, cap, rfl, h1, h2⟩ := h
  refine ⟨a, cap, rfl, ⟨h1.1, ?_⟩, h2⟩
  rcases h1.2 with h0 | ⟨b, off, rfl, hb, hc⟩
  · exact .inl h0
  · by_cases h0 : 0 < l.length
    · refine .inr ⟨b, off, rfl, Nat.lt_of_lt_of_le hb t.size, fun i hi => ?_⟩
      rw [World.cell?_of_block (w := w) (a := ⟨b, off + i, none⟩) (t.block b (hx h0 b rfl) hb)]
      exact hc i hi
    · exact .inl (by omega)
theorem Turn.below {X : Nat → Prop} {w0 w w' : World} (t : Turn X w w') (h : Below w0.heap.size w0 w) (hx : ∀ k, X k → w0.heap.size ≤ k) : Below w0.heap.size w0 w' :=
  ⟨t.os.trans h.os, t.tape.trans h.tape, t.output.trans h.output, Nat.le_trans h.size t.size, fun k hk => by
    rw [t.block k (fun e => by have := hx k e; omega) (Nat.lt_of_lt_of_le hk h.size)]; exact h.block k hk⟩
def Blk (vr va : Value) (k : Nat) : Prop := vr.ownBlock = some k ∨ va.ownBlock = some k
section
variable {ops : Array Oper} {rest : List Oper} {o : Oper} {a : Act} {w : World} {Q : Exit → Act → World → Prop} {x y : Operand} {g : Nat} {v vr va : Value} {m : Mc}
theorem box_l (hgd : o.guard = none) (ho : o.op = .box 69 x) (hx : a.eval x = m.val vr va)
    (h : ∀ w', Row w' w.heap.size (m.cells vr va) 69 → Below w.heap.size w w' → wpList Tryz.prog ops Q rest (a.put o.dst (.pointer (some ⟨w.heap.size, 0, none⟩))) w') : wpList Tryz.prog ops Q (o :: rest) a w :=
  wpList_plain hgd fun _ hK => by
    have e : (Instr.box 69 (.agg (m.cells vr va))).run Tryz.prog w = .ok (.pointer (some ⟨w.heap.size, 0, none⟩)) (w.alloc (.cells (m.cells vr va) 69)) := rfl
    unfold Oper.wp execOp
    rw [Mc.val] at hx
    simp only [ho, hx, Sem.run_bind, Result.andThen_ok, e]
    exact hK _ _ (h _ (Row.new _ _ _) ((Below.refl _ _).alloc (Nat.le_refl _) _))
theorem info_l : (Tryz.prog.info? 69).map (·.size) = some 25 := by kernel_rfl
theorem ld_l (hgd : o.guard = none) (ho : o.op = .load 69 x) (hx : a.eval x = .pointer (some ⟨g, 0, none⟩)) (hr : Row w g (m.cells vr va) 69)
    (h : wpList Tryz.prog ops Q rest (a.put o.dst (m.val vr va)) w) : wpList Tryz.prog ops Q (o :: rest) a w :=
  ld_row hgd _ x ho hx hr Tryz.underlying69 rfl info_l h
theorem ld_lt (hgd : o.guard = none) (ho : o.op = .load 66 x) (hx : a.eval x = .pointer (some ⟨g, 14, none⟩)) (hr : Row w g (m.cells vr va) 69) (h : wpList Tryz.prog ops Q rest (a.put o.dst m.t.val) w) : wpList Tryz.prog ops Q (o :: rest) a w :=
  ld_in (cs' := #[.int .i64 m.t.c, .int .i64 m.t.v, .int .i64 m.t.s, .int .i64 m.t.m]) hgd ho hx hr Tryz.underlying66 rfl rfl (by kernel_rfl) h
theorem ld_lp (hgd : o.guard = none) (ho : o.op = .load 67 x) (hx : a.eval x = .pointer (some ⟨g, 18, none⟩)) (hr : Row w g (m.cells vr va) 69) (h : wpList Tryz.prog ops Q rest (a.put o.dst m.p.val) w) : wpList Tryz.prog ops Q (o :: rest) a w :=
  ld_in (cs' := #[.int .i64 m.p.d, .bool m.p.b, .bool m.p.l, .int .i64 m.p.n, .int .i64 m.p.x, .bool m.p.t]) hgd ho hx hr Tryz.underlying67 rfl rfl (by kernel_rfl) h
end
theorem cwl {w : World} {g : Nat} {vr va : Value} {m : Mc} (h : Row w g (m.cells vr va) 69) : Cw w g vr va m := (Cs.of vr va m).at h
theorem szInts_any (v : Value) (l : List Int) (left : Int) (w : World) (h : Sl w v l) (hl : 0 ≤ left ∧ left ≤ 1048576) :
    Calls Tryz.prog 91 #[v, .int .i64 left] w fun e w' => e = .returned (.int .i64 (if left < l.length then -1 else left - l.length)) ∧ w' = w := by
  obtain ⟨a, cap, rfl, hat, hlc, hcm, hnil⟩ := h
  unfold maxLen at hcm
  clear hat hnil
  by_cases hh : left < (l.length : Int)
  · rw [if_pos hh]
    go_enter Tryz.func91, Tryz.ntmps91
    go_wp2
    go_ret
    exact ⟨rfl, rfl⟩
  · rw [if_neg hh]
    go_enter Tryz.func91, Tryz.ntmps91
    go_wp2
    go_ret
    exact ⟨rfl, rfl⟩
def szOf (m : Mc) : Int := if (1048576 : Int) < m.rom.length then -1 else if (1048576 : Int) - m.rom.length < m.ram.length then -1 else 1048576 - m.rom.length - m.ram.length
theorem szMachine_any (vr va : Value) (m : Mc) (w : World) (hr : Sl w vr m.rom) (ha : Sl w va m.ram) :
    Calls Tryz.prog 36 #[m.val vr va, .int .i64 1048576] w fun e w' => e = .returned (.int .i64 (szOf m)) ∧ Below w.heap.size w w' := by
  obtain ⟨vv, hvv⟩ : ∃ vv, vv = m.val vr va := ⟨_, rfl⟩
  rw [← hvv]
  by_cases h1 : (1048576 : Int) < m.rom.length
  · have e : szOf m = -1 := by simp [szOf, h1]
    rw [e]
    go_enter Tryz.func36, Tryz.ntmps36
    go_wp2_with (first
      | (refine box_l rfl rfl hvv ?_; intro w0 r0 hB0; have k0 := (cwl r0).vr; have k1 := (cwl r0).va)
      | (go_at_call 91; refine (szInts_any vr m.rom _ _ (hr.below hB0) (by omega)).mono ?_; rintro e w1 ⟨rfl, rfl⟩; rw [if_pos h1]))
    go_ret
    exact ⟨rfl, hB0⟩
  · by_cases h2 : (1048576 : Int) - m.rom.length < m.ram.length
    · have e : szOf m = -1 := by simp [szOf, h1, h2]
      rw [e]
      go_enter Tryz.func36, Tryz.ntmps36
      go_wp2_with (first
        | (refine box_l rfl rfl hvv ?_; intro w0 r0 hB0; have k0 := (cwl r0).vr; have k1 := (cwl r0).va))
      go_at_call 91
      refine (szInts_any vr m.rom _ _ (hr.below hB0) (by omega)).mono ?_
      rintro e w1 ⟨rfl, rfl⟩
      rw [if_neg (show ¬ (1048576 : Int) < (m.rom.length : Int) by omega)]
      go_wp2_with fail
      go_at_call 91
      refine (szInts_any va m.ram _ _ (ha.below hB0) (by omega)).mono ?_
      rintro e w2 ⟨rfl, rfl⟩
      rw [if_pos h2]
      go_wp2
      go_ret
      exact ⟨rfl, hB0⟩
    · have e : szOf m = 1048576 - m.rom.length - m.ram.length := by simp [szOf, h1, h2]
      rw [e]
      go_enter Tryz.func36, Tryz.ntmps36
      go_wp2_with (first
        | (refine box_l rfl rfl hvv ?_; intro w0 r0 hB0; have k0 := (cwl r0).vr; have k1 := (cwl r0).va))
      go_at_call 91
      refine (szInts_any vr m.rom _ _ (hr.below hB0) (by omega)).mono ?_
      rintro e w1 ⟨rfl, rfl⟩
      rw [if_neg (show ¬ (1048576 : Int) < (m.rom.length : Int) by omega)]
      go_wp2_with fail
      go_at_call 91
      refine (szInts_any va m.ram _ _ (ha.below hB0) (by omega)).mono ?_
      rintro e w2 ⟨rfl, rfl⟩
      rw [if_neg (show ¬ (1048576 : Int) - (m.rom.length : Int) < (m.ram.length : Int) by omega)]
      go_wp2
      go_ret
      exact ⟨rfl, hB0⟩
theorem Turn.onto {X : Nat → Prop} {g : Nat} {w w' : World} (h : Onto g w w') (hx : X g) : Turn X w w' :=
  ⟨h.os, h.tape, h.output, h.size, fun k hk hl => h.block k (fun e => hk (e ▸ hx)) hl⟩
set_option maxHeartbeats 2000000 in
theorem eqMachine_same (vr va ur ua : Value) (m : Mc) (w : World) (h1 : Sl w vr m.rom) (h2 : Sl w va m.ram) (h3 : Sl w ur m.rom) (h4 : Sl w ua m.ram) :
    Calls Tryz.prog 41 #[m.val vr va, m.val ur ua] w fun e w' => e = .returned (.bool true) ∧ Below w.heap.size w w' := by
  obtain ⟨vv, hvv⟩ : ∃ vv, vv = m.val vr va := ⟨_, rfl⟩
  obtain ⟨uu, huu⟩ : ∃ uu, uu = m.val ur ua := ⟨_, rfl⟩
  rw [← hvv, ← huu]
  go_enter Tryz.func41, Tryz.ntmps41
  go_wp2_with (first
    | (refine box_m rfl rfl hvv ?_; intro w0 r0 hB0)
    | (refine box_m rfl rfl huu ?_; intro w1 q1 hB1; have r1 := r0.below hB1; have hB2 := hB0.trans (hB1.mono hB0.size); have a0 := (cw r1).vr; have b0 := (cw q1).vr))
  go_at_call 97
  refine (eq_any vr ur m.rom m.rom _ (h1.below hB2) (h3.below hB2)).mono ?_
  rintro e w2 ⟨rfl, n2, hw2⟩
  have hb2 := drew_below hw2
  have hB3 := hB2.trans (hb2.mono hB2.size)
  have r2 := r1.below hb2
  have q2 := q1.below hb2
  clear hw2 a0 b0
  have a0 := (cw r2).va
  have b0 := (cw q2).va
  rw [decide_eq_true rfl]
  go_wp2_with fail
  go_at_call 97
  refine (eq_any va ua m.ram m.ram _ (h2.below hB3) (h4.below hB3)).mono ?_
  rintro e w3 ⟨rfl, n3, hw3⟩
  have hb3 := drew_below hw3
  have hB4 := hB3.trans (hb3.mono hB3.size)
  have r3 := r2.below hb3
  have q3 := q2.below hb3
  clear hw3 a0 b0
  rw [decide_eq_true rfl]
  have a0 := (cw r3).vr
  have a1 := (cw r3).va
  have a2 := (cw r3).a
  have a3 := (cw r3).b
  have a4 := (cw r3).pc
  have a5 := (cw r3).sp
  have a6 := (cw r3).z
  have a7 := (cw r3).c
  have a8 := (cw r3).e
  have a9 := (cw r3).h
  have a10 := (cw r3).s
  have a11 := (cw r3).fl
  have a12 := (cw r3).ms
  have a13 := (cw r3).ky
  have a24 := (cw r3).k
  have b0 := (cw q3).vr
  have b1 := (cw q3).va
  have b2 := (cw q3).a
  have b3 := (cw q3).b
  have b4 := (cw q3).pc
  have b5 := (cw q3).sp
  have b6 := (cw q3).z
  have b7 := (cw q3).c
  have b8 := (cw q3).e
  have b9 := (cw q3).h
  have b10 := (cw q3).s
  have b11 := (cw q3).fl
  have b12 := (cw q3).ms
  have b13 := (cw q3).ky
  have b24 := (cw q3).k
  go_wp2_with (first
    | (refine ld_time rfl rfl rfl r3 ?_)
    | (refine ld_time rfl rfl rfl q3 ?_))
  go_at_call 98
  refine (eqTimer_same m.t _).mono ?_
  rintro e w4 ⟨rfl, hb4⟩
  have hB5 := hB4.trans (hb4.mono hB4.size)
  have r4 := r3.below hb4
  have q4 := q3.below hb4
  clear a0 a1 a2 a3 a4 a5 a6 a7 a8 a9 a10 a11 a12 a13 a24 b0 b1 b2 b3 b4 b5 b6 b7 b8 b9 b10 b11 b12 b13 b24
  go_wp2_with (first
    | (refine ld_ser rfl rfl rfl r4 ?_)
    | (refine ld_ser rfl rfl rfl q4 ?_))
  go_at_call 99
  refine (eqSerial_same m.p _).mono ?_
  rintro e w5 ⟨rfl, hb5⟩
  have hB6 := hB5.trans (hb5.mono hB5.size)
  have a24 := (cw (r4.below hb5)).k
  have b24 := (cw (q4.below hb5)).k
  go_wp2
  go_ret
  exact ⟨rfl, hB6⟩
theorem markMachine_any (vr va : Value) (m : Mc) (w : World) (base k : Nat) (h1 : Own base w vr m.rom) (h2 : Own base w va m.ram) (h3 : ∀ k, vr.ownBlock = some k → va.ownBlock ≠ some k) (l1 : m.rom.length ≤ 4000000) (l2 : m.ram.length ≤ 4000000) (hk : k ≤ 100) (hbase : base ≤ w.heap.size) :
    Calls Tryz.prog 43 #[m.val vr va, .int .i64 (k : Int)] w fun e w' => e = .returned (.int .i64 ((k + m.rom.length + m.ram.length : Nat) : Int)) ∧ Own base w' vr (marks k m.rom.length) ∧ Own base w' va (marks (k + m.rom.length) m.ram.length) ∧ Turn (Blk vr va) w w' := by
  obtain ⟨vv, hvv⟩ : ∃ vv, vv = m.val vr va := ⟨_, rfl⟩
  rw [← hvv]
  have hvl := h1.lt
  have hal := h2.lt
  go_enter Tryz.func43, Tryz.ntmps43
  go_wp2_with (first
    | (refine box_m rfl rfl hvv ?_; intro w0 r0 hB0; have k0 := (cw r0).vr))
  go_at_call 101
  have h10 := h1.below hB0
  have h20 := h2.below hB0
  refine (mark_any vr m.rom _ base k h10 l1 (by omega)).mono ?_
  rintro e w1 ⟨rfl, h11, g1⟩
  have t1 : Turn (Blk vr va) w0 w1 := Turn.grown g1 (fun k hk => .inl hk)
  have h21 := h20.grown g1 (fun j hj => h3 j hj)
  have r1 := t1.row r0 (fun e => by rcases e with e | e; have := hvl _ e; omega; have := hal _ e; omega)
  clear k0
  have k1 := (cw r1).va
  go_wp2_with fail
  go_at_call 101
  refine (mark_any va m.ram _ base (k + m.rom.length) h21 l2 (by omega)).mono ?_
  rintro e w2 ⟨rfl, h22, g2⟩
  have t2 : Turn (Blk vr va) w1 w2 := Turn.grown g2 (fun k hk => .inr hk)
  have h12 := h11.grown g2 (fun j hj e => h3 j e hj)
  go_wp2
  go_ret
  exact ⟨rfl, h12, h22, ((Turn.of hB0).trans t1).trans t2⟩
theorem heldMachine_any (vr va : Value) (m : Mc) (w : World) (k n1 n2 : Nat) (h1 : Sl w vr (marks k n1)) (h2 : Sl w va (marks (k + n1) n2)) (l1 : n1 ≤ 4000000) (l2 : n2 ≤ 4000000) (hk : k ≤ 100) :
    Calls Tryz.prog 103 #[m.val vr va, .int .i64 (k : Int)] w fun e w' => e = .returned (.int .i64 ((k + n1 + n2 : Nat) : Int)) ∧ Below w.heap.size w w' := by
  obtain ⟨vv, hvv⟩ : ∃ vv, vv = m.val vr va := ⟨_, rfl⟩
  rw [← hvv]
  go_enter Tryz.func103, Tryz.ntmps103
  go_wp2_with (first
    | (refine box_m rfl rfl hvv ?_; intro w0 r0 hB0; have k0 := (cw r0).vr; have k1 := (cw r0).va))
  go_at_call 150
  refine (held_any vr n1 _ k (h1.below hB0) l1 (by omega)).mono ?_
  rintro e w1 ⟨rfl, rfl⟩
  go_wp2_with fail
  go_at_call 150
  refine (held_any va n2 _ (k + n1) (h2.below hB0) l2 (by omega)).mono ?_
  rintro e w2 ⟨rfl, rfl⟩
  go_wp2
  go_ret
  exact ⟨rfl, hB0⟩
set_option maxHeartbeats 2000000 in
theorem toMachine_any (vr va : Value) (m : Mc) (w : World) (hr : Sl w vr m.rom) (ha : Sl w va m.ram) (l1 : m.rom.length ≤ 4000000) (l2 : m.ram.length ≤ 4000000) :
    Calls Tryz.prog 38 #[m.val vr va] w fun e w' => ∃ v', e = .returned v' ∧ MOwn w.heap.size w' v' m ∧ Below w.heap.size w w' := by
  obtain ⟨vv, hvv⟩ : ∃ vv, vv = m.val vr va := ⟨_, rfl⟩
  rw [← hvv]
  go_enter Tryz.func38, Tryz.ntmps38
  go_wp2_with (first
    | (refine box_l rfl rfl hvv ?_; intro w0 r0 hB0; have l0 := r0.lt)
    | (have hh := hB1; refine al_mc rfl rfl ?_; intro w2 z2 hB2; have lz2 := z2.lt; have y2 := z1.below hB2; have r2 := (r0.below hB1).below hB2; have hB := (hB0.trans (hB1.mono hB0.size)).trans (hB2.mono (by have := hB0.size; have := hB1.size; omega)); have k0 := (cwl r2).vr)
    | (refine al_mc rfl rfl ?_; intro w1 z1 hB1; have lz1 := z1.lt))
  go_at_call 92
  refine (to_any vr m.rom _ (hr.below hB) l1).mono ?_
  rintro e w3 ⟨v3, rfl, ho3, hb3⟩
  have r3 := r2.below hb3
  have z3 := z2.below hb3
  have y3 := y2.below hb3
  have hB3 := hB.trans (hb3.mono hB.size)
  have ho3l := ho3.lt
  have sB := hB0.size
  have sb3 := hb3.size
  clear r2 z2 y2 k0 r0
  go_wp2_with (first
    | (refine st_rom rfl rfl rfl rfl z3 (one_own ho3) m.rom ?_; intro w4 z4 o4 s4; have r4 := r3.onto o4 (by omega); have y4 := y3.onto o4 (by omega); have k0 := (cwl r4).va))
  go_at_call 92
  have hB4 := below_onto hB3 o4 (by omega)
  refine (to_any va m.ram _ (ha.below hB4) l2).mono ?_
  rintro e w5 ⟨v5, rfl, ho5, hb5⟩
  have hB5 := hB4.trans (hb5.mono hB4.size)
  have r5 := r4.below hb5
  have z5 := z4.below hb5
  have y5 := y4.below hb5
  have ho5l := ho5.lt
  have ho35 := (ho3.onto o4 (fun e => by have := ho3l _ e; omega)).below hb5
  have sb5 := hb5.size
  have so4 := o4.size
  have hap : ∀ k, v3.ownBlock = some k → v5.ownBlock ≠ some k := fun k hk hk' => by have := ho3l k hk; have := ho5l k hk'; omega
  clear k0 r3 z3 y3 r4 z4 y4
  go_wp2_with (first
    | (refine st_ram rfl rfl rfl rfl z5 (one_own ho5) m.ram ?_; intro w6 z6 o6 s6; have r6 := r5.onto o6 (by omega); have y6 := y5.onto o6 (by omega); have t6 : Turn (fun k => k = w1.heap.size ∨ k = w0.heap.size) w5 w6 := Turn.onto o6 (.inl rfl); have f6 := (cwl r6).a)
    | (refine st_num (m' := { Mc.nul with rom := m.rom, ram := m.ram, a := m.a }) (k := 2) rfl rfl rfl rfl z6 rfl rfl ?_; intro w7 z7 o7 s7; have r7 := r6.onto o7 (by omega); have y7 := y6.onto o7 (by omega); have t7 := t6.trans (Turn.onto o7 (.inl rfl)); have f7 := (cwl r7).b)
    | (refine st_num (m' := { Mc.nul with rom := m.rom, ram := m.ram, a := m.a, b := m.b }) (k := 3) rfl rfl rfl rfl z7 rfl rfl ?_; intro w8 z8 o8 s8; have r8 := r7.onto o8 (by omega); have y8 := y7.onto o8 (by omega); have t8 := t7.trans (Turn.onto o8 (.inl rfl)); have f8 := (cwl r8).pc)
    | (refine st_num (m' := { Mc.nul with rom := m.rom, ram := m.ram, a := m.a, b := m.b, pc := m.pc }) (k := 4) rfl rfl rfl rfl z8 rfl rfl ?_; intro w9 z9 o9 s9; have r9 := r8.onto o9 (by omega); have y9 := y8.onto o9 (by omega); have t9 := t8.trans (Turn.onto o9 (.inl rfl)); have f9 := (cwl r9).sp)
    | (refine st_num (m' := { Mc.nul with rom := m.rom, ram := m.ram, a := m.a, b := m.b, pc := m.pc, sp := m.sp }) (k := 5) rfl rfl rfl rfl z9 rfl rfl ?_; intro w10 z10 o10 s10; have r10 := r9.onto o10 (by omega); have y10 := y9.onto o10 (by omega); have t10 := t9.trans (Turn.onto o10 (.inl rfl)); have f10 := (cwl r10).z)
    | (refine st_yes (m' := { Mc.nul with rom := m.rom, ram := m.ram, a := m.a, b := m.b, pc := m.pc, sp := m.sp, z := m.z }) (k := 6) rfl rfl rfl rfl z10 rfl rfl ?_; intro w11 z11 o11 s11; have r11 := r10.onto o11 (by omega); have y11 := y10.onto o11 (by omega); have t11 := t10.trans (Turn.onto o11 (.inl rfl)); have f11 := (cwl r11).c)
    | (refine st_yes (m' := { Mc.nul with rom := m.rom, ram := m.ram, a := m.a, b := m.b, pc := m.pc, sp := m.sp, z := m.z, c := m.c }) (k := 7) rfl rfl rfl rfl z11 rfl rfl ?_; intro w12 z12 o12 s12; have r12 := r11.onto o12 (by omega); have y12 := y11.onto o12 (by omega); have t12 := t11.trans (Turn.onto o12 (.inl rfl)); have f12 := (cwl r12).e)
    | (refine st_yes (m' := { Mc.nul with rom := m.rom, ram := m.ram, a := m.a, b := m.b, pc := m.pc, sp := m.sp, z := m.z, c := m.c, e := m.e }) (k := 8) rfl rfl rfl rfl z12 rfl rfl ?_; intro w13 z13 o13 s13; have r13 := r12.onto o13 (by omega); have y13 := y12.onto o13 (by omega); have t13 := t12.trans (Turn.onto o13 (.inl rfl)); have f13 := (cwl r13).h)
    | (refine st_yes (m' := { Mc.nul with rom := m.rom, ram := m.ram, a := m.a, b := m.b, pc := m.pc, sp := m.sp, z := m.z, c := m.c, e := m.e, h := m.h }) (k := 9) rfl rfl rfl rfl z13 rfl rfl ?_; intro w14 z14 o14 s14; have r14 := r13.onto o14 (by omega); have y14 := y13.onto o14 (by omega); have t14 := t13.trans (Turn.onto o14 (.inl rfl)); have f14 := (cwl r14).s)
    | (refine st_yes (m' := { Mc.nul with rom := m.rom, ram := m.ram, a := m.a, b := m.b, pc := m.pc, sp := m.sp, z := m.z, c := m.c, e := m.e, h := m.h, s := m.s }) (k := 10) rfl rfl rfl rfl z14 rfl rfl ?_; intro w15 z15 o15 s15; have r15 := r14.onto o15 (by omega); have y15 := y14.onto o15 (by omega); have t15 := t14.trans (Turn.onto o15 (.inl rfl)); have f15 := (cwl r15).fl)
    | (refine st_num (m' := { Mc.nul with rom := m.rom, ram := m.ram, a := m.a, b := m.b, pc := m.pc, sp := m.sp, z := m.z, c := m.c, e := m.e, h := m.h, s := m.s, fl := m.fl }) (k := 11) rfl rfl rfl rfl z15 rfl rfl ?_; intro w16 z16 o16 s16; have r16 := r15.onto o16 (by omega); have y16 := y15.onto o16 (by omega); have t16 := t15.trans (Turn.onto o16 (.inl rfl)); have f16 := (cwl r16).ms)
    | (refine st_num (m' := { Mc.nul with rom := m.rom, ram := m.ram, a := m.a, b := m.b, pc := m.pc, sp := m.sp, z := m.z, c := m.c, e := m.e, h := m.h, s := m.s, fl := m.fl, ms := m.ms }) (k := 12) rfl rfl rfl rfl z16 rfl rfl ?_; intro w17 z17 o17 s17; have r17 := r16.onto o17 (by omega); have y17 := y16.onto o17 (by omega); have t17 := t16.trans (Turn.onto o17 (.inl rfl)); have f17 := (cwl r17).ky)
    | (refine st_num (m' := { Mc.nul with rom := m.rom, ram := m.ram, a := m.a, b := m.b, pc := m.pc, sp := m.sp, z := m.z, c := m.c, e := m.e, h := m.h, s := m.s, fl := m.fl, ms := m.ms, ky := m.ky }) (k := 13) rfl rfl rfl rfl z17 rfl rfl ?_; intro w18 z18 o18 s18; have r18 := r17.onto o18 (by omega); have y18 := y17.onto o18 (by omega); have t18 := t17.trans (Turn.onto o18 (.inl rfl)))
    | (refine ld_lt rfl rfl rfl r18 ?_)
    | (go_at_call 93; refine (toTimer_any m.t _).mono ?_; rintro e w19 ⟨rfl, hb19⟩; have r19 := r18.below hb19; have z19 := z18.below hb19; have y19 := y18.below hb19; have t19 := t18.trans (Turn.of hb19))
    | (refine st_time' (t := m.t) rfl rfl rfl rfl z19 ?_; intro w20 z20 o20 s20; have r20 := r19.onto o20 (by omega); have y20 := y19.onto o20 (by omega); have t20 := t19.trans (Turn.onto o20 (.inl rfl)))
    | (refine ld_lp rfl rfl rfl r20 ?_)
    | (go_at_call 94; refine (toSerial_any m.p _).mono ?_; rintro e w21 ⟨rfl, hb21⟩; have r21 := r20.below hb21; have z21 := z20.below hb21; have y21 := y20.below hb21; have t21 := t20.trans (Turn.of hb21))
    | (refine st_port' (s := m.p) rfl rfl rfl rfl z21 ?_; intro w22 z22 o22 s22; have r22 := r21.onto o22 (by omega); have y22 := y21.onto o22 (by omega); have t22 := t21.trans (Turn.onto o22 (.inl rfl)); have f22 := (cwl r22).k)
    | (refine st_num (m' := m) (k := 24) rfl rfl rfl rfl z22 rfl rfl ?_; intro w23 z23 o23 s23; have y23 := y22.onto o23 (by omega); have t23 := t22.trans (Turn.onto o23 (.inl rfl)))
    | (refine ld_mc rfl rfl rfl z23 ?_)
    | (refine st_mc rfl rfl rfl rfl y23 (one_own ho3) (one_own ho5) ?_; intro w24 z24 o24 s24; have t24 := t23.trans (Turn.onto o24 (.inr rfl))))
  refine ret_mc rfl rfl z24 rfl ?_
  refine ⟨_, rfl, ⟨v3, v5, rfl, ?_, ?_, hap⟩, t24.below hB5 (fun k hk => by rcases hk with rfl | rfl <;> omega)⟩
  · exact (t24.own ho35 (fun k hk e => by have := ho3l k hk; rcases e with rfl | rfl <;> omega)).mono (by omega)
  · exact (t24.own ho5 (fun k hk e => by have := ho5l k hk; rcases e with rfl | rfl <;> omega)).mono (by omega)
end Go.Proofs.YtghmkacamabndaaGreatDoor.Mem
namespace Go.Proofs.YtghmkacamabndaaGreatDoor.Mem
open Go.ChangeShapes Go.WideShapes Go.RowKit Base Num Slc Rw Tmr Srl Rom RomOf

set_option maxHeartbeats 2000000 in
theorem machineOk_spec (v : Value) (m : Mc) (w : World) (hm : MSl w v m) :
    Calls Tryz.prog 55 #[v] w fun e w' => e = .returned (.bool m.ok) ∧ Below w.heap.size w w' := by
  obtain ⟨vr, va, rfl, hr, ⟨aa, ca, rfl, hia, hla, hca, hna⟩⟩ := hm
  have hml : m.ram.length ≤ maxLen := Nat.le_trans hla hca
  clear hla hca hna
  obtain ⟨cs, hv, hcs, hk⟩ := Mc.open vr (.slice aa m.ram.length ca) m
  rw [hv]
  clear hv hcs
  go_enter Tryz.func55, Tryz.ntmps55
  go_wp2_with (refine box_mc rfl rfl rfl hk ?_; intro w0 r0 hB0; obtain ⟨k0, k1, k2, k3, k4, k5, -, -, -, -, -, k11, k12, k13, k14, k15, k16, k17, k18, k19, k20, k21, k22, k23, k24⟩ := hk.at  r0)
  go_at_call 81
  refine (romOk_specS _ m.rom _ (hr.below hB0)).mono ?_
  rintro e w1 ⟨rfl, n1, hw1⟩
  have hb1 := drew_below hw1
  have r1 := r0.below hb1
  have hB : Below w.heap.size w w1 := hB0.trans (hb1.mono hB0.size)
  have hia1 := hia.below hB
  clear hw1 hb1 hia hr r0 k0 k1 k2 k3 k4 k5 k11 k12 k13 k14 k15 k16 k17 k18 k19 k20 k21 k22 k23 k24
  obtain ⟨k0, k1, k2, k3, k4, k5, -, -, -, -, -, k11, k12, k13, k14, k15, k16, k17, k18, k19, k20, k21, k22, k23, k24⟩ := hk.at  r1
  generalize h1 : romOk m.rom = q1
  cases q1
  · go_wp2_with fail
    go_ret
    exact ⟨ret_bool (by simp [Mc.ok, h1]), hB⟩
  by_cases h2 : m.ram.length = 64
  · have h2' : ((m.ram.length : Int) == 64) = true := by simp [h2]
    have H2 : Hid (m.ram.length = 64) := h2
    clear h2
    go_wp2_with (first
      | (go_at_call 121; refine (bytes_spec _ _ _ m.ram _ hia1 hml).mono ?_; rintro e w2 ⟨rfl, rfl⟩; generalize h3 : m.ram.all bok = r; cases r)
      | (go_at_call 122; refine (byteOk_spec _ _).mono ?_; rintro e w2 ⟨rfl, rfl⟩; generalize hb : bok _ = r; cases r)
      | (go_at_call 123; refine (in_any _ _ _ _).mono ?_; rintro e w2 ⟨rfl, rfl⟩; generalize hi : inn _ _ _ = r; cases r)
      | (go_at_call 124; refine (timerOk_spec m.t _).mono ?_; rintro e w2 ⟨rfl, hb2⟩; replace r1 := r1.below hb2; replace hB := hB.trans (hb2.mono hB.size); clear hb2 k0 k1 k2 k3 k4 k5 k11 k12 k13 k14 k15 k16 k17 k18 k19 k20 k21 k22 k23 k24; obtain ⟨k0, k1, k2, k3, k4, k5, -, -, -, -, -, k11, k12, k13, k14, k15, k16, k17, k18, k19, k20, k21, k22, k23, k24⟩ := hk.at  r1; generalize h11 : m.t.ok = r; cases r)
      | (go_at_call 125; refine (serialOk_spec m.p _).mono ?_; rintro e w2 ⟨rfl, hb2⟩; replace r1 := r1.below hb2; replace hB := hB.trans (hb2.mono hB.size); clear hb2 k0 k1 k2 k3 k4 k5 k11 k12 k13 k14 k15 k16 k17 k18 k19 k20 k21 k22 k23 k24; obtain ⟨k0, k1, k2, k3, k4, k5, -, -, -, -, -, k11, k12, k13, k14, k15, k16, k17, k18, k19, k20, k21, k22, k23, k24⟩ := hk.at  r1; generalize h12 : m.p.ok = r; cases r))
    all_goals go_ret
    all_goals exact ⟨ret_bool (by simp [Mc.ok, H2.out, *]), hB⟩
  · have h2' : ((m.ram.length : Int) == 64) = false := by simp; omega
    go_wp2_with fail
    go_ret
    exact ⟨ret_bool (by simp [Mc.ok, h2]), hB⟩
end Go.Proofs.YtghmkacamabndaaGreatDoor.Mem
namespace Go.Proofs.YtghmkacamabndaaGreatDoor.Mem
open Go.ChangeShapes Go.WideShapes Go.RowKit Base Num Slc Rw Tmr Srl Rom RomOf

theorem flag_any (b : Bool) (w : World) :
    Calls Tryz.prog 234 #[.bool b] w fun e w' => e = .returned (.int .i64 (flag b)) ∧ w' = w := by
  cases b
  all_goals
    go_enter Tryz.func234, Tryz.ntmps234
    go_wp2
    go_ret
    exact ⟨rfl, rfl⟩
theorem flag_in (b : Bool) : 0 ≤ flag b ∧ flag b ≤ 1 := by cases b <;> simp [flag]
structure Right (m : Mc) : Prop where
  rom : 2 ≤ m.rom.length ∧ m.rom.length ≤ 128
  ram : m.ram.length = 64
  tim : 0 ≤ m.t.c ∧ m.t.c ≤ 1000000000
theorem Mc.right {m : Mc} (h : m.ok = true) : Right m := by
  obtain ⟨h1, h2, h3, h4, h5⟩ := Mc.ok_rom h
  exact ⟨romOk_len h1, h2, (Tm.ok_true h3).1⟩
set_option maxHeartbeats 2000000 in
theorem l6Read_spec (v : Value) (m : Mc) (q : Int) (w : World) (hm : MSl w v m) (hR : Right m) (hq : 0 ≤ q ∧ q ≤ 255) :
    Calls Tryz.prog 173 #[v, .int .i64 q] w fun e w' => e = .returned (.int .i64 (m.read q)) ∧ Below w.heap.size w w' := by
  obtain ⟨vr, va, rfl, ⟨ar, cr, rfl, hir, hlr, hcr, hnr⟩, ⟨aa, ca, rfl, hia, hla, hca, hna⟩⟩ := hm
  have hR1 := hR.rom
  have hR2 := hR.ram
  have hR3 := hR.tim
  unfold maxLen at hcr hca
  obtain ⟨vv, hvv⟩ : ∃ vv, m.val (.slice ar m.rom.length cr) (.slice aa m.ram.length ca) = vv := ⟨_, rfl⟩
  rw [hvv]
  clear hnr hna
  by_cases h128 : q < 128
  · by_cases hl : q < (m.rom.length : Int)
    · obtain ⟨k, rfl⟩ : ∃ k : Nat, q = (k : Int) := ⟨q.toNat, by omega⟩
      have e : m.read (k : Int) = m.rom.getD k 0 := by simp [Mc.read, h128, hl]
      rw [e]
      have hkl : k < m.rom.length := by omega
      rcases hir.2 with h0 | ⟨b, off, rfl, hbl, hcell⟩
      · omega
      have hz := hcell k hkl
      generalize m.rom.getD k 0 = z at hz ⊢
      clear hcell hir hR2 e
      go_enter Tryz.func173, Tryz.ntmps173
      go_wp2_with (refine box_m rfl rfl hvv.symm ?_; intro w0 r0 hB0; have k0 := (cw r0).vr; have hz0 : w0.cell? ⟨b, off + k, none⟩ = some (.int .i64 z) := (hB0.cell (p := ⟨b, off + k, none⟩) hbl).trans hz)
      go_ret
      exact ⟨rfl, hB0⟩
    · have e : m.read q = 255 := by simp [Mc.read, h128, hl]
      rw [e]
      clear hR2
      go_enter Tryz.func173, Tryz.ntmps173
      go_wp2_with (refine box_m rfl rfl hvv.symm ?_; intro w0 r0 hB0; have k0 := (cw r0).vr)
      go_ret
      exact ⟨rfl, hB0⟩
  by_cases h192 : q < 192
  · obtain ⟨k, rfl⟩ : ∃ k : Nat, q = 128 + (k : Int) := ⟨(q - 128).toNat, by omega⟩
    have e : m.read (128 + (k : Int)) = m.ram.getD k 0 := by
      have h1 : ¬ (128 + (k : Int)) < 128 := h128
      have h2 : (128 + (k : Int) - 128).toNat = k := by omega
      simp only [Mc.read, h1, h192, if_true, if_false, h2]
    rw [e]
    have hkl : k < m.ram.length := by omega
    rcases hia.2 with h0 | ⟨b, off, rfl, hbl, hcell⟩
    · omega
    have hz := hcell k hkl
    have hs : 128 + (k : Int) - 128 = (k : Int) := by omega
    generalize m.ram.getD k 0 = z at hz ⊢
    clear hcell hir e hR2 hia
    go_enter Tryz.func173, Tryz.ntmps173
    go_wp2_with (refine box_m rfl rfl hvv.symm ?_; intro w0 r0 hB0; have k0 := (cw r0).va; have hz0 : w0.cell? ⟨b, off + k, none⟩ = some (.int .i64 z) := (hB0.cell (p := ⟨b, off + k, none⟩) hbl).trans hz)
    go_ret
    exact ⟨rfl, hB0⟩
  clear hR2
  by_cases h0 : q = 240
  · subst h0
    go_enter Tryz.func173, Tryz.ntmps173
    go_wp2_with (refine box_m rfl rfl hvv.symm ?_; intro w0 r0 hB0; have k0 := (cw r0).pd)
    go_ret
    exact ⟨rfl, hB0⟩
  by_cases h1 : q = 241
  · subst h1
    have hf1 := flag_in m.p.b
    have hf2 := flag_in m.p.l
    go_enter Tryz.func173, Tryz.ntmps173
    go_wp2_with (refine box_m rfl rfl hvv.symm ?_; intro w0 r0 hB0; have k0 := (cw r0).pb; have k1 := (cw r0).pl)
    go_quiet ((go_at_call 234; refine Calls.quiet_of_same (flag_any _ _)))
    go_wp2
    go_ret
    exact ⟨rfl, below_drewN hB0 _⟩
  by_cases h2 : q = 242
  · subst h2
    have q1 := quo_pos' (a := m.t.c) (r := 16) hR3.1
    have q2 := rem_pos' (a := m.t.c / 16) (r := 256) (by omega)
    go_enter Tryz.func173, Tryz.ntmps173
    go_wp2_with (refine box_m rfl rfl hvv.symm ?_; intro w0 r0 hB0; have k0 := (cw r0).tc)
    go_ret
    exact ⟨rfl, hB0⟩
  by_cases h3 : q = 243
  · subst h3
    go_enter Tryz.func173, Tryz.ntmps173
    go_wp2_with (refine box_m rfl rfl hvv.symm ?_; intro w0 r0 hB0; have k0 := (cw r0).tv)
    go_ret
    exact ⟨rfl, hB0⟩
  by_cases h4 : q = 244
  · subst h4
    go_enter Tryz.func173, Tryz.ntmps173
    go_wp2_with (refine box_m rfl rfl hvv.symm ?_; intro w0 r0 hB0; have k0 := (cw r0).ts)
    go_ret
    exact ⟨rfl, hB0⟩
  by_cases h5 : q = 245
  · subst h5
    go_enter Tryz.func173, Tryz.ntmps173
    go_wp2_with (refine box_m rfl rfl hvv.symm ?_; intro w0 r0 hB0; have k0 := (cw r0).tm)
    go_ret
    exact ⟨rfl, hB0⟩
  by_cases h6 : q = 246
  · subst h6
    go_enter Tryz.func173, Tryz.ntmps173
    go_wp2_with (refine box_m rfl rfl hvv.symm ?_; intro w0 r0 hB0; have k0 := (cw r0).fl)
    go_ret
    exact ⟨rfl, hB0⟩
  by_cases h7 : q = 247
  · subst h7
    go_enter Tryz.func173, Tryz.ntmps173
    go_wp2_with (refine box_m rfl rfl hvv.symm ?_; intro w0 r0 hB0; have k0 := (cw r0).ms)
    go_ret
    exact ⟨rfl, hB0⟩
  by_cases h8 : q = 248
  · subst h8
    go_enter Tryz.func173, Tryz.ntmps173
    go_wp2_with (refine box_m rfl rfl hvv.symm ?_; intro w0 r0 hB0; have k0 := (cw r0).ky)
    go_ret
    exact ⟨rfl, hB0⟩
  have e : m.read q = 255 := by simp [Mc.read, h128, h192, h0, h1, h2, h3, h4, h5, h6, h7, h8]
  rw [e]
  go_enter Tryz.func173, Tryz.ntmps173
  go_wp2_with (refine box_m rfl rfl hvv.symm ?_; intro w0 r0 hB0)
  go_ret
  exact ⟨rfl, hB0⟩
end Go.Proofs.YtghmkacamabndaaGreatDoor.Mem
namespace Go.Proofs.YtghmkacamabndaaGreatDoor.Mem
open Go.ChangeShapes Go.WideShapes Go.RowKit Base Num Slc Rw Tmr Srl Rom RomOf

set_option maxHeartbeats 2000000 in
theorem machineOk_impl (v : Value) (m : Mc) (w : World) (hm : MSl w v m) :
    Calls Tryz.prog 20 #[v] w fun e w' => e = .returned (.bool m.ok) ∧ Below w.heap.size w w' := by
  obtain ⟨vr, va, rfl, hr, ⟨aa, ca, rfl, hia, hla, hca, hna⟩⟩ := hm
  have hml : m.ram.length ≤ maxLen := Nat.le_trans hla hca
  clear hla hca hna
  obtain ⟨cs, hv, hcs, hk⟩ := Mc.open vr (.slice aa m.ram.length ca) m
  rw [hv]
  clear hv hcs
  go_enter Tryz.func20, Tryz.ntmps20
  go_wp2_with (refine box_mc rfl rfl rfl hk ?_; intro w0 r0 hB0; obtain ⟨k0, k1, k2, k3, k4, k5, -, -, -, -, -, k11, k12, k13, k14, k15, k16, k17, k18, k19, k20, k21, k22, k23, k24⟩ := hk.at  r0)
  go_at_call 73
  refine (romOk_implS _ m.rom _ (hr.below hB0)).mono ?_
  rintro e w1 ⟨rfl, n1, hw1⟩
  have hb1 := drew_below hw1
  have r1 := r0.below hb1
  have hB : Below w.heap.size w w1 := hB0.trans (hb1.mono hB0.size)
  have hia1 := hia.below hB
  clear hw1 hb1 hia hr r0 k0 k1 k2 k3 k4 k5 k11 k12 k13 k14 k15 k16 k17 k18 k19 k20 k21 k22 k23 k24
  obtain ⟨k0, k1, k2, k3, k4, k5, -, -, -, -, -, k11, k12, k13, k14, k15, k16, k17, k18, k19, k20, k21, k22, k23, k24⟩ := hk.at  r1
  generalize h1 : romOk m.rom = q1
  cases q1
  · go_wp2_with fail
    go_ret
    exact ⟨ret_bool (by simp [Mc.ok, h1]), hB⟩
  by_cases h2 : m.ram.length = 64
  · have h2' : ((m.ram.length : Int) == 64) = true := by simp [h2]
    have H2 : Hid (m.ram.length = 64) := h2
    clear h2
    go_wp2_with (first
      | (go_at_call 74; refine (bytes_impl _ _ _ m.ram _ hia1 hml).mono ?_; rintro e w2 ⟨rfl, rfl⟩; generalize h3 : m.ram.all bok = r; cases r)
      | (go_at_call 75; refine (byteOk_impl _ _).mono ?_; rintro e w2 ⟨rfl, rfl⟩; generalize hb : bok _ = r; cases r)
      | (go_at_call 76; refine (flagsOk_impl _ _).mono ?_; rintro e w2 ⟨rfl, rfl⟩; generalize hi : inn _ _ _ = r; cases r)
      | (go_at_call 77; refine (timerOk_impl m.t _).mono ?_; rintro e w2 ⟨rfl, hb2⟩; replace r1 := r1.below hb2; replace hB := hB.trans (hb2.mono hB.size); clear hb2 k0 k1 k2 k3 k4 k5 k11 k12 k13 k14 k15 k16 k17 k18 k19 k20 k21 k22 k23 k24; obtain ⟨k0, k1, k2, k3, k4, k5, -, -, -, -, -, k11, k12, k13, k14, k15, k16, k17, k18, k19, k20, k21, k22, k23, k24⟩ := hk.at  r1; generalize h11 : m.t.ok = r; cases r)
      | (go_at_call 78; refine (serialOk_impl m.p _).mono ?_; rintro e w2 ⟨rfl, hb2⟩; replace r1 := r1.below hb2; replace hB := hB.trans (hb2.mono hB.size); clear hb2 k0 k1 k2 k3 k4 k5 k11 k12 k13 k14 k15 k16 k17 k18 k19 k20 k21 k22 k23 k24; obtain ⟨k0, k1, k2, k3, k4, k5, -, -, -, -, -, k11, k12, k13, k14, k15, k16, k17, k18, k19, k20, k21, k22, k23, k24⟩ := hk.at  r1; generalize h12 : m.p.ok = r; cases r))
    all_goals go_ret
    all_goals exact ⟨ret_bool (by simp [Mc.ok, H2.out, *]), hB⟩
  · have h2' : ((m.ram.length : Int) == 64) = false := by simp; omega
    go_wp2_with fail
    go_ret
    exact ⟨ret_bool (by simp [Mc.ok, h2]), hB⟩
end Go.Proofs.YtghmkacamabndaaGreatDoor.Mem
namespace Go.Proofs.YtghmkacamabndaaGreatDoor.Mem
open Go.ChangeShapes Go.WideShapes Go.RowKit Base Num Slc Rw Tmr Srl Rom RomOf Mp Reg

def cable (s : Sr) : Int := 128 * flag s.b + flag s.l
def Mc.port (m : Mc) (q : Int) : Option Int :=
  if q = 240 then some m.p.d else if q = 241 then some (cable m.p) else if q = 242 then some (m.t.c / 16 % 256) else if q = 243 then some m.t.v else if q = 244 then some m.t.s
  else if q = 245 then some m.t.m else if q = 246 then some m.fl else if q = 247 then some m.ms else if q = 248 then some m.ky else none
def PortsAt (w : World) (b : Nat) (f : Int → Option Int) : Prop := ∃ L, MapAt w b L ∧ (L.map Prod.fst).Nodup ∧ ∀ x, mget L x = f x
theorem cableTold_impl (s : Sr) (w : World) :
    Calls Tryz.prog 244 #[s.val] w fun e w' => e = .returned (.int .i64 (cable s)) ∧ Below w.heap.size w w' := by
  obtain ⟨d, b, l, n, x, t⟩ := s
  show Calls Tryz.prog 244 #[.agg #[.int .i64 d, .bool b, .bool l, .int .i64 n, .int .i64 x, .bool t]] w _
  cases b <;> cases l
  all_goals
    go_enter Tryz.func244, Tryz.ntmps244
    go_wp2
    go_ret
    exact ⟨rfl, (Below.refl _ _).alloc (Nat.le_refl _) _⟩
theorem und_map : Tryz.prog.underlying 186 = some (.map 2 2) := Tryz.underlying186
structure Gm (w : World) (cs : Array Value) (W : World) : Prop where
  row : Row W w.heap.size cs 30
  bel : Below w.heap.size w W
theorem Gm.below {w W W' : World} {cs : Array Value} (h : Gm w cs W) (hb : Below W.heap.size W W') : Gm w cs W' := ⟨h.row.below hb, below_more h.bel hb⟩
theorem Gm.onto {w W W' : World} {cs : Array Value} {b : Nat} (h : Gm w cs W) (ho : Onto b W W') (hb : w.heap.size < b) : Gm w cs W' := ⟨h.row.onto ho (by omega), below_onto h.bel ho (by omega)⟩
theorem Gm.drew {w W : World} {cs : Array Value} (h : Gm w cs W) : Gm w cs W.drew := ⟨h.row.drewN 1, h.bel.drew⟩
set_option maxRecDepth 100000 in
set_option maxHeartbeats 4000000 in
theorem portsOf_impl (v : Value) (m : Mc) (w : World) (hm : MSl w v m) (h0 : 0 ≤ m.t.c) (h1 : m.t.c ≤ 1000000000) :
    Calls Tryz.prog 186 #[v] w fun e w' => ∃ b, e = .returned (.map (some b)) ∧ w.heap.size ≤ b ∧ PortsAt w' b m.port ∧ Below w.heap.size w w' := by
  obtain ⟨vr, va, rfl, hr, ha⟩ := hm
  obtain ⟨cs, hv, hcs, hk⟩ := Mc.open vr va m
  rw [hv]
  clear hv hcs
  go_enter Tryz.func186, Tryz.ntmps186
  go_wp2_with (refine box_mc rfl rfl rfl hk ?_; intro w0 r0 hB0)
  have hG : Gm w cs w0 := ⟨r0, hB0⟩
  clear r0 hB0 hr ha
  obtain ⟨l, hl⟩ : ∃ l : List Tk, l = [.new, .val 4 (.pointer (some ⟨w.heap.size, 18, none⟩)), .val 5 (.pointer (some ⟨w.heap.size, 18, none⟩)), .val 6 (.int .i64 (m.p.d)), .ins 240 (m.p.d), .val 7 (.pointer (some ⟨w.heap.size, 18, none⟩)), .val 8 (m.p.val), .val 9 (.int .i64 (cable m.p)), .ins 241 (cable m.p), .val 10 (.pointer (some ⟨w.heap.size, 14, none⟩)), .val 11 (.pointer (some ⟨w.heap.size, 14, none⟩)), .val 12 (.int .i64 (m.t.c)), .val 13 (.int .i64 (m.t.c / 16)), .val 14 (.int .i64 (m.t.c / 16 % 256)), .ins 242 (m.t.c / 16 % 256), .val 15 (.pointer (some ⟨w.heap.size, 14, none⟩)), .val 16 (.pointer (some ⟨w.heap.size, 15, none⟩)), .val 17 (.int .i64 (m.t.v)), .ins 243 (m.t.v), .val 18 (.pointer (some ⟨w.heap.size, 14, none⟩)), .val 19 (.pointer (some ⟨w.heap.size, 16, none⟩)), .val 20 (.int .i64 (m.t.s)), .ins 244 (m.t.s), .val 21 (.pointer (some ⟨w.heap.size, 14, none⟩)), .val 22 (.pointer (some ⟨w.heap.size, 17, none⟩)), .val 23 (.int .i64 (m.t.m)), .ins 245 (m.t.m), .val 24 (.pointer (some ⟨w.heap.size, 11, none⟩)), .val 25 (.int .i64 (m.fl)), .ins 246 (m.fl), .val 26 (.pointer (some ⟨w.heap.size, 12, none⟩)), .val 27 (.int .i64 (m.ms)), .ins 247 (m.ms), .val 28 (.pointer (some ⟨w.heap.size, 13, none⟩)), .val 29 (.int .i64 (m.ky)), .ins 248 (m.ky), .same 30 3, .same 2 30] := ⟨_, rfl⟩
  have hks : l.map Tk.key = [-1, -1, -1, -1, 240, -1, -1, -1, 241, -1, -1, -1, -1, -1, 242, -1, -1, -1, 243, -1, -1, -1, 244, -1, -1, -1, 245, -1, -1, 246, -1, -1, 247, -1, -1, 248, -1, -1] := by rw [hl]; rfl
  refine region_gen (by kernel_rfl) (by kernel_rfl) (fun W => Gm w cs W) (told w.heap.size l) (fun i => Rq (([-1, -1, -1, -1, 240, -1, -1, -1, 241, -1, -1, -1, -1, -1, 242, -1, -1, -1, 243, -1, -1, -1, 244, -1, -1, -1, 245, -1, -1, 246, -1, -1, 247, -1, -1, 248, -1, -1] : List Int).getD i (-1))) ?mono hG.drew ?step ?done
  case mono =>
    refine told_mono hks (by decide +kernel) ?_ ?_ (by rw [hl]; rfl)
    · rw [hl]; kernel_rfl
    · intro q x hx
      rw [hl] at hx
      simp only [Tk.val, Tk.new, Tk.ins, Tk.same, List.mem_cons, List.not_mem_nil, or_false, reduceCtorEq, false_or, Sum.inr.injEq, Sum.inl.injEq, Prod.mk.injEq] at hx
      omega
  case step =>
    intro L ix o A W hi hI hL hd
    have hin : ix < 38 := by
      by_cases hl : ix < 38
      · exact hl
      · simp [hl] at hi
    have hsz : A.tmps.size = 31 := hI.size
    have hg := hI.g
    have ck := hk.at hg.row
    have q0 : ∀ f W, told w.heap.size l 0 f W ↔ Tk.says w.heap.size f W (.new) := fun f W => by rw [hl]; exact Iff.rfl
    have q1 : ∀ f W, told w.heap.size l 1 f W ↔ Tk.says w.heap.size f W (.val 4 (.pointer (some ⟨w.heap.size, 18, none⟩))) := fun f W => by rw [hl]; exact Iff.rfl
    have q2 : ∀ f W, told w.heap.size l 2 f W ↔ Tk.says w.heap.size f W (.val 5 (.pointer (some ⟨w.heap.size, 18, none⟩))) := fun f W => by rw [hl]; exact Iff.rfl
    have q3 : ∀ f W, told w.heap.size l 3 f W ↔ Tk.says w.heap.size f W (.val 6 (.int .i64 (m.p.d))) := fun f W => by rw [hl]; exact Iff.rfl
    have q4 : ∀ f W, told w.heap.size l 4 f W ↔ Tk.says w.heap.size f W (.ins 240 (m.p.d)) := fun f W => by rw [hl]; exact Iff.rfl
    have q5 : ∀ f W, told w.heap.size l 5 f W ↔ Tk.says w.heap.size f W (.val 7 (.pointer (some ⟨w.heap.size, 18, none⟩))) := fun f W => by rw [hl]; exact Iff.rfl
    have q6 : ∀ f W, told w.heap.size l 6 f W ↔ Tk.says w.heap.size f W (.val 8 (m.p.val)) := fun f W => by rw [hl]; exact Iff.rfl
    have q7 : ∀ f W, told w.heap.size l 7 f W ↔ Tk.says w.heap.size f W (.val 9 (.int .i64 (cable m.p))) := fun f W => by rw [hl]; exact Iff.rfl
    have q8 : ∀ f W, told w.heap.size l 8 f W ↔ Tk.says w.heap.size f W (.ins 241 (cable m.p)) := fun f W => by rw [hl]; exact Iff.rfl
    have q9 : ∀ f W, told w.heap.size l 9 f W ↔ Tk.says w.heap.size f W (.val 10 (.pointer (some ⟨w.heap.size, 14, none⟩))) := fun f W => by rw [hl]; exact Iff.rfl
    have q10 : ∀ f W, told w.heap.size l 10 f W ↔ Tk.says w.heap.size f W (.val 11 (.pointer (some ⟨w.heap.size, 14, none⟩))) := fun f W => by rw [hl]; exact Iff.rfl
    have q11 : ∀ f W, told w.heap.size l 11 f W ↔ Tk.says w.heap.size f W (.val 12 (.int .i64 (m.t.c))) := fun f W => by rw [hl]; exact Iff.rfl
    have q12 : ∀ f W, told w.heap.size l 12 f W ↔ Tk.says w.heap.size f W (.val 13 (.int .i64 (m.t.c / 16))) := fun f W => by rw [hl]; exact Iff.rfl
    have q13 : ∀ f W, told w.heap.size l 13 f W ↔ Tk.says w.heap.size f W (.val 14 (.int .i64 (m.t.c / 16 % 256))) := fun f W => by rw [hl]; exact Iff.rfl
    have q14 : ∀ f W, told w.heap.size l 14 f W ↔ Tk.says w.heap.size f W (.ins 242 (m.t.c / 16 % 256)) := fun f W => by rw [hl]; exact Iff.rfl
    have q15 : ∀ f W, told w.heap.size l 15 f W ↔ Tk.says w.heap.size f W (.val 15 (.pointer (some ⟨w.heap.size, 14, none⟩))) := fun f W => by rw [hl]; exact Iff.rfl
    have q16 : ∀ f W, told w.heap.size l 16 f W ↔ Tk.says w.heap.size f W (.val 16 (.pointer (some ⟨w.heap.size, 15, none⟩))) := fun f W => by rw [hl]; exact Iff.rfl
    have q17 : ∀ f W, told w.heap.size l 17 f W ↔ Tk.says w.heap.size f W (.val 17 (.int .i64 (m.t.v))) := fun f W => by rw [hl]; exact Iff.rfl
    have q18 : ∀ f W, told w.heap.size l 18 f W ↔ Tk.says w.heap.size f W (.ins 243 (m.t.v)) := fun f W => by rw [hl]; exact Iff.rfl
    have q19 : ∀ f W, told w.heap.size l 19 f W ↔ Tk.says w.heap.size f W (.val 18 (.pointer (some ⟨w.heap.size, 14, none⟩))) := fun f W => by rw [hl]; exact Iff.rfl
    have q20 : ∀ f W, told w.heap.size l 20 f W ↔ Tk.says w.heap.size f W (.val 19 (.pointer (some ⟨w.heap.size, 16, none⟩))) := fun f W => by rw [hl]; exact Iff.rfl
    have q21 : ∀ f W, told w.heap.size l 21 f W ↔ Tk.says w.heap.size f W (.val 20 (.int .i64 (m.t.s))) := fun f W => by rw [hl]; exact Iff.rfl
    have q22 : ∀ f W, told w.heap.size l 22 f W ↔ Tk.says w.heap.size f W (.ins 244 (m.t.s)) := fun f W => by rw [hl]; exact Iff.rfl
    have q23 : ∀ f W, told w.heap.size l 23 f W ↔ Tk.says w.heap.size f W (.val 21 (.pointer (some ⟨w.heap.size, 14, none⟩))) := fun f W => by rw [hl]; exact Iff.rfl
    have q24 : ∀ f W, told w.heap.size l 24 f W ↔ Tk.says w.heap.size f W (.val 22 (.pointer (some ⟨w.heap.size, 17, none⟩))) := fun f W => by rw [hl]; exact Iff.rfl
    have q25 : ∀ f W, told w.heap.size l 25 f W ↔ Tk.says w.heap.size f W (.val 23 (.int .i64 (m.t.m))) := fun f W => by rw [hl]; exact Iff.rfl
    have q26 : ∀ f W, told w.heap.size l 26 f W ↔ Tk.says w.heap.size f W (.ins 245 (m.t.m)) := fun f W => by rw [hl]; exact Iff.rfl
    have q27 : ∀ f W, told w.heap.size l 27 f W ↔ Tk.says w.heap.size f W (.val 24 (.pointer (some ⟨w.heap.size, 11, none⟩))) := fun f W => by rw [hl]; exact Iff.rfl
    have q28 : ∀ f W, told w.heap.size l 28 f W ↔ Tk.says w.heap.size f W (.val 25 (.int .i64 (m.fl))) := fun f W => by rw [hl]; exact Iff.rfl
    have q29 : ∀ f W, told w.heap.size l 29 f W ↔ Tk.says w.heap.size f W (.ins 246 (m.fl)) := fun f W => by rw [hl]; exact Iff.rfl
    have q30 : ∀ f W, told w.heap.size l 30 f W ↔ Tk.says w.heap.size f W (.val 26 (.pointer (some ⟨w.heap.size, 12, none⟩))) := fun f W => by rw [hl]; exact Iff.rfl
    have q31 : ∀ f W, told w.heap.size l 31 f W ↔ Tk.says w.heap.size f W (.val 27 (.int .i64 (m.ms))) := fun f W => by rw [hl]; exact Iff.rfl
    have q32 : ∀ f W, told w.heap.size l 32 f W ↔ Tk.says w.heap.size f W (.ins 247 (m.ms)) := fun f W => by rw [hl]; exact Iff.rfl
    have q33 : ∀ f W, told w.heap.size l 33 f W ↔ Tk.says w.heap.size f W (.val 28 (.pointer (some ⟨w.heap.size, 13, none⟩))) := fun f W => by rw [hl]; exact Iff.rfl
    have q34 : ∀ f W, told w.heap.size l 34 f W ↔ Tk.says w.heap.size f W (.val 29 (.int .i64 (m.ky))) := fun f W => by rw [hl]; exact Iff.rfl
    have q35 : ∀ f W, told w.heap.size l 35 f W ↔ Tk.says w.heap.size f W (.ins 248 (m.ky)) := fun f W => by rw [hl]; exact Iff.rfl
    have q36 : ∀ f W, told w.heap.size l 36 f W ↔ Tk.says w.heap.size f W (.same 30 3) := fun f W => by rw [hl]; exact Iff.rfl
    have q37 : ∀ f W, told w.heap.size l 37 f W ↔ Tk.says w.heap.size f W (.same 2 30) := fun f W => by rw [hl]; exact Iff.rfl
    rcases ix with _ | ix
    · cases hi
      exact at_op rfl rfl (makeMap_op rfl ⟨_, rfl, (q0 _ _).2 ⟨_, [], getD_put_same _ _ _ (by omega), hg.row.lt, MapAt.new _, Nice.nil⟩, hg.below ((Below.refl _ _).alloc (Nat.le_refl _) _), Rq.below ((Below.refl _ _).alloc (Nat.le_refl _) _)⟩)
    rcases ix with _ | ix
    · cases hi
      have e : A.eval (.tmp 1) = .pointer (some ⟨w.heap.size, 0, none⟩) := hI.old 1 (by kernel_rfl)
      refine at_op rfl rfl (val_op (v := .pointer (some ⟨w.heap.size, 18, none⟩)) ?_ ⟨_, rfl, (q1 _ _).2 (getD_put_same _ _ _ (by omega)), hg, Rq.refl _ _⟩)
      unfold execOp
      simp only [List.getElem_toArray, List.getElem_cons_zero, List.getElem_cons_succ, e]
      simp [go_sem]
    rcases ix with _ | ix
    · cases hi
      have e : A.eval (.tmp 4) = .pointer (some ⟨w.heap.size, 18, none⟩) := (q1 _ _).1 (hI.get hd 1 rfl (by kernel_rfl))
      refine at_op rfl rfl (val_op (v := .pointer (some ⟨w.heap.size, 18, none⟩)) ?_ ⟨_, rfl, (q2 _ _).2 (getD_put_same _ _ _ (by omega)), hg, Rq.refl _ _⟩)
      unfold execOp
      simp only [List.getElem_toArray, List.getElem_cons_zero, List.getElem_cons_succ, e]
      simp [go_sem]
    rcases ix with _ | ix
    · cases hi
      have e : A.eval (.tmp 5) = .pointer (some ⟨w.heap.size, 18, none⟩) := (q2 _ _).1 (hI.get hd 2 rfl (by kernel_rfl))
      exact at_op rfl rfl (load_op rfl Tryz.underlying2 e ck.pd ⟨_, rfl, (q3 _ _).2 (getD_put_same _ _ _ (by omega)), hg, Rq.refl _ _⟩)
    rcases ix with _ | ix
    · cases hi
      obtain ⟨b, LL, e3, hb, hM, hN⟩ := (q0 _ _).1 (hI.get hd 0 rfl (by kernel_rfl))
      have e : A.eval (.tmp 6) = .int .i64 (m.p.d) := (q3 _ _).1 (hI.get hd 3 rfl (by kernel_rfl))
      refine at_op rfl rfl (insert_op rfl und_map Tryz.underlying2 e3 rfl e hM ?_)
      intro W' hM' ho'
      exact ⟨_, rfl, (q4 _ _).2 ⟨b, _, e3, hM', hN.put _ (by omega), by rw [mget_mput]; simp⟩, hg.onto ho' hb, Rq.put (q := 240) hM hM' ho' (by omega)⟩
    rcases ix with _ | ix
    · cases hi
      have e : A.eval (.tmp 1) = .pointer (some ⟨w.heap.size, 0, none⟩) := hI.old 1 (by kernel_rfl)
      refine at_op rfl rfl (val_op (v := .pointer (some ⟨w.heap.size, 18, none⟩)) ?_ ⟨_, rfl, (q5 _ _).2 (getD_put_same _ _ _ (by omega)), hg, Rq.refl _ _⟩)
      unfold execOp
      simp only [List.getElem_toArray, List.getElem_cons_zero, List.getElem_cons_succ, e]
      simp [go_sem]
    rcases ix with _ | ix
    · cases hi
      have e : A.eval (.tmp 7) = .pointer (some ⟨w.heap.size, 18, none⟩) := (q5 _ _).1 (hI.get hd 5 rfl (by kernel_rfl))
      exact at_op rfl rfl (lw_in (cs' := #[.int .i64 m.p.d, .bool m.p.b, .bool m.p.l, .int .i64 m.p.n, .int .i64 m.p.x, .bool m.p.t]) rfl e hg.row Tryz.underlying28 rfl hk.ser (by kernel_rfl) ⟨_, rfl, (q6 _ _).2 (getD_put_same _ _ _ (by omega)), hg, Rq.refl _ _⟩)
    rcases ix with _ | ix
    · cases hi
      have e0 : A.eval (.tmp 8) = m.p.val := (q6 _ _).1 (hI.get hd 6 rfl (by kernel_rfl))
      refine at_op rfl rfl (call_op rfl Tryz.func244 (by kernel_rfl) (by kernel_rfl) ?_)
      simp only [List.map_cons, List.map_nil, e0]
      refine (cableTold_impl m.p W).mono ?_
      rintro e w5 ⟨rfl, hb5⟩
      exact ⟨_, rfl, _, rfl, (q7 _ _).2 (getD_put_same _ _ _ (by omega)), hg.below hb5, Rq.below hb5⟩
    rcases ix with _ | ix
    · cases hi
      obtain ⟨b, LL, e3, hb, hM, hN⟩ := (q0 _ _).1 (hI.get hd 0 rfl (by kernel_rfl))
      have e : A.eval (.tmp 9) = .int .i64 (cable m.p) := (q7 _ _).1 (hI.get hd 7 rfl (by kernel_rfl))
      refine at_op rfl rfl (insert_op rfl und_map Tryz.underlying2 e3 rfl e hM ?_)
      intro W' hM' ho'
      exact ⟨_, rfl, (q8 _ _).2 ⟨b, _, e3, hM', hN.put _ (by omega), by rw [mget_mput]; simp⟩, hg.onto ho' hb, Rq.put (q := 241) hM hM' ho' (by omega)⟩
    rcases ix with _ | ix
    · cases hi
      have e : A.eval (.tmp 1) = .pointer (some ⟨w.heap.size, 0, none⟩) := hI.old 1 (by kernel_rfl)
      refine at_op rfl rfl (val_op (v := .pointer (some ⟨w.heap.size, 14, none⟩)) ?_ ⟨_, rfl, (q9 _ _).2 (getD_put_same _ _ _ (by omega)), hg, Rq.refl _ _⟩)
      unfold execOp
      simp only [List.getElem_toArray, List.getElem_cons_zero, List.getElem_cons_succ, e]
      simp [go_sem]
    rcases ix with _ | ix
    · cases hi
      have e : A.eval (.tmp 10) = .pointer (some ⟨w.heap.size, 14, none⟩) := (q9 _ _).1 (hI.get hd 9 rfl (by kernel_rfl))
      refine at_op rfl rfl (val_op (v := .pointer (some ⟨w.heap.size, 14, none⟩)) ?_ ⟨_, rfl, (q10 _ _).2 (getD_put_same _ _ _ (by omega)), hg, Rq.refl _ _⟩)
      unfold execOp
      simp only [List.getElem_toArray, List.getElem_cons_zero, List.getElem_cons_succ, e]
      simp [go_sem]
    rcases ix with _ | ix
    · cases hi
      have e : A.eval (.tmp 11) = .pointer (some ⟨w.heap.size, 14, none⟩) := (q10 _ _).1 (hI.get hd 10 rfl (by kernel_rfl))
      exact at_op rfl rfl (load_op rfl Tryz.underlying2 e ck.tc ⟨_, rfl, (q11 _ _).2 (getD_put_same _ _ _ (by omega)), hg, Rq.refl _ _⟩)
    rcases ix with _ | ix
    · cases hi
      have e1 : A.eval (.tmp 12) = .int .i64 (m.t.c) := (q11 _ _).1 (hI.get hd 11 rfl (by kernel_rfl))
      have hq : Int.tdiv (m.t.c) 16 = (m.t.c) / 16 := Int.tdiv_eq_ediv_of_nonneg (by omega)
      exact at_op rfl rfl (bin_op (vy := .int .i64 16) rfl e1 rfl (fun w => by simp [go_sem, hq]; simp [IntKind.wrap, IntKind.bits, IntKind.signed]; omega) ⟨_, rfl, (q12 _ _).2 (getD_put_same _ _ _ (by omega)), hg, Rq.refl _ _⟩)
    rcases ix with _ | ix
    · cases hi
      have e1 : A.eval (.tmp 13) = .int .i64 (m.t.c / 16) := (q12 _ _).1 (hI.get hd 12 rfl (by kernel_rfl))
      have hq : Int.tmod (m.t.c / 16) 256 = (m.t.c / 16) % 256 := Int.tmod_eq_emod_of_nonneg (by omega)
      exact at_op rfl rfl (bin_op (vy := .int .i64 256) rfl e1 rfl (fun w => by simp [go_sem, hq]) ⟨_, rfl, (q13 _ _).2 (getD_put_same _ _ _ (by omega)), hg, Rq.refl _ _⟩)
    rcases ix with _ | ix
    · cases hi
      obtain ⟨b, LL, e3, hb, hM, hN⟩ := (q0 _ _).1 (hI.get hd 0 rfl (by kernel_rfl))
      have e : A.eval (.tmp 14) = .int .i64 (m.t.c / 16 % 256) := (q13 _ _).1 (hI.get hd 13 rfl (by kernel_rfl))
      refine at_op rfl rfl (insert_op rfl und_map Tryz.underlying2 e3 rfl e hM ?_)
      intro W' hM' ho'
      exact ⟨_, rfl, (q14 _ _).2 ⟨b, _, e3, hM', hN.put _ (by omega), by rw [mget_mput]; simp⟩, hg.onto ho' hb, Rq.put (q := 242) hM hM' ho' (by omega)⟩
    rcases ix with _ | ix
    · cases hi
      have e : A.eval (.tmp 1) = .pointer (some ⟨w.heap.size, 0, none⟩) := hI.old 1 (by kernel_rfl)
      refine at_op rfl rfl (val_op (v := .pointer (some ⟨w.heap.size, 14, none⟩)) ?_ ⟨_, rfl, (q15 _ _).2 (getD_put_same _ _ _ (by omega)), hg, Rq.refl _ _⟩)
      unfold execOp
      simp only [List.getElem_toArray, List.getElem_cons_zero, List.getElem_cons_succ, e]
      simp [go_sem]
    rcases ix with _ | ix
    · cases hi
      have e : A.eval (.tmp 15) = .pointer (some ⟨w.heap.size, 14, none⟩) := (q15 _ _).1 (hI.get hd 15 rfl (by kernel_rfl))
      refine at_op rfl rfl (val_op (v := .pointer (some ⟨w.heap.size, 15, none⟩)) ?_ ⟨_, rfl, (q16 _ _).2 (getD_put_same _ _ _ (by omega)), hg, Rq.refl _ _⟩)
      unfold execOp
      simp only [List.getElem_toArray, List.getElem_cons_zero, List.getElem_cons_succ, e]
      simp [go_sem]
    rcases ix with _ | ix
    · cases hi
      have e : A.eval (.tmp 16) = .pointer (some ⟨w.heap.size, 15, none⟩) := (q16 _ _).1 (hI.get hd 16 rfl (by kernel_rfl))
      exact at_op rfl rfl (load_op rfl Tryz.underlying2 e ck.tv ⟨_, rfl, (q17 _ _).2 (getD_put_same _ _ _ (by omega)), hg, Rq.refl _ _⟩)
    rcases ix with _ | ix
    · cases hi
      obtain ⟨b, LL, e3, hb, hM, hN⟩ := (q0 _ _).1 (hI.get hd 0 rfl (by kernel_rfl))
      have e : A.eval (.tmp 17) = .int .i64 (m.t.v) := (q17 _ _).1 (hI.get hd 17 rfl (by kernel_rfl))
      refine at_op rfl rfl (insert_op rfl und_map Tryz.underlying2 e3 rfl e hM ?_)
      intro W' hM' ho'
      exact ⟨_, rfl, (q18 _ _).2 ⟨b, _, e3, hM', hN.put _ (by omega), by rw [mget_mput]; simp⟩, hg.onto ho' hb, Rq.put (q := 243) hM hM' ho' (by omega)⟩
    rcases ix with _ | ix
    · cases hi
      have e : A.eval (.tmp 1) = .pointer (some ⟨w.heap.size, 0, none⟩) := hI.old 1 (by kernel_rfl)
      refine at_op rfl rfl (val_op (v := .pointer (some ⟨w.heap.size, 14, none⟩)) ?_ ⟨_, rfl, (q19 _ _).2 (getD_put_same _ _ _ (by omega)), hg, Rq.refl _ _⟩)
      unfold execOp
      simp only [List.getElem_toArray, List.getElem_cons_zero, List.getElem_cons_succ, e]
      simp [go_sem]
    rcases ix with _ | ix
    · cases hi
      have e : A.eval (.tmp 18) = .pointer (some ⟨w.heap.size, 14, none⟩) := (q19 _ _).1 (hI.get hd 19 rfl (by kernel_rfl))
      refine at_op rfl rfl (val_op (v := .pointer (some ⟨w.heap.size, 16, none⟩)) ?_ ⟨_, rfl, (q20 _ _).2 (getD_put_same _ _ _ (by omega)), hg, Rq.refl _ _⟩)
      unfold execOp
      simp only [List.getElem_toArray, List.getElem_cons_zero, List.getElem_cons_succ, e]
      simp [go_sem]
    rcases ix with _ | ix
    · cases hi
      have e : A.eval (.tmp 19) = .pointer (some ⟨w.heap.size, 16, none⟩) := (q20 _ _).1 (hI.get hd 20 rfl (by kernel_rfl))
      exact at_op rfl rfl (load_op rfl Tryz.underlying2 e ck.ts ⟨_, rfl, (q21 _ _).2 (getD_put_same _ _ _ (by omega)), hg, Rq.refl _ _⟩)
    rcases ix with _ | ix
    · cases hi
      obtain ⟨b, LL, e3, hb, hM, hN⟩ := (q0 _ _).1 (hI.get hd 0 rfl (by kernel_rfl))
      have e : A.eval (.tmp 20) = .int .i64 (m.t.s) := (q21 _ _).1 (hI.get hd 21 rfl (by kernel_rfl))
      refine at_op rfl rfl (insert_op rfl und_map Tryz.underlying2 e3 rfl e hM ?_)
      intro W' hM' ho'
      exact ⟨_, rfl, (q22 _ _).2 ⟨b, _, e3, hM', hN.put _ (by omega), by rw [mget_mput]; simp⟩, hg.onto ho' hb, Rq.put (q := 244) hM hM' ho' (by omega)⟩
    rcases ix with _ | ix
    · cases hi
      have e : A.eval (.tmp 1) = .pointer (some ⟨w.heap.size, 0, none⟩) := hI.old 1 (by kernel_rfl)
      refine at_op rfl rfl (val_op (v := .pointer (some ⟨w.heap.size, 14, none⟩)) ?_ ⟨_, rfl, (q23 _ _).2 (getD_put_same _ _ _ (by omega)), hg, Rq.refl _ _⟩)
      unfold execOp
      simp only [List.getElem_toArray, List.getElem_cons_zero, List.getElem_cons_succ, e]
      simp [go_sem]
    rcases ix with _ | ix
    · cases hi
      have e : A.eval (.tmp 21) = .pointer (some ⟨w.heap.size, 14, none⟩) := (q23 _ _).1 (hI.get hd 23 rfl (by kernel_rfl))
      refine at_op rfl rfl (val_op (v := .pointer (some ⟨w.heap.size, 17, none⟩)) ?_ ⟨_, rfl, (q24 _ _).2 (getD_put_same _ _ _ (by omega)), hg, Rq.refl _ _⟩)
      unfold execOp
      simp only [List.getElem_toArray, List.getElem_cons_zero, List.getElem_cons_succ, e]
      simp [go_sem]
    rcases ix with _ | ix
    · cases hi
      have e : A.eval (.tmp 22) = .pointer (some ⟨w.heap.size, 17, none⟩) := (q24 _ _).1 (hI.get hd 24 rfl (by kernel_rfl))
      exact at_op rfl rfl (load_op rfl Tryz.underlying2 e ck.tm ⟨_, rfl, (q25 _ _).2 (getD_put_same _ _ _ (by omega)), hg, Rq.refl _ _⟩)
    rcases ix with _ | ix
    · cases hi
      obtain ⟨b, LL, e3, hb, hM, hN⟩ := (q0 _ _).1 (hI.get hd 0 rfl (by kernel_rfl))
      have e : A.eval (.tmp 23) = .int .i64 (m.t.m) := (q25 _ _).1 (hI.get hd 25 rfl (by kernel_rfl))
      refine at_op rfl rfl (insert_op rfl und_map Tryz.underlying2 e3 rfl e hM ?_)
      intro W' hM' ho'
      exact ⟨_, rfl, (q26 _ _).2 ⟨b, _, e3, hM', hN.put _ (by omega), by rw [mget_mput]; simp⟩, hg.onto ho' hb, Rq.put (q := 245) hM hM' ho' (by omega)⟩
    rcases ix with _ | ix
    · cases hi
      have e : A.eval (.tmp 1) = .pointer (some ⟨w.heap.size, 0, none⟩) := hI.old 1 (by kernel_rfl)
      refine at_op rfl rfl (val_op (v := .pointer (some ⟨w.heap.size, 11, none⟩)) ?_ ⟨_, rfl, (q27 _ _).2 (getD_put_same _ _ _ (by omega)), hg, Rq.refl _ _⟩)
      unfold execOp
      simp only [List.getElem_toArray, List.getElem_cons_zero, List.getElem_cons_succ, e]
      simp [go_sem]
    rcases ix with _ | ix
    · cases hi
      have e : A.eval (.tmp 24) = .pointer (some ⟨w.heap.size, 11, none⟩) := (q27 _ _).1 (hI.get hd 27 rfl (by kernel_rfl))
      exact at_op rfl rfl (load_op rfl Tryz.underlying2 e ck.fl ⟨_, rfl, (q28 _ _).2 (getD_put_same _ _ _ (by omega)), hg, Rq.refl _ _⟩)
    rcases ix with _ | ix
    · cases hi
      obtain ⟨b, LL, e3, hb, hM, hN⟩ := (q0 _ _).1 (hI.get hd 0 rfl (by kernel_rfl))
      have e : A.eval (.tmp 25) = .int .i64 (m.fl) := (q28 _ _).1 (hI.get hd 28 rfl (by kernel_rfl))
      refine at_op rfl rfl (insert_op rfl und_map Tryz.underlying2 e3 rfl e hM ?_)
      intro W' hM' ho'
      exact ⟨_, rfl, (q29 _ _).2 ⟨b, _, e3, hM', hN.put _ (by omega), by rw [mget_mput]; simp⟩, hg.onto ho' hb, Rq.put (q := 246) hM hM' ho' (by omega)⟩
    rcases ix with _ | ix
    · cases hi
      have e : A.eval (.tmp 1) = .pointer (some ⟨w.heap.size, 0, none⟩) := hI.old 1 (by kernel_rfl)
      refine at_op rfl rfl (val_op (v := .pointer (some ⟨w.heap.size, 12, none⟩)) ?_ ⟨_, rfl, (q30 _ _).2 (getD_put_same _ _ _ (by omega)), hg, Rq.refl _ _⟩)
      unfold execOp
      simp only [List.getElem_toArray, List.getElem_cons_zero, List.getElem_cons_succ, e]
      simp [go_sem]
    rcases ix with _ | ix
    · cases hi
      have e : A.eval (.tmp 26) = .pointer (some ⟨w.heap.size, 12, none⟩) := (q30 _ _).1 (hI.get hd 30 rfl (by kernel_rfl))
      exact at_op rfl rfl (load_op rfl Tryz.underlying2 e ck.ms ⟨_, rfl, (q31 _ _).2 (getD_put_same _ _ _ (by omega)), hg, Rq.refl _ _⟩)
    rcases ix with _ | ix
    · cases hi
      obtain ⟨b, LL, e3, hb, hM, hN⟩ := (q0 _ _).1 (hI.get hd 0 rfl (by kernel_rfl))
      have e : A.eval (.tmp 27) = .int .i64 (m.ms) := (q31 _ _).1 (hI.get hd 31 rfl (by kernel_rfl))
      refine at_op rfl rfl (insert_op rfl und_map Tryz.underlying2 e3 rfl e hM ?_)
      intro W' hM' ho'
      exact ⟨_, rfl, (q32 _ _).2 ⟨b, _, e3, hM', hN.put _ (by omega), by rw [mget_mput]; simp⟩, hg.onto ho' hb, Rq.put (q := 247) hM hM' ho' (by omega)⟩
    rcases ix with _ | ix
    · cases hi
      have e : A.eval (.tmp 1) = .pointer (some ⟨w.heap.size, 0, none⟩) := hI.old 1 (by kernel_rfl)
      refine at_op rfl rfl (val_op (v := .pointer (some ⟨w.heap.size, 13, none⟩)) ?_ ⟨_, rfl, (q33 _ _).2 (getD_put_same _ _ _ (by omega)), hg, Rq.refl _ _⟩)
      unfold execOp
      simp only [List.getElem_toArray, List.getElem_cons_zero, List.getElem_cons_succ, e]
      simp [go_sem]
    rcases ix with _ | ix
    · cases hi
      have e : A.eval (.tmp 28) = .pointer (some ⟨w.heap.size, 13, none⟩) := (q33 _ _).1 (hI.get hd 33 rfl (by kernel_rfl))
      exact at_op rfl rfl (load_op rfl Tryz.underlying2 e ck.ky ⟨_, rfl, (q34 _ _).2 (getD_put_same _ _ _ (by omega)), hg, Rq.refl _ _⟩)
    rcases ix with _ | ix
    · cases hi
      obtain ⟨b, LL, e3, hb, hM, hN⟩ := (q0 _ _).1 (hI.get hd 0 rfl (by kernel_rfl))
      have e : A.eval (.tmp 29) = .int .i64 (m.ky) := (q34 _ _).1 (hI.get hd 34 rfl (by kernel_rfl))
      refine at_op rfl rfl (insert_op rfl und_map Tryz.underlying2 e3 rfl e hM ?_)
      intro W' hM' ho'
      exact ⟨_, rfl, (q35 _ _).2 ⟨b, _, e3, hM', hN.put _ (by omega), by rw [mget_mput]; simp⟩, hg.onto ho' hb, Rq.put (q := 248) hM hM' ho' (by omega)⟩
    rcases ix with _ | ix
    · cases hi
      exact at_op rfl rfl (move_op rfl ⟨_, rfl, (q36 _ _).2 ((getD_put_same _ _ _ (by omega)).trans (getD_put _ _ _ _ (by simp)).symm), hg, Rq.refl _ _⟩)
    rcases ix with _ | ix
    · cases hi
      exact at_op rfl rfl (assign_op rfl ⟨_, rfl, (q37 _ _).2 ((getD_put_same _ _ _ (by omega)).trans (getD_put _ _ _ _ (by simp)).symm), hg, Rq.refl _ _⟩)
    omega
  case done =>
    intro A W hI
    have hg := hI.g
    have t0 : Tk.says w.heap.size (at_ A) W (.new) := by have := hI.told 0 _ rfl rfl; rw [hl] at this; exact this
    have t4 : Tk.says w.heap.size (at_ A) W (.ins 240 (m.p.d)) := by have := hI.told 4 _ rfl rfl; rw [hl] at this; exact this
    have t8 : Tk.says w.heap.size (at_ A) W (.ins 241 (cable m.p)) := by have := hI.told 8 _ rfl rfl; rw [hl] at this; exact this
    have t14 : Tk.says w.heap.size (at_ A) W (.ins 242 (m.t.c / 16 % 256)) := by have := hI.told 14 _ rfl rfl; rw [hl] at this; exact this
    have t18 : Tk.says w.heap.size (at_ A) W (.ins 243 (m.t.v)) := by have := hI.told 18 _ rfl rfl; rw [hl] at this; exact this
    have t22 : Tk.says w.heap.size (at_ A) W (.ins 244 (m.t.s)) := by have := hI.told 22 _ rfl rfl; rw [hl] at this; exact this
    have t26 : Tk.says w.heap.size (at_ A) W (.ins 245 (m.t.m)) := by have := hI.told 26 _ rfl rfl; rw [hl] at this; exact this
    have t29 : Tk.says w.heap.size (at_ A) W (.ins 246 (m.fl)) := by have := hI.told 29 _ rfl rfl; rw [hl] at this; exact this
    have t32 : Tk.says w.heap.size (at_ A) W (.ins 247 (m.ms)) := by have := hI.told 32 _ rfl rfl; rw [hl] at this; exact this
    have t35 : Tk.says w.heap.size (at_ A) W (.ins 248 (m.ky)) := by have := hI.told 35 _ rfl rfl; rw [hl] at this; exact this
    have t36 : Tk.says w.heap.size (at_ A) W (.same 30 3) := by have := hI.told 36 _ rfl rfl; rw [hl] at this; exact this
    have t37 : Tk.says w.heap.size (at_ A) W (.same 2 30) := by have := hI.told 37 _ rfl rfl; rw [hl] at this; exact this
    obtain ⟨b, LL, e3, hb, hM, hN⟩ := t0
    have g240 : mget LL 240 = some (m.p.d) := by
      obtain ⟨b', L', e3', hM', _, hx⟩ := t4
      obtain rfl : b = b' := by have := e3.symm.trans e3'; simpa using this
      rw [mapAt_one hM hM']; exact hx
    have g241 : mget LL 241 = some (cable m.p) := by
      obtain ⟨b', L', e3', hM', _, hx⟩ := t8
      obtain rfl : b = b' := by have := e3.symm.trans e3'; simpa using this
      rw [mapAt_one hM hM']; exact hx
    have g242 : mget LL 242 = some (m.t.c / 16 % 256) := by
      obtain ⟨b', L', e3', hM', _, hx⟩ := t14
      obtain rfl : b = b' := by have := e3.symm.trans e3'; simpa using this
      rw [mapAt_one hM hM']; exact hx
    have g243 : mget LL 243 = some (m.t.v) := by
      obtain ⟨b', L', e3', hM', _, hx⟩ := t18
      obtain rfl : b = b' := by have := e3.symm.trans e3'; simpa using this
      rw [mapAt_one hM hM']; exact hx
    have g244 : mget LL 244 = some (m.t.s) := by
      obtain ⟨b', L', e3', hM', _, hx⟩ := t22
      obtain rfl : b = b' := by have := e3.symm.trans e3'; simpa using this
      rw [mapAt_one hM hM']; exact hx
    have g245 : mget LL 245 = some (m.t.m) := by
      obtain ⟨b', L', e3', hM', _, hx⟩ := t26
      obtain rfl : b = b' := by have := e3.symm.trans e3'; simpa using this
      rw [mapAt_one hM hM']; exact hx
    have g246 : mget LL 246 = some (m.fl) := by
      obtain ⟨b', L', e3', hM', _, hx⟩ := t29
      obtain rfl : b = b' := by have := e3.symm.trans e3'; simpa using this
      rw [mapAt_one hM hM']; exact hx
    have g247 : mget LL 247 = some (m.ms) := by
      obtain ⟨b', L', e3', hM', _, hx⟩ := t32
      obtain rfl : b = b' := by have := e3.symm.trans e3'; simpa using this
      rw [mapAt_one hM hM']; exact hx
    have g248 : mget LL 248 = some (m.ky) := by
      obtain ⟨b', L', e3', hM', _, hx⟩ := t35
      obtain rfl : b = b' := by have := e3.symm.trans e3'; simpa using this
      rw [mapAt_one hM hM']; exact hx
    have e2 : A.tmps.getD 2 undef = .map (some b) := (show at_ A 2 = at_ A 30 from t37).trans ((show at_ A 30 = at_ A 3 from t36).trans e3)
    have hA := frame_lit A 31 hI.size
    have hde : A.defers = [] := hI.defers
    rw [hde, show List.range 31 = [0, 1, 2, 3, 4, 5, 6, 7, 8, 9, 10, 11, 12, 13, 14, 15, 16, 17, 18, 19, 20, 21, 22, 23, 24, 25, 26, 27, 28, 29, 30] from rfl] at hA
    simp only [List.map_cons, List.map_nil, e2] at hA
    rw [hA]
    clear hA e2 hI hde t36 t37 e3
    have HM : Hid (∀ x, mget LL x = m.port x) := fun x => by
      unfold Mc.port
      by_cases hx : 240 ≤ x ∧ x ≤ 248
      · obtain rfl | rfl | rfl | rfl | rfl | rfl | rfl | rfl | rfl : x = 240 ∨ x = 241 ∨ x = 242 ∨ x = 243 ∨ x = 244 ∨ x = 245 ∨ x = 246 ∨ x = 247 ∨ x = 248 := by omega
        all_goals first | exact g240 | exact g241 | exact g242 | exact g243 | exact g244 | exact g245 | exact g246 | exact g247 | exact g248
      · rw [if_neg (by omega), if_neg (by omega), if_neg (by omega), if_neg (by omega), if_neg (by omega), if_neg (by omega), if_neg (by omega), if_neg (by omega), if_neg (by omega)]
        cases hgx : mget LL x with
        | none => rfl
        | some y => exact absurd (hN.range x y hgx) hx
    clear g240 g241 g242 g243 g244 g245 g246 g247 g248
    go_wp2
    go_ret
    exact ⟨b, rfl, by omega, ⟨LL, hM, hN.one, HM.out⟩, hg.bel⟩
end Go.Proofs.YtghmkacamabndaaGreatDoor.Mem
namespace Go.Proofs.YtghmkacamabndaaGreatDoor.Mem
open Go.ChangeShapes Go.WideShapes Go.RowKit Base Num Slc Rw Tmr Srl Rom RomOf Mp

theorem inRam_impl (q : Int) (w : World) :
    Calls Tryz.prog 185 #[.int .i64 q] w fun e w' => e = .returned (.bool (decide (128 ≤ q) && decide (q < 192))) ∧ w' = w := by
  by_cases h0 : 128 ≤ q
  · go_enter Tryz.func185, Tryz.ntmps185
    go_wp2
    go_ret
    exact ⟨ret_bool (by simp [h0]), rfl⟩
  · go_enter Tryz.func185, Tryz.ntmps185
    go_wp2
    go_ret
    exact ⟨ret_bool (by have : decide (128 ≤ q) = false := by simpa using h0
                        rw [this]; rfl), rfl⟩
theorem zero64 (w : World) : (zeroValue 2).run Tryz.prog w = .ok (.int .i64 0) w := by simp [go_sem]
theorem PortsAt.below {w w' : World} {b : Nat} {f : Int → Option Int} (h : PortsAt w b f) (hb : Below w.heap.size w w') : PortsAt w' b f := by
  obtain ⟨L, h1, h2⟩ := h
  exact ⟨L, h1.below hb, h2⟩
theorem PortsAt.onto {w w' : World} {b p : Nat} {f : Int → Option Int} (h : PortsAt w b f) (ho : Onto p w w') (hp : b ≠ p) : PortsAt w' b f := by
  obtain ⟨L, h1, h2⟩ := h
  exact ⟨L, h1.onto ho hp, h2⟩
theorem PortsAt.lt {w : World} {b : Nat} {f : Int → Option Int} (h : PortsAt w b f) : b < w.heap.size := by
  obtain ⟨L, h1, h2⟩ := h
  exact h1.lt
section
variable {ops : Array Oper} {rest : List Oper} {o : Oper} {a : Act} {w : World} {Q : Exit → Act → World → Prop} {x y z : Operand} {b : Nat} {q n : Int} {f : Int → Option Int}
theorem lk_ok (hgd : o.guard = none) (ho : o.op = .lookup 186 x y true) (hx : a.eval x = .map (some b)) (hy : a.eval y = .int .i64 q) (hM : PortsAt w b f)
    (h : wpList Tryz.prog ops Q rest (a.put o.dst (.tuple #[.int .i64 ((f q).getD 0), .bool (f q).isSome])) w) : wpList Tryz.prog ops Q (o :: rest) a w :=
  wpList_plain hgd fun _ hK => by
    obtain ⟨L, h1, _, h3⟩ := hM
    have e := (run_get (P := Tryz.prog) und_map Tryz.underlying2 (zero64 w) h1 q).2
    rw [h3] at e
    unfold Oper.wp execOp
    simp only [ho, hx, hy, Sem.run_bind, Result.andThen_ok, e]
    exact hK _ _ h
theorem lk_at (hgd : o.guard = none) (ho : o.op = .lookup 186 x y false) (hx : a.eval x = .map (some b)) (hy : a.eval y = .int .i64 q) (hM : PortsAt w b f)
    (h : wpList Tryz.prog ops Q rest (a.put o.dst (.int .i64 ((f q).getD 0))) w) : wpList Tryz.prog ops Q (o :: rest) a w :=
  wpList_plain hgd fun _ hK => by
    obtain ⟨L, h1, _, h3⟩ := hM
    have e := (run_get (P := Tryz.prog) und_map Tryz.underlying2 (zero64 w) h1 q).1
    rw [h3] at e
    unfold Oper.wp execOp
    simp only [ho, hx, hy, Sem.run_bind, Result.andThen_ok, e]
    exact hK _ _ h
theorem put_at (hgd : o.guard = none) (ho : o.op = .mapUpdate 186 x y z) (hx : a.eval x = .map (some b)) (hy : a.eval y = .int .i64 q) (hz : a.eval z = .int .i64 n) (hM : PortsAt w b f)
    (h : ∀ w', PortsAt w' b (fun k => if k = q then some n else f k) → Onto b w w' → wpList Tryz.prog ops Q rest (a.put o.dst undef) w') : wpList Tryz.prog ops Q (o :: rest) a w :=
  wpList_plain hgd fun _ hK => by
    obtain ⟨L, h1, h2, h3⟩ := hM
    obtain ⟨w', hr, m1, m2, m3⟩ := run_put (P := Tryz.prog) und_map Tryz.underlying2 h1 q n
    unfold Oper.wp execOp
    simp only [ho, hx, hy, hz, Sem.run_bind, Result.andThen_ok, hr]
    exact hK _ _ (h _ ⟨_, m1, Reg.mput_one L q n h2, fun k => by rw [mget_mput, h3]⟩ m2)
end
theorem read_port {m : Mc} {q : Int} (hR : Right m) (h1 : ¬ q < m.rom.length) (h2 : ¬ (128 ≤ q ∧ q < 192)) (h0 : 0 ≤ q) : m.read q = (m.port q).getD 255 := by
  have := hR.rom
  by_cases h : q < 128
  · have e : m.port q = none := by
      unfold Mc.port
      rw [if_neg (by omega), if_neg (by omega), if_neg (by omega), if_neg (by omega), if_neg (by omega), if_neg (by omega), if_neg (by omega), if_neg (by omega), if_neg (by omega)]
    rw [e]
    simp [Mc.read, h, h1]
  · have h3 : ¬ q < 192 := by omega
    simp only [Mc.read, h, h3, if_false, Mc.port]
    by_cases e0 : q = 240
    · simp [e0]
    by_cases e1 : q = 241
    · simp [e1, cable]
    by_cases e2 : q = 242
    · simp [e2]
    by_cases e3 : q = 243
    · simp [e3]
    by_cases e4 : q = 244
    · simp [e4]
    by_cases e5 : q = 245
    · simp [e5]
    by_cases e6 : q = 246
    · simp [e6]
    by_cases e7 : q = 247
    · simp [e7]
    by_cases e8 : q = 248
    · simp [e8]
    simp [e0, e1, e2, e3, e4, e5, e6, e7, e8]
set_option maxHeartbeats 1000000 in
theorem readAt_impl (v : Value) (m : Mc) (q : Int) (w : World) (hm : MSl w v m) :
    Calls Tryz.prog 156 #[v, .int .i64 q] w fun e w' => e = .returned (.int .i64 (m.readAt q)) ∧ Below w.heap.size w w' := by
  obtain ⟨vr, va, hv, ⟨ar, cr, rfl, hir, hlr, hcr, hnr⟩, ⟨aa, ca, rfl, hia, hla, hca, hna⟩⟩ := hm
  have hr : Sl w (.slice ar m.rom.length cr) m.rom := ⟨ar, cr, rfl, hir, hlr, hcr, hnr⟩
  have ha : Sl w (.slice aa m.ram.length ca) m.ram := ⟨aa, ca, rfl, hia, hla, hca, hna⟩
  unfold maxLen at hcr hca
  clear hnr hna
  cases hok : m.ok
  · have e : m.readAt q = -1 := by simp [Mc.readAt, hok]
    rw [e]
    go_enter Tryz.func156, Tryz.ntmps156
    go_wp2_with (first
      | (refine box_m rfl rfl hv ?_; intro w0 r0 hB0)
      | (refine ld_mc rfl rfl rfl r0 ?_)
      | (go_at_call 20; refine (machineOk_impl _ m _ ⟨_, _, rfl, hr.below hB0, ha.below hB0⟩).mono ?_; rintro e w1 ⟨rfl, hb1⟩; rw [hok]; have hB1 := hB0.trans (hb1.mono hB0.size)))
    go_ret
    exact ⟨rfl, hB1⟩
  cases hb : bok q
  · have e : m.readAt q = -1 := by simp [Mc.readAt, hb]
    rw [e]
    go_enter Tryz.func156, Tryz.ntmps156
    go_wp2_with (first
      | (refine box_m rfl rfl hv ?_; intro w0 r0 hB0)
      | (refine ld_mc rfl rfl rfl r0 ?_)
      | (go_at_call 20; refine (machineOk_impl _ m _ ⟨_, _, rfl, hr.below hB0, ha.below hB0⟩).mono ?_; rintro e w1 ⟨rfl, hb1⟩; rw [hok]; have hB1 := hB0.trans (hb1.mono hB0.size))
      | (go_at_call 75; refine (byteOk_impl _ _).mono ?_; rintro e w2 ⟨rfl, rfl⟩; rw [hb]))
    go_ret
    exact ⟨rfl, hB1⟩
  have e : m.readAt q = m.read q := by simp [Mc.readAt, hok, hb]
  rw [e]
  clear e
  have hq := bok_true hb
  have hR := Mc.right hok
  have hR1 := hR.rom
  have hR2 := hR.ram
  have hR3 := hR.tim
  by_cases hl : q < (m.rom.length : Int)
  · obtain ⟨k, rfl⟩ : ∃ k : Nat, q = (k : Int) := ⟨q.toNat, by omega⟩
    have e : m.read (k : Int) = m.rom.getD k 0 := by
      have : (k : Int) < 128 := by omega
      simp [Mc.read, this, hl]
    rw [e]
    have hkl : k < m.rom.length := by omega
    rcases hir.2 with h0 | ⟨b, off, rfl, hbl, hcell⟩
    · omega
    have hz := hcell k hkl
    generalize m.rom.getD k 0 = z at hz ⊢
    clear hcell hir hR2 e
    go_enter Tryz.func156, Tryz.ntmps156
    go_wp2_with (first
      | (refine box_m rfl rfl hv ?_; intro w0 r0 hB0)
      | (refine ld_mc rfl rfl rfl r0 ?_)
      | (go_at_call 20; refine (machineOk_impl _ m _ ⟨_, _, rfl, hr.below hB0, ha.below hB0⟩).mono ?_; rintro e w1 ⟨rfl, hb1⟩; rw [hok]; have hB1 := hB0.trans (hb1.mono hB0.size); replace r0 := r0.below hb1; have k0 := (cw r0).vr; have hz0 : w1.cell? ⟨b, off + k, none⟩ = some (.int .i64 z) := (hB1.cell (p := ⟨b, off + k, none⟩) hbl).trans hz)
      | (go_at_call 75; refine (byteOk_impl _ _).mono ?_; rintro e w2 ⟨rfl, rfl⟩; rw [hb]))
    go_ret
    exact ⟨rfl, hB1⟩
  by_cases hin : 128 ≤ q ∧ q < 192
  · obtain ⟨k, rfl⟩ : ∃ k : Nat, q = 128 + (k : Int) := ⟨(q - 128).toNat, by omega⟩
    have e : m.read (128 + (k : Int)) = m.ram.getD k 0 := by
      have h1 : ¬ (128 + (k : Int)) < 128 := by omega
      have h2 : (128 + (k : Int) - 128).toNat = k := by omega
      simp only [Mc.read, h1, hin.2, if_true, if_false, h2]
    rw [e]
    have hkl : k < m.ram.length := by omega
    rcases hia.2 with h0 | ⟨b, off, rfl, hbl, hcell⟩
    · omega
    have hz := hcell k hkl
    have hs : 128 + (k : Int) - 128 = (k : Int) := by omega
    have hi : (decide (128 ≤ 128 + (k : Int)) && decide (128 + (k : Int) < 192)) = true := by simp; omega
    generalize m.ram.getD k 0 = z at hz ⊢
    clear hcell hir e hR2 hia
    go_enter Tryz.func156, Tryz.ntmps156
    go_wp2_with (first
      | (refine box_m rfl rfl hv ?_; intro w0 r0 hB0)
      | (refine ld_mc rfl rfl rfl r0 ?_)
      | (go_at_call 20; refine (machineOk_impl _ m _ ⟨_, _, rfl, hr.below hB0, ha.below hB0⟩).mono ?_; rintro e w1 ⟨rfl, hb1⟩; rw [hok]; have hB1 := hB0.trans (hb1.mono hB0.size); replace r0 := r0.below hb1; have k0 := (cw r0).vr; have k1 := (cw r0).va; have hz0 : w1.cell? ⟨b, off + k, none⟩ = some (.int .i64 z) := (hB1.cell (p := ⟨b, off + k, none⟩) hbl).trans hz)
      | (go_at_call 75; refine (byteOk_impl _ _).mono ?_; rintro e w2 ⟨rfl, rfl⟩; rw [hb])
      | (go_at_call 185; refine (inRam_impl _ _).mono ?_; rintro e w2 ⟨rfl, rfl⟩; rw [hi]))
    go_ret
    exact ⟨rfl, hB1⟩
  have hi : (decide (128 ≤ q) && decide (q < 192)) = false := by simp; omega
  rw [read_port hR hl hin hq.1]
  have HP : Hid (Right m) := hR
  clear hir hia hR2
  cases hp : m.port q with
  | none =>
    go_enter Tryz.func156, Tryz.ntmps156
    go_wp2_with (first
      | (refine box_m rfl rfl hv ?_; intro w0 r0 hB0)
      | (refine ld_mc rfl rfl rfl r0 ?_)
      | (go_at_call 20; refine (machineOk_impl _ m _ ⟨_, _, rfl, hr.below hB0, ha.below hB0⟩).mono ?_; rintro e w1 ⟨rfl, hb1⟩; rw [hok]; have hB1 := hB0.trans (hb1.mono hB0.size); replace r0 := r0.below hb1; have k0 := (cw r0).vr)
      | (go_at_call 75; refine (byteOk_impl _ _).mono ?_; rintro e w2 ⟨rfl, rfl⟩; rw [hb])
      | (go_at_call 185; refine (inRam_impl _ _).mono ?_; rintro e w2 ⟨rfl, rfl⟩; rw [hi])
      | (go_at_call 186; refine (portsOf_impl _ m _ ⟨_, _, rfl, hr.below hB1, ha.below hB1⟩ hR3.1 hR3.2).mono ?_; rintro e w3 ⟨b3, rfl, hb3, hM3, hbe3⟩; have hB3 := hB1.trans (hbe3.mono hB1.size))
      | (refine lk_ok rfl rfl rfl rfl hM3 ?_; rw [hp]))
    go_ret
    exact ⟨rfl, hB3⟩
  | some n =>
    go_enter Tryz.func156, Tryz.ntmps156
    go_wp2_with (first
      | (refine box_m rfl rfl hv ?_; intro w0 r0 hB0)
      | (refine ld_mc rfl rfl rfl r0 ?_)
      | (go_at_call 20; refine (machineOk_impl _ m _ ⟨_, _, rfl, hr.below hB0, ha.below hB0⟩).mono ?_; rintro e w1 ⟨rfl, hb1⟩; rw [hok]; have hB1 := hB0.trans (hb1.mono hB0.size); replace r0 := r0.below hb1; have k0 := (cw r0).vr)
      | (go_at_call 75; refine (byteOk_impl _ _).mono ?_; rintro e w2 ⟨rfl, rfl⟩; rw [hb])
      | (go_at_call 185; refine (inRam_impl _ _).mono ?_; rintro e w2 ⟨rfl, rfl⟩; rw [hi])
      | (go_at_call 186; refine (portsOf_impl _ m _ ⟨_, _, rfl, hr.below hB1, ha.below hB1⟩ hR3.1 hR3.2).mono ?_; rintro e w3 ⟨b3, rfl, hb3, hM3, hbe3⟩; have hB3 := hB1.trans (hbe3.mono hB1.size))
      | (refine lk_ok rfl rfl rfl rfl hM3 ?_; rw [hp]))
    go_ret
    exact ⟨rfl, hB3⟩
end Go.Proofs.YtghmkacamabndaaGreatDoor.Mem
namespace Go.Proofs.YtghmkacamabndaaGreatDoor.Mem
open Go.ChangeShapes Go.WideShapes Go.RowKit Base Num Slc Rw Tmr Srl Rom RomOf Reg

theorem sl_onto {g : Nat} {w w' : World} {v : Value} {l : List Int} (h : Sl w v l) (ho : Onto g w w') (hv : v.ownBlock ≠ some g) : Sl w' v l := by
  obtain ⟨a, cap, rfl, h1, h2⟩ := h
  refine ⟨a, cap, rfl, h1.onto ho (fun _ x hx e => hv ?_), h2⟩
  subst hx
  simp [Value.ownBlock, e]
theorem sw_in {P : Program} {o : Oper} {a : Act} {w : World} {K : Act → World → Prop} {Q : Exit → Act → World → Prop} {ty : TypeId} {x y : Operand} (ho : o.op = .store ty x y)
    {g k : Nat} {v : Value} {cs : Array Value} {T : TypeId} (hx : a.eval x = .pointer (some ⟨g, k, none⟩)) (hy : a.eval y = v) (hr : Row w g cs T) (h1 : v.oneCell' = true)
    (hi : (P.info? ty).map (·.size) = some 1) (hk : k < cs.size)
    (h : ∀ w', Row w' g (cs.setIfInBounds k v) T → Onto g w w' → K (a.put o.dst undef) w') : o.wp P a w K Q := by
  unfold Oper.wp execOp
  have hv := cells_one h1
  simp only [ho, hx, hy, Instr.storeAt, Instr.sureAddr, Sem.run_bind, Sem.run_pure, Result.andThen_ok, run_store_in w g k ty v [v] hv (hr.there k 1 (by omega)) (by simpa using hi) (by simp [h1])]
  exact h _ (hr.cells [v] k) (onto_cells [v] k _ _ (Onto.refl _ _))
theorem loads_op {o : Oper} {a : Act} {w : World} {K : Act → World → Prop} {Q : Exit → Act → World → Prop} {x : Operand} {ad : Addr} {v : Value} (ho : o.op = .load 24 x) (hx : a.eval x = .pointer (some ad)) (hc : w.cell? ad = some v)
    (h : K (a.put o.dst v) w) : o.wp Tryz.prog a w K Q := by
  unfold Oper.wp execOp
  have e : (loadVar 24 ad).run Tryz.prog w = .ok v w := by simp [loadVar, isAgg, run_underlying Tryz.underlying24, run_load, hc]
  simp only [ho, hx, Instr.loadAt, Instr.sureAddr, Sem.run_bind, Sem.run_pure, Result.andThen_ok, e]
  exact h
structure Gc (w : World) (g g2 : Nat) (m : Mc) (W : World) : Prop where
  row : ∃ x y, MRow W g x y m ∧ Sl W x m.rom ∧ Sl W y m.ram ∧ x.ownBlock ≠ some g ∧ y.ownBlock ≠ some g
  out : ∃ x y m0, MRow W g2 x y m0
  bel : Below w.heap.size w W
  lt : g2 < W.heap.size
def Tc (base g : Nat) (m : Mc) (j : Nat) (f : Nat → Value) (W : World) : Prop :=
  if j = 0 then f 3 = .pointer (some ⟨g, 0, none⟩)
  else if j = 1 then Sl W (f 4) m.rom ∧ (f 4).ownBlock ≠ some g
  else if j = 2 then Own base W (f 5) m.rom
  else if j = 3 then f 6 = .pointer (some ⟨g, 1, none⟩)
  else if j = 4 then Sl W (f 7) m.ram ∧ (f 7).ownBlock ≠ some g
  else if j = 5 then Own base W (f 8) m.ram ∧ Apart (f 5) (f 8)
  else if j = 6 then f 9 = .pointer (some ⟨g, 0, none⟩)
  else if j = 7 then W.cell? ⟨g, 0, none⟩ = some (f 5)
  else if j = 8 then f 10 = .pointer (some ⟨g, 1, none⟩)
  else if j = 9 then W.cell? ⟨g, 1, none⟩ = some (f 8)
  else True
def Rc (g : Nat) (i : Nat) (W W' : World) : Prop :=
  if i = 7 then Onto g W W' ∧ W'.cell? ⟨g, 1, none⟩ = W.cell? ⟨g, 1, none⟩ else if i = 9 then Onto g W W' ∧ W'.cell? ⟨g, 0, none⟩ = W.cell? ⟨g, 0, none⟩ else Below W.heap.size W W'
theorem Rc.cases {g i : Nat} {W W' : World} (h : Rc g i W W') : Onto g W W' ∨ Below W.heap.size W W' := by
  unfold Rc at h
  split at h
  · exact .inl h.1
  · split at h
    · exact .inl h.1
    · exact .inr h
theorem Rc.own {base g i : Nat} {W W' : World} (h : Rc g i W W') (hg : g < base) {x : Value} {l : List Int} (ho : Own base W x l) : Own base W' x l := by
  rcases h.cases with h | h
  · exact ho.onto h (fun e => by have := (ho.lt _ e).1; omega)
  · exact ho.below h
theorem Rc.sl {g i : Nat} {W W' : World} (h : Rc g i W W') {x : Value} {l : List Int} (ho : Sl W x l) (hx : x.ownBlock ≠ some g) : Sl W' x l := by
  rcases h.cases with h | h
  · exact sl_onto ho h hx
  · exact ho.below h
theorem mono_c {ops : Array Oper} {base g : Nat} {m : Mc} (hg : g < base) (hS : supOk ops [[3], [4], [5], [6], [7], [8, 5], [9], [5], [10], [8]] = true) : Mono ops (Tc base g m) (Rc g) := by
  refine mono_sup hS (fun j f f' W hf hT => ?_) (fun i j f W W' hij hT hR => ?_)
  · rcases j with _ | _ | _ | _ | _ | _ | _ | _ | _ | _ | j
    · exact (hf 3 (by simp)).trans hT
    · show Sl W (f' 4) m.rom ∧ (f' 4).ownBlock ≠ some g
      rw [hf 4 (by simp)]; exact hT
    · show Own base W (f' 5) m.rom
      rw [hf 5 (by simp)]; exact hT
    · exact (hf 6 (by simp)).trans hT
    · show Sl W (f' 7) m.ram ∧ (f' 7).ownBlock ≠ some g
      rw [hf 7 (by simp)]; exact hT
    · show Own base W (f' 8) m.ram ∧ Apart (f' 5) (f' 8)
      rw [hf 8 (by simp), hf 5 (by simp)]; exact hT
    · exact (hf 9 (by simp)).trans hT
    · show W.cell? ⟨g, 0, none⟩ = some (f' 5)
      rw [hf 5 (by simp)]; exact hT
    · exact (hf 10 (by simp)).trans hT
    · show W.cell? ⟨g, 1, none⟩ = some (f' 8)
      rw [hf 8 (by simp)]; exact hT
    · simp [Tc]
  · rcases j with _ | _ | _ | _ | _ | _ | _ | _ | _ | _ | j
    · exact hT
    · have hT' : Sl W (f 4) m.rom ∧ (f 4).ownBlock ≠ some g := hT
      exact ⟨hR.sl hT'.1 hT'.2, hT'.2⟩
    · exact hR.own hg (show Own base W (f 5) m.rom from hT)
    · exact hT
    · have hT' : Sl W (f 7) m.ram ∧ (f 7).ownBlock ≠ some g := hT
      exact ⟨hR.sl hT'.1 hT'.2, hT'.2⟩
    · have hT' : Own base W (f 8) m.ram ∧ Apart (f 5) (f 8) := hT
      exact ⟨hR.own hg hT'.1, hT'.2⟩
    · exact hT
    · have hT' : W.cell? ⟨g, 0, none⟩ = some (f 5) := hT
      show W'.cell? ⟨g, 0, none⟩ = some (f 5)
      unfold Rc at hR
      rw [if_neg hij] at hR
      split at hR
      · rw [hR.2]; exact hT'
      · rw [hR.cell (p := ⟨g, 0, none⟩) (cell_lt hT')]; exact hT'
    · exact hT
    · have hT' : W.cell? ⟨g, 1, none⟩ = some (f 8) := hT
      show W'.cell? ⟨g, 1, none⟩ = some (f 8)
      by_cases h7 : i = 7
      · subst h7
        exact (show Onto g W W' ∧ W'.cell? ⟨g, 1, none⟩ = W.cell? ⟨g, 1, none⟩ from hR).2.trans hT'
      · have h9 : i ≠ 9 := hij
        simp only [Rc, h7, h9, if_false] at hR
        rw [hR.cell (p := ⟨g, 1, none⟩) (cell_lt hT')]; exact hT'
    · simp [Tc]
theorem Rc.below {g i : Nat} {W W' : World} (h : Below W.heap.size W W') (h7 : i ≠ 7) (h9 : i ≠ 9) : Rc g i W W' := by
  unfold Rc; rw [if_neg h7, if_neg h9]; exact h
theorem Gc.below {w W W' : World} {g g2 : Nat} {m : Mc} (h : Gc w g g2 m W) (hb : Below W.heap.size W W') : Gc w g g2 m W' := by
  obtain ⟨⟨x, y, r, h1, h2, h3, h4⟩, ⟨x0, y0, m0, r0⟩, h5, h6⟩ := h
  exact ⟨⟨x, y, r.below hb, h1.below hb, h2.below hb, h3, h4⟩, ⟨x0, y0, m0, r0.below hb⟩, below_more h5 hb, by have := hb.size; omega⟩
theorem Gc.drew {w W : World} {g g2 : Nat} {m : Mc} (h : Gc w g g2 m W) : Gc w g g2 m W.drew := h.below (drew_below (n := 1) rfl)
set_option maxRecDepth 20000 in
set_option maxHeartbeats 1000000 in
theorem machineCopy_impl (v : Value) (m : Mc) (w : World) (hm : MSl w v m) (h1 : m.rom.length ≤ 4000000) (h2 : m.ram.length ≤ 4000000) (h3 : 0 < m.rom.length) (h4 : 0 < m.ram.length) :
    Calls Tryz.prog 83 #[v] w fun e w' => ∃ v', e = .returned v' ∧ MOwn w.heap.size w' v' m ∧ Below w.heap.size w w' := by
  obtain ⟨vr, va, rfl, hr, ha⟩ := hm
  obtain ⟨vv, hvv⟩ : ∃ vv, m.val vr va = vv := ⟨_, rfl⟩
  rw [hvv]
  go_enter Tryz.func83, Tryz.ntmps83
  go_wp2_with (first
    | (refine box_m rfl rfl hvv.symm ?_; intro w0 r0 hB0; have l0 := r0.lt)
    | (refine al_mc rfl rfl ?_; intro w1 z1 hB1))
  have hgz := z1.lt
  have r1 := r0.below hB1
  have hB := hB0.trans (hB1.mono hB0.size)
  have hG : Gc w w.heap.size w0.heap.size m w1 := ⟨⟨vr, va, r1, hr.below hB, ha.below hB, fun e => by have := hr.lt h3 _ e; omega, fun e => by have := ha.lt h4 _ e; omega⟩, ⟨_, _, _, z1⟩, hB, hgz⟩
  clear r0 hB0 z1 hB1 r1 hB hr ha hgz
  refine region_gen (by kernel_rfl) (by kernel_rfl) (fun W => Gc w w.heap.size w0.heap.size m W) (Tc (w0.heap.size + 1) w.heap.size m) (Rc w.heap.size) (mono_c (by omega) (by kernel_rfl)) hG.drew ?step ?done
  case step =>
    intro L ix o A W hi hI hL hd
    have hin : ix < 10 := by
      by_cases hl : ix < 10
      · exact hl
      · simp [hl] at hi
    have hsz : A.tmps.size = 12 := hI.size
    have hg := hI.g
    obtain ⟨x, y, hrow, hx, hy, hxg, hyg⟩ := hg.row
    have hlt := hg.lt
    have e1 : A.eval (.tmp 1) = .pointer (some ⟨w.heap.size, 0, none⟩) := hI.old 1 (by kernel_rfl)
    rcases ix with _ | ix
    · cases hi
      refine at_op rfl rfl (val_op (v := .pointer (some ⟨w.heap.size, 0, none⟩)) ?_ ⟨_, rfl, getD_put_same _ _ _ (by omega), hg, Rc.below (Below.refl _ _) (by omega) (by omega)⟩)
      unfold execOp
      simp only [List.getElem_toArray, List.getElem_cons_zero, List.getElem_cons_succ, e1]
      simp [go_sem]
    rcases ix with _ | ix
    · cases hi
      have e : A.eval (.tmp 3) = .pointer (some ⟨w.heap.size, 0, none⟩) := hI.get hd 0 rfl (by kernel_rfl)
      refine at_op rfl rfl (loads_op rfl e (cw hrow).vr ⟨_, rfl, ?_, hg, Rc.below (Below.refl _ _) (by omega) (by omega)⟩)
      have e' : at_ (A.put (some 4) x) 4 = x := getD_put_same _ _ _ (by omega)
      show Sl W (at_ (A.put (some 4) x) 4) _ ∧ (at_ (A.put (some 4) x) 4).ownBlock ≠ _
      rw [e']
      exact ⟨hx, hxg⟩
    rcases ix with _ | ix
    · cases hi
      have t : Sl W (at_ A 4) m.rom ∧ _ := hI.get hd 1 rfl (by kernel_rfl)
      refine at_op rfl rfl (call_op rfl Tryz.func146 (by kernel_rfl) (by kernel_rfl) ?_)
      simp only [List.map_cons, List.map_nil]
      refine (clone_any (at_ A 4) m.rom W t.1 (by omega)).mono ?_
      rintro e w5 ⟨v5, rfl, ho5, hb5⟩
      have e' : at_ (A.put (some 5) v5) 5 = v5 := getD_put_same _ _ _ (by omega)
      refine ⟨_, rfl, _, rfl, ?_, hg.below hb5, Rc.below hb5 (by omega) (by omega)⟩
      show Own _ _ (at_ (A.put (some 5) v5) 5) _
      rw [e']
      exact ho5.mono (by omega)
    rcases ix with _ | ix
    · cases hi
      refine at_op rfl rfl (val_op (v := .pointer (some ⟨w.heap.size, 1, none⟩)) ?_ ⟨_, rfl, getD_put_same _ _ _ (by omega), hg, Rc.below (Below.refl _ _) (by omega) (by omega)⟩)
      unfold execOp
      simp only [List.getElem_toArray, List.getElem_cons_zero, List.getElem_cons_succ, e1]
      simp [go_sem]
    rcases ix with _ | ix
    · cases hi
      have e : A.eval (.tmp 6) = .pointer (some ⟨w.heap.size, 1, none⟩) := hI.get hd 3 rfl (by kernel_rfl)
      refine at_op rfl rfl (loads_op rfl e (cw hrow).va ⟨_, rfl, ?_, hg, Rc.below (Below.refl _ _) (by omega) (by omega)⟩)
      have e' : at_ (A.put (some 7) y) 7 = y := getD_put_same _ _ _ (by omega)
      show Sl W (at_ (A.put (some 7) y) 7) _ ∧ (at_ (A.put (some 7) y) 7).ownBlock ≠ _
      rw [e']
      exact ⟨hy, hyg⟩
    rcases ix with _ | ix
    · cases hi
      have t : Sl W (at_ A 7) m.ram ∧ _ := hI.get hd 4 rfl (by kernel_rfl)
      refine at_op rfl rfl (call_op rfl Tryz.func146 (by kernel_rfl) (by kernel_rfl) ?_)
      simp only [List.map_cons, List.map_nil]
      refine (clone_any (at_ A 7) m.ram W t.1 (by omega)).mono ?_
      rintro e w5 ⟨v5, rfl, ho5, hb5⟩
      have e' : at_ (A.put (some 8) v5) 8 = v5 := getD_put_same _ _ _ (by omega)
      have t2 : Own _ W (at_ A 5) m.rom := hI.get hd 2 rfl (by kernel_rfl)
      have e5 : at_ (A.put (some 8) v5) 5 = at_ A 5 := getD_put _ _ _ _ (by simp)
      refine ⟨_, rfl, _, rfl, ?_, hg.below hb5, Rc.below hb5 (by omega) (by omega)⟩
      show Own _ _ (at_ (A.put (some 8) v5) 8) _ ∧ Apart (at_ (A.put (some 8) v5) 5) (at_ (A.put (some 8) v5) 8)
      rw [e', e5]
      exact ⟨ho5.mono (by omega), fun k hk hk' => by have := (t2.lt k hk).2; have := (ho5.lt k hk').1; omega⟩
    rcases ix with _ | ix
    · cases hi
      refine at_op rfl rfl (val_op (v := .pointer (some ⟨w.heap.size, 0, none⟩)) ?_ ⟨_, rfl, getD_put_same _ _ _ (by omega), hg, Rc.below (Below.refl _ _) (by omega) (by omega)⟩)
      unfold execOp
      simp only [List.getElem_toArray, List.getElem_cons_zero, List.getElem_cons_succ, e1]
      simp [go_sem]
    rcases ix with _ | ix
    · cases hi
      have ep : A.eval (.tmp 9) = .pointer (some ⟨w.heap.size, 0, none⟩) := hI.get hd 6 rfl (by kernel_rfl)
      have t : Own _ W (at_ A 5) m.rom := hI.get hd 2 rfl (by kernel_rfl)
      refine at_op rfl rfl (sw_in rfl ep (show A.eval (.tmp 5) = at_ A 5 from rfl) hrow (one_own t) info_s (by rw [Mc.size]; omega) ?_)
      intro W' r0' ho'
      have r' : MRow W' w.heap.size (at_ A 5) y m := r0'
      obtain ⟨x0, y0, m0, z0⟩ := hg.out
      refine ⟨_, rfl, ?_, ⟨⟨at_ A 5, y, r', (t.onto ho' (fun e => by have := (t.lt _ e).1; omega)).sl, sl_onto hy ho' hyg, fun e => by have := (t.lt _ e).1; omega, hyg⟩, ⟨x0, y0, m0, z0.onto ho' (by omega)⟩, below_onto hg.bel ho' (Nat.le_refl _), by have := ho'.size; omega⟩, ?_⟩
      · exact (cw r').vr
      · unfold Rc
        simp only [if_true]
        exact ⟨ho', (cw r').va.trans (cw hrow).va.symm⟩
    rcases ix with _ | ix
    · cases hi
      refine at_op rfl rfl (val_op (v := .pointer (some ⟨w.heap.size, 1, none⟩)) ?_ ⟨_, rfl, getD_put_same _ _ _ (by omega), hg, Rc.below (Below.refl _ _) (by omega) (by omega)⟩)
      unfold execOp
      simp only [List.getElem_toArray, List.getElem_cons_zero, List.getElem_cons_succ, e1]
      simp [go_sem]
    rcases ix with _ | ix
    · cases hi
      have ep : A.eval (.tmp 10) = .pointer (some ⟨w.heap.size, 1, none⟩) := hI.get hd 8 rfl (by kernel_rfl)
      have t : Own _ W (at_ A 8) m.ram := (show Own _ W (at_ A 8) m.ram ∧ _ from hI.get hd 5 rfl (by kernel_rfl)).1
      refine at_op rfl rfl (sw_in rfl ep (show A.eval (.tmp 8) = at_ A 8 from rfl) hrow (one_own t) info_s (by rw [Mc.size]; omega) ?_)
      intro W' r0' ho'
      have r' : MRow W' w.heap.size x (at_ A 8) m := r0'
      obtain ⟨x0, y0, m0, z0⟩ := hg.out
      refine ⟨_, rfl, ?_, ⟨⟨x, at_ A 8, r', sl_onto hx ho' hxg, (t.onto ho' (fun e => by have := (t.lt _ e).1; omega)).sl, hxg, fun e => by have := (t.lt _ e).1; omega⟩, ⟨x0, y0, m0, z0.onto ho' (by omega)⟩, below_onto hg.bel ho' (Nat.le_refl _), by have := ho'.size; omega⟩, ?_⟩
      · exact (cw r').va
      · unfold Rc
        simp only [if_pos, if_neg, reduceCtorEq, if_true, if_false, Nat.reduceEqDiff]
        exact ⟨ho', (cw r').vr.trans (cw hrow).vr.symm⟩
    omega
  case done =>
    intro A W hI
    have hg := hI.g
    obtain ⟨x, y, hrow, hx, hy, hxg, hyg⟩ := hg.row
    obtain ⟨x0, y0, m0, z0⟩ := hg.out
    have hlt := hg.lt
    have t2 : Own _ W (at_ A 5) m.rom := hI.told 2 _ rfl rfl
    have t5 : Own _ W (at_ A 8) m.ram ∧ Apart (at_ A 5) (at_ A 8) := hI.told 5 _ rfl rfl
    have t7 : W.cell? ⟨w.heap.size, 0, none⟩ = some (at_ A 5) := hI.told 7 _ rfl rfl
    have t9 : W.cell? ⟨w.heap.size, 1, none⟩ = some (at_ A 8) := hI.told 9 _ rfl rfl
    obtain rfl : x = at_ A 5 := Option.some.inj ((cw hrow).vr.symm.trans t7)
    obtain rfl : y = at_ A 8 := Option.some.inj ((cw hrow).va.symm.trans t9)
    have e1 : A.tmps.getD 1 undef = .pointer (some ⟨w.heap.size, 0, none⟩) := hI.old 1 (by kernel_rfl)
    have e2 : A.tmps.getD 2 undef = .pointer (some ⟨w0.heap.size, 0, none⟩) := hI.old 2 (by kernel_rfl)
    clear t7 t9 hx hy hxg hyg
    generalize at_ A 5 = x at *
    generalize at_ A 8 = y at *
    have hB := hg.bel
    have hA := frame_lit A 12 hI.size
    have hde : A.defers = [] := hI.defers
    rw [hde, show List.range 12 = [0, 1, 2, 3, 4, 5, 6, 7, 8, 9, 10, 11] from rfl] at hA
    simp only [List.map_cons, List.map_nil, e1, e2] at hA
    rw [hA]
    clear hA e1 e2 hI hde hg
    go_wp2_with (first
      | (refine ld_mc rfl rfl rfl hrow ?_)
      | (refine st_mc rfl rfl rfl rfl z0 (one_own t2) (one_own t5.1) ?_; intro w6 r6 o6 s6))
    refine ret_mc rfl rfl r6 rfl ?_
    refine ⟨_, rfl, ⟨x, y, rfl, ?_, ?_, t5.2⟩, below_onto hB o6 (by omega)⟩
    · exact (t2.onto o6 (fun e => by have := (t2.lt _ e).1; omega)).mono (by omega)
    · exact (t5.1.onto o6 (fun e => by have := (t5.1.lt _ e).1; omega)).mono (by omega)
end Go.Proofs.YtghmkacamabndaaGreatDoor.Mem
namespace Go.Proofs.YtghmkacamabndaaGreatDoor.Mem
open Go.ChangeShapes Go.WideShapes Go.RowKit Base Num Slc Rw Tmr Srl Rom RomOf Mp

def Sr.ordered (s : Sr) (n now : Int) : Sr := if 127 < n then s.start (n % 2 == 1) now else ⟨s.d, false, false, 0, 0, false⟩
theorem cableOrdered_impl (s : Sr) (n now : Int) (w : World) (hn : 0 ≤ n ∧ n ≤ 255) :
    Calls Tryz.prog 261 #[s.val, .int .i64 n, .int .i64 now] w fun e w' => e = .returned (Sr.ordered s n now).val ∧ Below w.heap.size w w' := by
  have h2 := rem_pos' (a := n) (r := 2) hn.1
  by_cases hb : 127 < n
  · have e : Sr.ordered s n now = s.start (n % 2 == 1) now := by simp [Sr.ordered, hb]
    have hb' : ¬ n < 128 := by omega
    rw [e, Sr.eta s]
    go_enter Tryz.func261, Tryz.ntmps261
    go_wp2_with (first
      | (go_at_call 262; refine (serialStart_impl s _ _ _).mono ?_; rw [Sr.eta]; rintro e w1 ⟨rfl, hb1⟩; obtain ⟨r1, r2, hB⟩ := box2 hb1)
      | (refine st_sr rfl rfl rfl rfl r2 rfl ?_; intro w2 r3 ho2 hs2))
    refine ret_row rfl rfl r3 und_sr rfl info_sr rfl ?_
    exact ⟨rfl, below_onto hB ho2 (by omega)⟩
  · have e : Sr.ordered s n now = ⟨s.d, false, false, 0, 0, false⟩ := by simp [Sr.ordered, hb]
    have hb' : n < 128 := by omega
    rw [e, Sr.eta s]
    go_enter Tryz.func261, Tryz.ntmps261
    go_wp2
    refine ret_row rfl rfl (Row.new1 (w := w.alloc _) (n := w.heap.size + 1) (by simp) #[.int .i64 s.d, .bool false, .bool false, .int .i64 0, .int .i64 0, .bool false] 28) und_sr rfl info_sr rfl ?_
    exact ⟨rfl, ((Below.refl _ _).alloc (Nat.le_refl _) _).alloc (by simp) _⟩
def Mc.withPorts (m : Mc) (f : Int → Option Int) : Mc :=
  { m with p := (match f 241 with | some n => Sr.ordered { m.p with d := (f 240).getD 0 } n m.k | none => { m.p with d := (f 240).getD 0 }), t := ⟨m.t.c, (f 243).getD 0, (f 244).getD 0, (f 245).getD 0 % 8⟩, fl := (f 246).getD 0 % 8, ms := (f 247).getD 0 % 8 }
set_option maxHeartbeats 2000000 in
theorem withPorts_impl (v : Value) (m : Mc) (b : Nat) (f : Int → Option Int) (w : World) (base : Nat) (hm : MOwn base w v m) (hM : PortsAt w b f) (hf : ∀ x, 0 ≤ (f x).getD 0 ∧ (f x).getD 0 ≤ 255) (hbase : base ≤ w.heap.size) :
    Calls Tryz.prog 260 #[v, .map (some b)] w fun e w' => ∃ v', e = .returned v' ∧ MOwn base w' v' (m.withPorts f) ∧ Below w.heap.size w w' := by
  obtain ⟨vr, va, hv, hr, ha, hap⟩ := hm
  have o1' := one_own hr
  have o2' := one_own ha
  have h5 := rem_pos' (a := (f 245).getD 0) (r := 8) (hf 245).1
  have h6 := rem_pos' (a := (f 246).getD 0) (r := 8) (hf 246).1
  have h7 := rem_pos' (a := (f 247).getD 0) (r := 8) (hf 247).1
  have b5 := hf 245
  have b6 := hf 246
  have b7 := hf 247
  have bl := hM.lt
  cases h1 : f 241 with
  | none =>
    have e : m.withPorts f = { m with p := { m.p with d := (f 240).getD 0 }, t := ⟨m.t.c, (f 243).getD 0, (f 244).getD 0, (f 245).getD 0 % 8⟩, fl := (f 246).getD 0 % 8, ms := (f 247).getD 0 % 8 } := by simp [Mc.withPorts, h1]
    rw [e]
    clear e
    go_enter Tryz.func260, Tryz.ntmps260
    go_wp2_with (first
      | (refine box_m rfl rfl hv ?_; intro w0 r0 hB0)
      | (refine al_mc rfl rfl ?_; intro w1 z1 hB1; have r1 := r0.below hB1; have hB2 := hB0.trans (hB1.mono hB0.size); have hP1 := hM.below hB2; have l0 := r0.lt; have l1 := r1.lt; have lz := z1.lt)
      | (refine lk_at rfl rfl rfl rfl (by assumption) ?_)
      | (refine st_num (m' := { m with p := { m.p with d := (f 240).getD 0 } }) (k := 18) rfl rfl rfl rfl r1 rfl rfl ?_; intro w2 r2 o2 s2; have hP2 := hP1.onto o2 (by omega))
      | (refine st_num (m' := { m with p := { m.p with d := (f 240).getD 0 }, t := { m.t with v := (f 243).getD 0 } }) (k := 15) rfl rfl rfl rfl r2 rfl rfl ?_; intro w3 r3 o3 s3; have hP3 := hP2.onto o3 (by omega))
      | (refine st_num (m' := { m with p := { m.p with d := (f 240).getD 0 }, t := { m.t with v := (f 243).getD 0, s := (f 244).getD 0 } }) (k := 16) rfl rfl rfl rfl r3 rfl rfl ?_; intro w4 r4 o4 s4; have hP4 := hP3.onto o4 (by omega))
      | (refine st_num (m' := { m with p := { m.p with d := (f 240).getD 0 }, t := ⟨m.t.c, (f 243).getD 0, (f 244).getD 0, (f 245).getD 0 % 8⟩ }) (k := 17) rfl rfl rfl rfl r4 rfl rfl ?_; intro w5 r5 o5 s5; have hP5 := hP4.onto o5 (by omega))
      | (refine st_num (m' := { m with p := { m.p with d := (f 240).getD 0 }, t := ⟨m.t.c, (f 243).getD 0, (f 244).getD 0, (f 245).getD 0 % 8⟩, fl := (f 246).getD 0 % 8 }) (k := 11) rfl rfl rfl rfl r5 rfl rfl ?_; intro w6 r6 o6 s6; have hP6 := hP5.onto o6 (by omega))
      | (refine st_num (m' := { m with p := { m.p with d := (f 240).getD 0 }, t := ⟨m.t.c, (f 243).getD 0, (f 244).getD 0, (f 245).getD 0 % 8⟩, fl := (f 246).getD 0 % 8, ms := (f 247).getD 0 % 8 }) (k := 12) rfl rfl rfl rfl r6 rfl rfl ?_; intro w7 r7 o7 s7; have hP7 := hP6.onto o7 (by omega))
      | (refine lk_ok rfl rfl rfl rfl hP7 ?_; rw [h1])
      | (refine ld_mc rfl rfl rfl r7 ?_)
      | (refine st_mc rfl rfl rfl rfl (((((((z1.onto o2 (by omega)).onto o3 (by omega)).onto o4 (by omega)).onto o5 (by omega)).onto o6 (by omega)).onto o7 (by omega))) o1' o2' ?_; intro wz rz oz sz))
    refine ret_mc rfl rfl rz rfl ?_
    have hBa := below_onto (below_onto (below_onto (below_onto (below_onto (below_onto hB2 o2 (Nat.le_refl _)) o3 (Nat.le_refl _)) o4 (Nat.le_refl _)) o5 (Nat.le_refl _)) o6 (Nat.le_refl _)) o7 (Nat.le_refl _)
    have hBb := hBa
    have hBz := below_onto hBb oz (by omega)
    exact ⟨_, rfl, ⟨vr, va, rfl, hr.below hBz, ha.below hBz, hap⟩, hBz⟩
  | some n =>
    have e : m.withPorts f = { m with p := Sr.ordered { m.p with d := (f 240).getD 0 } n m.k, t := ⟨m.t.c, (f 243).getD 0, (f 244).getD 0, (f 245).getD 0 % 8⟩, fl := (f 246).getD 0 % 8, ms := (f 247).getD 0 % 8 } := by simp [Mc.withPorts, h1]
    rw [e]
    clear e
    have hn : 0 ≤ n ∧ n ≤ 255 := by have := hf 241; rw [h1] at this; exact this
    go_enter Tryz.func260, Tryz.ntmps260
    go_wp2_with (first
      | (refine box_m rfl rfl hv ?_; intro w0 r0 hB0)
      | (refine al_mc rfl rfl ?_; intro w1 z1 hB1; have r1 := r0.below hB1; have hB2 := hB0.trans (hB1.mono hB0.size); have hP1 := hM.below hB2; have l0 := r0.lt; have l1 := r1.lt; have lz := z1.lt)
      | (refine lk_at rfl rfl rfl rfl (by assumption) ?_)
      | (refine st_num (m' := { m with p := { m.p with d := (f 240).getD 0 } }) (k := 18) rfl rfl rfl rfl r1 rfl rfl ?_; intro w2 r2 o2 s2; have hP2 := hP1.onto o2 (by omega))
      | (refine st_num (m' := { m with p := { m.p with d := (f 240).getD 0 }, t := { m.t with v := (f 243).getD 0 } }) (k := 15) rfl rfl rfl rfl r2 rfl rfl ?_; intro w3 r3 o3 s3; have hP3 := hP2.onto o3 (by omega))
      | (refine st_num (m' := { m with p := { m.p with d := (f 240).getD 0 }, t := { m.t with v := (f 243).getD 0, s := (f 244).getD 0 } }) (k := 16) rfl rfl rfl rfl r3 rfl rfl ?_; intro w4 r4 o4 s4; have hP4 := hP3.onto o4 (by omega))
      | (refine st_num (m' := { m with p := { m.p with d := (f 240).getD 0 }, t := ⟨m.t.c, (f 243).getD 0, (f 244).getD 0, (f 245).getD 0 % 8⟩ }) (k := 17) rfl rfl rfl rfl r4 rfl rfl ?_; intro w5 r5 o5 s5; have hP5 := hP4.onto o5 (by omega))
      | (refine st_num (m' := { m with p := { m.p with d := (f 240).getD 0 }, t := ⟨m.t.c, (f 243).getD 0, (f 244).getD 0, (f 245).getD 0 % 8⟩, fl := (f 246).getD 0 % 8 }) (k := 11) rfl rfl rfl rfl r5 rfl rfl ?_; intro w6 r6 o6 s6; have hP6 := hP5.onto o6 (by omega))
      | (refine st_num (m' := { m with p := { m.p with d := (f 240).getD 0 }, t := ⟨m.t.c, (f 243).getD 0, (f 244).getD 0, (f 245).getD 0 % 8⟩, fl := (f 246).getD 0 % 8, ms := (f 247).getD 0 % 8 }) (k := 12) rfl rfl rfl rfl r6 rfl rfl ?_; intro w7 r7 o7 s7; have hP7 := hP6.onto o7 (by omega))
      | (refine lk_ok rfl rfl rfl rfl hP7 ?_; rw [h1]; have kk := (cw r7).k)
      | (refine ld_ser rfl rfl rfl r7 ?_)
      | (go_at_call 261; refine (cableOrdered_impl _ n _ _ hn).mono ?_; rintro e w8 ⟨rfl, hb8⟩; have r8 := r7.below hb8)
      | (refine st_port' rfl rfl rfl rfl r8 ?_; intro w9 r9 o9 s9)
      | (refine ld_mc rfl rfl rfl r9 ?_)
      | (refine st_mc rfl rfl rfl rfl ((((((((z1.onto o2 (by omega)).onto o3 (by omega)).onto o4 (by omega)).onto o5 (by omega)).onto o6 (by omega)).onto o7 (by omega)).below hb8).onto o9 (by omega)) o1' o2' ?_; intro wz rz oz sz))
    refine ret_mc rfl rfl rz rfl ?_
    have hBa := below_onto (below_onto (below_onto (below_onto (below_onto (below_onto hB2 o2 (Nat.le_refl _)) o3 (Nat.le_refl _)) o4 (Nat.le_refl _)) o5 (Nat.le_refl _)) o6 (Nat.le_refl _)) o7 (Nat.le_refl _)
    have hBb := below_onto (hBa.trans (hb8.mono hBa.size)) o9 (Nat.le_refl _)
    have hBz := below_onto hBb oz (by omega)
    exact ⟨_, rfl, ⟨vr, va, rfl, hr.below hBz, ha.below hBz, hap⟩, hBz⟩
end Go.Proofs.YtghmkacamabndaaGreatDoor.Mem
namespace Go.Proofs.YtghmkacamabndaaGreatDoor.Mem
open Go.ChangeShapes Go.WideShapes Go.RowKit Base Num Slc Rw Tmr Srl Rom RomOf Mp

def Mc.laid (m : Mc) (q n : Int) (k : Int) : Option Int := if k = q then some n else if k = 241 then none else m.port k
theorem Mc.ok_more {m : Mc} (h : m.ok = true) : (0 ≤ m.fl ∧ m.fl ≤ 7) ∧ (0 ≤ m.ms ∧ m.ms ≤ 7) ∧ (0 ≤ m.ky ∧ m.ky ≤ 255) ∧ (0 ≤ m.t.v ∧ m.t.v ≤ 255) ∧ (0 ≤ m.t.s ∧ m.t.s ≤ 255) ∧ (0 ≤ m.t.m ∧ m.t.m ≤ 7) ∧ (0 ≤ m.p.d ∧ m.p.d ≤ 255) := by
  obtain ⟨h1, h2⟩ := Mc.ok_parts h
  obtain ⟨_, _, h3, h4, _⟩ := Mc.ok_rom h
  obtain ⟨_, h5, h6, h7⟩ := Tm.ok_true h3
  simp only [Mc.ok, Bool.and_eq_true, decide_eq_true_eq, beq_iff_eq] at h
  obtain ⟨⟨⟨⟨⟨⟨⟨⟨⟨⟨⟨⟨_, _⟩, _⟩, _⟩, _⟩, _⟩, _⟩, _⟩, _⟩, hk⟩, _⟩, _⟩, _⟩ := h
  exact ⟨h1, h2, bok_true hk, h5, h6, h7, (Sr.ok_true h4).1⟩
theorem laid_in {m : Mc} (hok : m.ok = true) {q n : Int} (hn : 0 ≤ n ∧ n ≤ 255) (x : Int) : 0 ≤ (m.laid q n x).getD 0 ∧ (m.laid q n x).getD 0 ≤ 255 := by
  obtain ⟨h1, h2, h3, h4, h5, h6, h7⟩ := Mc.ok_more hok
  have hR := (Mc.right hok).tim
  unfold Mc.laid
  by_cases hx : x = q
  · simp [hx]; omega
  by_cases e1 : x = 241
  · simp [hx, e1]
    split <;> simp <;> omega
  simp only [hx, e1, if_false, Mc.port]
  by_cases e0 : x = 240
  · simp [e0]; omega
  by_cases e2 : x = 242
  · simp [e2]; omega
  by_cases e3 : x = 243
  · simp [e3]; omega
  by_cases e4 : x = 244
  · simp [e4]; omega
  by_cases e5 : x = 245
  · simp [e5]; omega
  by_cases e6 : x = 246
  · simp [e6]; omega
  by_cases e7 : x = 247
  · simp [e7]; omega
  by_cases e8 : x = 248
  · simp [e8]; omega
  simp [e0, e2, e3, e4, e5, e6, e7, e8]
theorem laid_write {m : Mc} (hok : m.ok = true) {q n : Int} (hin : ¬ (128 ≤ q ∧ q < 192)) (hn : 0 ≤ n ∧ n ≤ 255) : m.withPorts (m.laid q n) = m.write q n := by
  obtain ⟨h1, h2, h3, h4, h5, h6, h7⟩ := Mc.ok_more hok
  have e1 : m.fl % 8 = m.fl := by omega
  have e2 : m.ms % 8 = m.ms := by omega
  have e3 : m.t.m % 8 = m.t.m := by omega
  simp only [Mc.write, hin, if_false]
  by_cases c0 : q = 240
  · subst c0; simp [Mc.withPorts, Mc.laid, Mc.port, e1, e2, e3]
  by_cases c1 : q = 241
  · subst c1; simp [Mc.withPorts, Mc.laid, Mc.port, e1, e2, e3, Sr.ordered]
  by_cases c3 : q = 243
  · subst c3; simp [Mc.withPorts, Mc.laid, Mc.port, e1, e2, e3]
  by_cases c4 : q = 244
  · subst c4; simp [Mc.withPorts, Mc.laid, Mc.port, e1, e2, e3]
  by_cases c5 : q = 245
  · subst c5; simp [Mc.withPorts, Mc.laid, Mc.port, e1, e2, e3]
  by_cases c6 : q = 246
  · subst c6; simp [Mc.withPorts, Mc.laid, Mc.port, e1, e2, e3]
  by_cases c7 : q = 247
  · subst c7; simp [Mc.withPorts, Mc.laid, Mc.port, e1, e2, e3]
  have d0 : ¬ 240 = q := fun e => c0 e.symm
  have d1 : ¬ 241 = q := fun e => c1 e.symm
  have d3 : ¬ 243 = q := fun e => c3 e.symm
  have d4 : ¬ 244 = q := fun e => c4 e.symm
  have d5 : ¬ 245 = q := fun e => c5 e.symm
  have d6 : ¬ 246 = q := fun e => c6 e.symm
  have d7 : ¬ 247 = q := fun e => c7 e.symm
  simp [Mc.withPorts, Mc.laid, Mc.port, e1, e2, e3, c0, c1, c3, c4, c5, c6, c7, d0, d1, d3, d4, d5, d6, d7]
theorem mdel_sub : ∀ (L : List (Int × Int)) (q : Int), List.Sublist (mdel L q) L
  | [], q => List.Sublist.refl _
  | (k, v) :: r, q => by
    by_cases h : q = k
    · simp [mdel, h]
    · simp only [mdel, h, if_false]
      exact List.Sublist.cons_cons _ (mdel_sub r q)
theorem mdel_one (L : List (Int × Int)) (q : Int) (h : (L.map Prod.fst).Nodup) : ((mdel L q).map Prod.fst).Nodup := h.sublist ((mdel_sub L q).map _)
section
variable {ops : Array Oper} {rest : List Oper} {o : Oper} {a : Act} {w : World} {Q : Exit → Act → World → Prop} {x y z : Operand} {b : Nat} {q n : Int} {f : Int → Option Int}
theorem del_at (hgd : o.guard = none) (ho : o.op = .call { callee := .builtin .delete, args := #[x, y], argTypes := #[186, 2] }) (hx : a.eval x = .map (some b)) (hy : a.eval y = .int .i64 q) (hM : PortsAt w b f)
    (h : ∀ v w', PortsAt w' b (fun k => if k = q then none else f k) → Onto b w w' → wpList Tryz.prog ops Q rest (a.put o.dst v) w') : wpList Tryz.prog ops Q (o :: rest) a w :=
  wpList_plain hgd fun _ hK => by
    obtain ⟨L, h1, h2, h3⟩ := hM
    obtain ⟨w', hr, m1, m2, m3⟩ := run_del (P := Tryz.prog) (ty := o.type) und_map Tryz.underlying2 h1 q
    have hnd : (mdel L q).map Prod.fst |>.Nodup := mdel_one L q h2
    unfold Oper.wp execOp
    simp [ho, resolve, invoke, builtin, hx, hy, hr, Result.andThen]
    exact hK _ _ (h _ _ ⟨_, m1, hnd, fun k => by rw [Reg.mget_mdel L q k h2, h3]⟩ m2)
end
set_option maxHeartbeats 1000000 in
theorem writtenAt_impl (v : Value) (m : Mc) (q n : Int) (w : World) (hm : MSl w v m) :
    Calls Tryz.prog 247 #[v, .int .i64 q, .int .i64 n] w fun e w' => ∃ v', e = .returned v' ∧ MOwn w.heap.size w' v' (m.writtenAt q n) ∧ Below w.heap.size w w' := by
  obtain ⟨vr, va, hv, hr, ha⟩ := hm
  cases hok : m.ok
  · have e : m.writtenAt q n = Mc.nul := by simp [Mc.writtenAt, hok]
    rw [e]
    go_enter Tryz.func247, Tryz.ntmps247
    go_wp2_with (first
      | (refine box_m rfl rfl hv ?_; intro w0 r0 hB0)
      | (refine al_mc rfl rfl ?_; intro w1 z1 hB1; have r1 := r0.below hB1; have hB2 := hB0.trans (hB1.mono hB0.size); have l0 := r0.lt; have lz := z1.lt)
      | (refine ld_mc rfl rfl rfl r1 ?_)
      | (go_at_call 20; refine (machineOk_impl _ m _ ⟨vr, va, rfl, hr.below hB2, ha.below hB2⟩).mono ?_; rintro e w2 ⟨rfl, hb2⟩; rw [hok]; have hB3 := hB2.trans (hb2.mono hB2.size); have z2 := z1.below hb2; replace r1 := r1.below hb2)
      | (refine bd_nul rfl rfl ?_)
      | (refine st_mc rfl rfl rfl rfl z2 rfl rfl ?_; intro w6 r6 o6 s6))
    refine ret_mc rfl rfl r6 rfl ?_
    exact ⟨_, rfl, nul_own _ _, below_onto hB3 o6 (by omega)⟩
  cases hq : bok q
  · have e : m.writtenAt q n = Mc.nul := by simp [Mc.writtenAt, hq]
    rw [e]
    go_enter Tryz.func247, Tryz.ntmps247
    go_wp2_with (first
      | (refine box_m rfl rfl hv ?_; intro w0 r0 hB0)
      | (refine al_mc rfl rfl ?_; intro w1 z1 hB1; have r1 := r0.below hB1; have hB2 := hB0.trans (hB1.mono hB0.size); have l0 := r0.lt; have lz := z1.lt)
      | (refine ld_mc rfl rfl rfl r1 ?_)
      | (go_at_call 20; refine (machineOk_impl _ m _ ⟨vr, va, rfl, hr.below hB2, ha.below hB2⟩).mono ?_; rintro e w2 ⟨rfl, hb2⟩; rw [hok]; have hB3 := hB2.trans (hb2.mono hB2.size); have z2 := z1.below hb2; replace r1 := r1.below hb2)
      | (go_at_call 75; refine (byteOk_impl _ _).mono ?_; rintro e w3 ⟨rfl, rfl⟩; rw [hq])
      | (refine bd_nul rfl rfl ?_)
      | (refine st_mc rfl rfl rfl rfl z2 rfl rfl ?_; intro w6 r6 o6 s6))
    refine ret_mc rfl rfl r6 rfl ?_
    exact ⟨_, rfl, nul_own _ _, below_onto hB3 o6 (by omega)⟩
  cases hn : bok n
  · have e : m.writtenAt q n = Mc.nul := by simp [Mc.writtenAt, hn]
    rw [e]
    go_enter Tryz.func247, Tryz.ntmps247
    go_wp2_with (first
      | (refine box_m rfl rfl hv ?_; intro w0 r0 hB0)
      | (refine al_mc rfl rfl ?_; intro w1 z1 hB1; have r1 := r0.below hB1; have hB2 := hB0.trans (hB1.mono hB0.size); have l0 := r0.lt; have lz := z1.lt)
      | (refine ld_mc rfl rfl rfl r1 ?_)
      | (go_at_call 20; refine (machineOk_impl _ m _ ⟨vr, va, rfl, hr.below hB2, ha.below hB2⟩).mono ?_; rintro e w2 ⟨rfl, hb2⟩; rw [hok]; have hB3 := hB2.trans (hb2.mono hB2.size); have z2 := z1.below hb2; replace r1 := r1.below hb2)
      | (go_at_call 75; refine (byteOk_impl _ _).mono ?_; rintro e w3 ⟨rfl, rfl⟩; first | rw [hq] | rw [hn])
      | (refine bd_nul rfl rfl ?_)
      | (refine st_mc rfl rfl rfl rfl z2 rfl rfl ?_; intro w6 r6 o6 s6))
    refine ret_mc rfl rfl r6 rfl ?_
    exact ⟨_, rfl, nul_own _ _, below_onto hB3 o6 (by omega)⟩
  have e : m.writtenAt q n = m.write q n := by simp [Mc.writtenAt, hok, hq, hn]
  rw [e]
  clear e
  have hR := Mc.right hok
  have hq' := bok_true hq
  have hn' := bok_true hn
  have hR1 := hR.rom
  have hR3 := hR.tim
  have hR2 : Hid (m.ram.length = 64) := hR.ram
  by_cases hin : 128 ≤ q ∧ q < 192
  · have e : m.write q n = { m with ram := m.ram.set (q - 128).toNat n } := by simp [Mc.write, hin]
    rw [e]
    obtain ⟨k, rfl⟩ : ∃ k : Nat, q = 128 + (k : Int) := ⟨(q - 128).toNat, by omega⟩
    have h2 : (128 + (k : Int) - 128).toNat = k := by omega
    rw [h2]
    have hs : 128 + (k : Int) - 128 = (k : Int) := by omega
    have hi : (decide (128 ≤ 128 + (k : Int)) && decide (128 + (k : Int) < 192)) = true := by simp; omega
    have hkl : k < m.ram.length := by have := hR2.out; omega
    have hkl' : (k : Int) < (m.ram.length : Int) := by omega
    clear e h2
    go_enter Tryz.func247, Tryz.ntmps247
    go_wp2_with (first
      | (refine box_m rfl rfl hv ?_; intro w0 r0 hB0)
      | (refine al_mc rfl rfl ?_; intro w1 z1 hB1; have r1 := r0.below hB1; have hB2 := hB0.trans (hB1.mono hB0.size); have l0 := r0.lt; have lz := z1.lt)
      | (refine ld_mc rfl rfl rfl r1 ?_)
      | (go_at_call 20; refine (machineOk_impl _ m _ ⟨vr, va, rfl, hr.below hB2, ha.below hB2⟩).mono ?_; rintro e w2 ⟨rfl, hb2⟩; rw [hok]; have hB3 := hB2.trans (hb2.mono hB2.size); have z2 := z1.below hb2; replace r1 := r1.below hb2)
      | (go_at_call 75; refine (byteOk_impl _ _).mono ?_; rintro e w3 ⟨rfl, rfl⟩; first | rw [hq] | rw [hn]))
    go_at_call 83
    refine (machineCopy_impl _ m _ ⟨vr, va, rfl, hr.below hB3, ha.below hB3⟩ (by omega) (by have := hR2.out; omega) (by omega) (by have := hR2.out; omega)).mono ?_
    rintro e w4 ⟨v4, rfl, ⟨x4, y4, rfl, ho4, hp4, ha4⟩, hb4⟩
    have hB4 := hB3.trans (hb4.mono hB3.size)
    have z4 := z2.below hb4
    have s34 := z2.lt
    have r4 := r1.below hb4
    have lr4 := r4.lt
    have lz4 := z4.lt
    have sB3 := hB3.size
    have sb4 := hb4.size
    have hxl := ho4.lt
    have hyl := hp4.lt
    clear z1 z2 r1
    obtain ⟨g, cap, rfl, hg1, hg2, hg3, hg4⟩ := hp4.block (by omega)
    unfold maxLen at hg4
    go_wp2_with (first
      | (refine al_mc rfl rfl ?_; intro w5 z5 hB5; have lz5 := z5.lt; have r5 := r4.below hB5; have z5' := z4.below hB5; have hp5 := hp4.below hB5; have ho5 := ho4.below hB5)
      | (refine st_mc rfl rfl rfl rfl z5 (one_own ho4) (one_own hp4) ?_; intro w6 r6 o6 s6; have k6 := (cw r6).va; have hp6 := hp5.onto o6 (fun e => by have := hyl _ e; omega); have ho6 := ho5.onto o6 (fun e => by have := hxl _ e; omega); have hc6 := hp6.cellAt (j := k) hkl; have hf6 := hp6.free k; have z6 := z5'.onto o6 (by omega))
      | (go_at_call 185; refine (inRam_impl _ _).mono ?_; rintro e w3 ⟨rfl, rfl⟩; rw [hi])
      | (refine ld_mc rfl rfl rfl (r6.setOther ⟨g, k, none⟩ (.int .i64 n) (show w4.heap.size ≠ g by omega)) ?_)
      | (refine st_mc rfl rfl rfl rfl (z6.setOther ⟨g, k, none⟩ (.int .i64 n) (show w0.heap.size ≠ g by omega)) (one_own ho4) rfl ?_; intro w7 r7 o7 s7))
    refine ret_mc rfl rfl r7 rfl ?_
    have hst := hp6.store k n
    have ho7 := ho6.grown hst.2 (fun j hj e => by cases hj; exact ha4 g e rfl)
    have hB5' := hB4.trans (hB5.mono hB4.size)
    have hB6 := below_onto hB5' o6 (by have := hB4.size; omega)
    have hB7 := hB6.setCell (p := ⟨g, k, none⟩) (by have := hyl g rfl; show w.heap.size ≤ g; omega) (.int .i64 n)
    refine ⟨_, rfl, ⟨x4, _, rfl, ?_, ?_, ha4⟩, below_onto hB7 o7 (by omega)⟩
    · exact (ho7.onto o7 (fun e => by have := hxl _ e; omega)).mono (by omega)
    · exact (hst.1.onto o7 (fun e => by simp [Value.ownBlock] at e; omega)).mono (by omega)
  · have hi : (decide (128 ≤ q) && decide (q < 192)) = false := by simp; omega
    rw [← laid_write hok hin hn']
    go_enter Tryz.func247, Tryz.ntmps247
    go_wp2_with (first
      | (refine box_m rfl rfl hv ?_; intro w0 r0 hB0)
      | (refine al_mc rfl rfl ?_; intro w1 z1 hB1; have r1 := r0.below hB1; have hB2 := hB0.trans (hB1.mono hB0.size); have l0 := r0.lt; have lz := z1.lt)
      | (refine ld_mc rfl rfl rfl r1 ?_)
      | (go_at_call 20; refine (machineOk_impl _ m _ ⟨vr, va, rfl, hr.below hB2, ha.below hB2⟩).mono ?_; rintro e w2 ⟨rfl, hb2⟩; rw [hok]; have hB3 := hB2.trans (hb2.mono hB2.size); have z2 := z1.below hb2; replace r1 := r1.below hb2)
      | (go_at_call 75; refine (byteOk_impl _ _).mono ?_; rintro e w3 ⟨rfl, rfl⟩; first | rw [hq] | rw [hn]))
    go_at_call 83
    refine (machineCopy_impl _ m _ ⟨vr, va, rfl, hr.below hB3, ha.below hB3⟩ (by omega) (by have := hR2.out; omega) (by omega) (by have := hR2.out; omega)).mono ?_
    rintro e w4 ⟨v4, rfl, ⟨x4, y4, rfl, ho4, hp4, ha4⟩, hb4⟩
    have hB4 := hB3.trans (hb4.mono hB3.size)
    have z4 := z2.below hb4
    have s34 := z2.lt
    have r4 := r1.below hb4
    have lr4 := r4.lt
    have lz4 := z4.lt
    have sB3 := hB3.size
    have sb4 := hb4.size
    have hxl := ho4.lt
    have hyl := hp4.lt
    clear z1 z2 r1
    go_wp2_with (first
      | (refine al_mc rfl rfl ?_; intro w5 z5 hB5; have lz5 := z5.lt; have r5 := r4.below hB5; have z5' := z4.below hB5; have hp5 := hp4.below hB5; have ho5 := ho4.below hB5; have hB5' := hB4.trans (hB5.mono hB4.size))
      | (refine st_mc rfl rfl rfl rfl z5 (one_own ho4) (one_own hp4) ?_; intro w6 r6 o6 s6; have hp6 := hp5.onto o6 (fun e => by have := hyl _ e; omega); have ho6 := ho5.onto o6 (fun e => by have := hxl _ e; omega); have z6 := z5'.onto o6 (by omega); have q6 := r5.onto o6 (by omega); have hB6 := below_onto hB5' o6 (by omega))
      | (go_at_call 185; refine (inRam_impl _ _).mono ?_; rintro e w3 ⟨rfl, rfl⟩; rw [hi])
      | (refine ld_mc rfl rfl rfl q6 ?_)
      | (go_at_call 186; refine (portsOf_impl _ m _ ⟨_, _, rfl, hr.below hB6, ha.below hB6⟩ hR3.1 hR3.2).mono ?_; rintro e w8 ⟨b8, rfl, hb8, hM8, hbe8⟩; have hB8 := hB6.trans (hbe8.mono hB6.size); have r8 := r6.below hbe8; have z8 := z6.below hbe8; have hp8 := hp6.below hbe8; have ho8 := ho6.below hbe8; have l8 := hM8.lt; have hxl6 := ho6.lt; have hyl6 := hp6.lt; have lr6 := r6.lt; have lz6 := z6.lt)
      | (refine del_at rfl rfl rfl rfl hM8 ?_; intro vd w9 hM9 o9; have r9 := r8.onto o9 (by omega); have z9 := z8.onto o9 (by omega); have hp9 := hp8.onto o9 (fun e => by have := hyl6 _ e; omega); have ho9 := ho8.onto o9 (fun e => by have := hxl6 _ e; omega); have hB9 := below_onto hB8 o9 (by have := hB6.size; omega))
      | (refine put_at rfl rfl rfl rfl rfl hM9 ?_; intro w10 hM10 o10; have r10 := r9.onto o10 (by omega); have z10 := z9.onto o10 (by omega); have hp10 := hp9.onto o10 (fun e => by have := hyl6 _ e; omega); have ho10 := ho9.onto o10 (fun e => by have := hxl6 _ e; omega); have hB10 := below_onto hB9 o10 (by have := hB6.size; omega))
      | (refine ld_mc rfl rfl rfl r10 ?_)
      | (go_at_call 260; refine (withPorts_impl _ m b8 (m.laid q n) _ _ ⟨x4, y4, rfl, ho10, hp10, ha4⟩ hM10 (laid_in hok hn') (by have := hB8.size; have := o9.size; have := o10.size; have := hbe8.size; omega)).mono ?_; rintro e w11 ⟨v11, rfl, ⟨x11, y11, rfl, ho11, hp11, ha11⟩, hb11⟩; have hB11 := hB10.trans (hb11.mono hB10.size); have z11 := z10.below hb11)
      | (refine st_mc rfl rfl rfl rfl z11 (one_own ho11) (one_own hp11) ?_; intro w7 r7 o7 s7))
    refine ret_mc rfl rfl r7 rfl ?_
    refine ⟨_, rfl, ⟨x11, y11, rfl, ?_, ?_, ha11⟩, below_onto hB11 o7 (by omega)⟩
    · exact (ho11.onto o7 (fun e => by have := (ho11.lt _ e).1; omega)).mono (by omega)
    · exact (hp11.onto o7 (fun e => by have := (hp11.lt _ e).1; omega)).mono (by omega)
end Go.Proofs.YtghmkacamabndaaGreatDoor.Mem
namespace Go.Proofs.YtghmkacamabndaaGreatDoor.Opl
open Go.ChangeShapes Go.WideShapes Go.RowKit Base

def ops : List (List UInt8 × Int × Int) := [([110, 111, 112], 1, 1), ([108, 100, 97], 2, 2), ([108, 100, 98], 2, 2), ([109, 97, 98], 1, 1), ([109, 98, 97], 1, 1), ([103, 101, 116], 2, 3), ([112, 117, 116], 2, 3), ([103, 105, 98], 1, 2), ([112, 105, 98], 1, 2), ([97, 100, 100], 2, 2), ([97, 100, 98], 1, 1), ([115, 117, 98], 2, 2), ([99, 109, 112], 2, 2), ([97, 110, 100], 2, 2), ([120, 111, 114], 2, 2), ([114, 111, 108], 1, 1), ([114, 111, 114], 1, 1), ([105, 110, 98], 1, 1), ([100, 101, 98], 1, 1), ([106, 109, 112], 2, 3), ([106, 112, 122], 2, 3), ([106, 110, 122], 2, 3), ([106, 112, 99], 2, 3), ([99, 97, 108], 2, 4), ([114, 101, 116], 1, 4), ([112, 115, 104], 1, 3), ([112, 111, 112], 1, 3), ([101, 110, 105], 1, 1), ([100, 105, 115], 1, 1), ([114, 116, 105], 1, 4), ([104, 108, 116], 1, 1)]
def cells3 (x : List UInt8 × Int × Int) : List Value := [.string ⟨x.1.toArray⟩, .int .i64 x.2.1, .int .i64 x.2.2]
def rows (l : List (List UInt8 × Int × Int)) : List Value := l.flatMap cells3
def line (k : Int) : List UInt8 × Int × Int := if 0 ≤ k ∧ k < 31 then ops.getD k.toNat ([], 0, 0) else ([], 0, 0)
def agg3 (x : List UInt8 × Int × Int) : Value := .agg (cells3 x).toArray

def OpsAt (w : World) : Prop := ∃ t fz, w.heap[0]? = some (.cells (rows ops).toArray t fz)

theorem rows_at : ∀ (l : List (List UInt8 × Int × Int)) (i j : Nat), i < l.length → j < 3 → (rows l)[i * 3 + j]? = (cells3 (l.getD i ([], 0, 0)))[j]?
  | [], i, j, hi, _ => by simp at hi
  | x :: l, 0, j, _, hj => by
    rcases j with _ | _ | _ | j
    · rfl
    · rfl
    · rfl
    · omega
  | x :: l, i + 1, j, hi, hj => by
    have ih := rows_at l i j (by simpa using hi) hj
    have e : (i + 1) * 3 + j = (cells3 x).length + (i * 3 + j) := by simp [cells3]; omega
    rw [e, rows, List.flatMap_cons, List.getElem?_append_right (by omega)]
    simpa [rows] using ih
theorem line_eq (k : Nat) (hk : k < 31) : line (k : Int) = ops.getD k ([], 0, 0) := by
  unfold line
  rw [if_pos (by omega)]
  simp
theorem tab_at {w : World} {b : Nat} {t : TypeId} {fz : Nat × Nat} (h : w.heap[b]? = some (.cells (rows ops).toArray t fz)) (k : Nat) (hk : k < 31) :
    w.cell? ⟨b, k * 3, none⟩ = some (.string ⟨(line k).1.toArray⟩) ∧ w.cell? ⟨b, k * 3 + 1, none⟩ = some (.int .i64 (line k).2.1) ∧ w.cell? ⟨b, k * 3 + 2, none⟩ = some (.int .i64 (line k).2.2) := by
  have c : ∀ j, j < 3 → w.cell? ⟨b, k * 3 + j, none⟩ = (cells3 (line k))[j]? := fun j hj => by
    rw [cell_of_row w b (k * 3 + j) _ t fz h, line_eq k hk, ← rows_at ops k j hk hj]
    simp
  exact ⟨c 0 (by omega), c 1 (by omega), c 2 (by omega)⟩

theorem line_no (k : Int) (hk : ¬ (0 ≤ k ∧ k < 31)) : agg3 (line k) = .agg #[.string ⟨#[]⟩, .int .i64 0, .int .i64 0] := by
  unfold line
  rw [if_neg hk]
  rfl
theorem OpsAt.below {w w' : World} (h : OpsAt w) (hb : Below w.heap.size w w') : OpsAt w' := by
  obtain ⟨t, fz, h⟩ := h
  exact ⟨t, fz, by rw [hb.block 0 (by
    by_cases h0 : 0 < w.heap.size
    · exact h0
    · simp at h0; simp [h0] at h)]; exact h⟩
theorem OpsAt.lt {w : World} (h : OpsAt w) : 0 < w.heap.size := by
  obtain ⟨t, fz, h⟩ := h
  by_cases h0 : 0 < w.heap.size
  · exact h0
  · simp at h0; simp [h0] at h
theorem und_line : Tryz.prog.underlying 189 = some (.struct #[{ name := "name", type := 9, offset := 0, embedded := false, tag := "", pkgPath := "loop.example/g00741/impl", byteOffset := 0 }, { name := "size", type := 2, offset := 1, embedded := false, tag := "", pkgPath := "loop.example/g00741/impl", byteOffset := 16 }, { name := "cost", type := 2, offset := 2, embedded := false, tag := "", pkgPath := "loop.example/g00741/impl", byteOffset := 24 }]) := by kernel_rfl

theorem lineOf_no (k : Int) (w : World) (hk : ¬ (0 ≤ k ∧ k < 31)) :
    Calls Tryz.prog 187 #[.int .i64 k] w fun e w' => e = .returned (agg3 (line k)) ∧ Below w.heap.size w w' := by
  rw [line_no k hk]
  by_cases h0 : k < 0
  · go_enter Tryz.func187, Tryz.ntmps187
    go_wp2
    (try simp only [Exit.inBlock, Exit.then]); refine bodyPost_ret (results_cell_row rfl _ _ w.heap.size _ _ _ _ rfl (heap_alloc_new _ _) und_line rfl (by kernel_rfl)) rfl ?_
    exact ⟨rfl, (Below.refl _ _).alloc (Nat.le_refl _) _⟩
  · have h1 : 31 ≤ k := by omega
    go_enter Tryz.func187, Tryz.ntmps187
    go_wp2
    (try simp only [Exit.inBlock, Exit.then]); refine bodyPost_ret (results_cell_row rfl _ _ w.heap.size _ _ _ _ rfl (heap_alloc_new _ _) und_line rfl (by kernel_rfl)) rfl ?_
    exact ⟨rfl, (Below.refl _ _).alloc (Nat.le_refl _) _⟩
theorem lineOf_yes (k : Nat) (w : World) (hk : k < 31) (ho : OpsAt w) :
    Calls Tryz.prog 187 #[.int .i64 k] w fun e w' => e = .returned (agg3 (line k)) ∧ Below w.heap.size w w' := by
  have h0 : ¬ (k : Int) < 0 := by omega
  have h1 : ¬ 31 ≤ (k : Int) := by omega
  have hl := ho.lt
  obtain ⟨t, fz, hh⟩ := ho
  obtain ⟨c0, c1, c2⟩ := tab_at hh k hk
  clear hh
  have ha : agg3 (line k) = .agg #[.string ⟨(line k).1.toArray⟩, .int .i64 (line k).2.1, .int .i64 (line k).2.2] := rfl
  rw [ha]
  generalize line k = L at *
  go_enter Tryz.func187, Tryz.ntmps187
  go_wp2
  (try simp only [Exit.inBlock, Exit.then]); refine bodyPost_ret (results_cell_row rfl _ _ w.heap.size _ _ _ _ rfl (heap_alloc_new _ _) und_line rfl (by kernel_rfl)) rfl ?_
  exact ⟨rfl, (Below.refl _ _).alloc (Nat.le_refl _) _⟩
set_option maxHeartbeats 4000000 in
set_option maxRecDepth 100000 in
theorem l3Table_any (w : World) :
    Calls Tryz.prog 253 #[] w fun e w' => e = .returned (.slice (some ⟨w.heap.size, 0, none⟩) 31 31) ∧ w' = w.alloc (.cells (rows ops).toArray 200) := by
  go_enter Tryz.func253, Tryz.ntmps253
  go_wp2
  go_ret
  exact ⟨rfl, rfl⟩
end Go.Proofs.YtghmkacamabndaaGreatDoor.Opl
namespace Go.Proofs.YtghmkacamabndaaGreatDoor.Opl
open Go.ChangeShapes Go.WideShapes Go.RowKit Base

theorem und_l3 : Tryz.prog.underlying 200 = some (.struct #[{ name := "name", type := 9, offset := 0, embedded := false, tag := "", pkgPath := "loop.example/g00741/spec", byteOffset := 0 }, { name := "size", type := 2, offset := 1, embedded := false, tag := "", pkgPath := "loop.example/g00741/spec", byteOffset := 16 }, { name := "cost", type := 2, offset := 2, embedded := false, tag := "", pkgPath := "loop.example/g00741/spec", byteOffset := 24 }]) := by kernel_rfl

theorem in_any (n lo hi : Int) (w : World) :
    Calls Tryz.prog 123 #[.int .i64 n, .int .i64 lo, .int .i64 hi] w fun e w' => e = .returned (.bool (decide (lo ≤ n) && decide (n ≤ hi))) ∧ w' = w := by
  by_cases h0 : lo ≤ n
  · go_enter Tryz.func123, Tryz.ntmps123
    go_wp2
    go_ret
    exact ⟨ret_bool (by simp [h0]), rfl⟩
  · go_enter Tryz.func123, Tryz.ntmps123
    go_wp2
    go_ret
    exact ⟨ret_bool (by simp; omega), rfl⟩

theorem rows3 (k : Nat) (hk : k < 31) : (rows ops)[k * 3]? = some (.string ⟨(line k).1.toArray⟩) ∧ (rows ops)[k * 3 + 1]? = some (.int .i64 (line k).2.1) ∧ (rows ops)[k * 3 + 2]? = some (.int .i64 (line k).2.2) := by
  rw [line_eq k hk]
  exact ⟨rows_at ops k 0 hk (by omega), rows_at ops k 1 hk (by omega), rows_at ops k 2 hk (by omega)⟩
theorem l3Of_any (k : Int) (w : World) :
    Calls Tryz.prog 235 #[.int .i64 k] w fun e w' => e = .returned (agg3 (line k)) ∧ Below w.heap.size w w' := by
  by_cases hk : 0 ≤ k ∧ k < 31
  · obtain ⟨k, rfl⟩ := Int.eq_ofNat_of_zero_le hk.1
    have hk : k < 31 := by omega
    have h0 : (decide ((0 : Int) ≤ (k : Int)) && decide ((k : Int) ≤ 30)) = true := by simp; omega
    have ha : agg3 (line k) = .agg #[.string ⟨(line k).1.toArray⟩, .int .i64 (line k).2.1, .int .i64 (line k).2.2] := rfl
    rw [ha]
    obtain ⟨c0, c1, c2⟩ := rows3 k hk
    go_enter Tryz.func235, Tryz.ntmps235
    go_wp2_with (first
      | (go_at_call 253; refine (l3Table_any _).mono ?_; rintro e w1 ⟨rfl, rfl⟩)
      | (go_at_call 123; refine (in_any _ _ _ _).mono ?_; rw [h0]; rintro e w2 ⟨rfl, rfl⟩))
    (try simp only [Exit.inBlock, Exit.then]); refine bodyPost_ret (results_cell_row rfl _ _ w.heap.size _ _ _ _ rfl (heap_alloc2_old _ _ _) und_l3 rfl (by kernel_rfl)) rfl ?_
    exact ⟨rfl, ((Below.refl _ _).alloc (Nat.le_refl _) _).alloc (by simp) _⟩
  · rw [line_no k hk]
    have h0 : (decide ((0 : Int) ≤ k) && decide (k ≤ 30)) = false := by simp; omega
    go_enter Tryz.func235, Tryz.ntmps235
    go_wp2_with (first
      | (go_at_call 253; refine (l3Table_any _).mono ?_; rintro e w1 ⟨rfl, rfl⟩)
      | (go_at_call 123; refine (in_any _ _ _ _).mono ?_; rw [h0]; rintro e w2 ⟨rfl, rfl⟩))
    (try simp only [Exit.inBlock, Exit.then]); refine bodyPost_ret (results_cell_row rfl _ _ w.heap.size _ _ _ _ rfl (heap_alloc2_old _ _ _) und_l3 rfl (by kernel_rfl)) rfl ?_
    exact ⟨rfl, ((Below.refl _ _).alloc (Nat.le_refl _) _).alloc (by simp) _⟩
theorem field_i1 (a b c : Value) (w : World) : (Instr.field 189 (.agg #[a, b, c]) 1).run Tryz.prog w = .ok b w := by kernel_rfl
theorem field_i2 (a b c : Value) (w : World) : (Instr.field 189 (.agg #[a, b, c]) 2).run Tryz.prog w = .ok c w := by kernel_rfl
theorem field_s1 (a b c : Value) (w : World) : (Instr.field 200 (.agg #[a, b, c]) 1).run Tryz.prog w = .ok b w := by kernel_rfl
theorem field_s2 (a b c : Value) (w : World) : (Instr.field 200 (.agg #[a, b, c]) 2).run Tryz.prog w = .ok c w := by kernel_rfl
theorem lineOf_any (k : Int) (w : World) (ho : OpsAt w) :
    Calls Tryz.prog 187 #[.int .i64 k] w fun e w' => e = .returned (agg3 (line k)) ∧ Below w.heap.size w w' := by
  by_cases hk : 0 ≤ k ∧ k < 31
  · obtain ⟨k, rfl⟩ := Int.eq_ofNat_of_zero_le hk.1
    exact lineOf_yes k w (by omega) ho
  · exact lineOf_no k w hk
theorem sizeOf_impl (k : Int) (w : World) (ho : OpsAt w) :
    Calls Tryz.prog 157 #[.int .i64 k] w fun e w' => e = .returned (.int .i64 (line k).2.1) ∧ Below w.heap.size w w' := by
  have hf := field_i1
  go_enter Tryz.func157, Tryz.ntmps157
  go_wp2_with (go_at_call 187; refine (lineOf_any _ _ ho).mono ?_; rintro e w1 ⟨he, hb⟩; simp only [agg3, cells3] at he; subst he)
  go_ret
  exact ⟨rfl, hb⟩
theorem costOf_impl (k : Int) (w : World) (ho : OpsAt w) :
    Calls Tryz.prog 160 #[.int .i64 k] w fun e w' => e = .returned (.int .i64 (line k).2.2) ∧ Below w.heap.size w w' := by
  have hf := field_i2
  go_enter Tryz.func160, Tryz.ntmps160
  go_wp2_with (go_at_call 187; refine (lineOf_any _ _ ho).mono ?_; rintro e w1 ⟨he, hb⟩; simp only [agg3, cells3] at he; subst he)
  go_ret
  exact ⟨rfl, hb⟩
theorem sizeOf_spec (k : Int) (w : World) :
    Calls Tryz.prog 174 #[.int .i64 k] w fun e w' => e = .returned (.int .i64 (line k).2.1) ∧ Below w.heap.size w w' := by
  have hf := field_s1
  go_enter Tryz.func174, Tryz.ntmps174
  go_wp2_with (go_at_call 235; refine (l3Of_any _ _).mono ?_; rintro e w1 ⟨he, hb⟩; simp only [agg3, cells3] at he; subst he)
  go_ret
  exact ⟨rfl, hb⟩
theorem costOf_spec (k : Int) (w : World) :
    Calls Tryz.prog 176 #[.int .i64 k] w fun e w' => e = .returned (.int .i64 (line k).2.2) ∧ Below w.heap.size w w' := by
  have hf := field_s2
  go_enter Tryz.func176, Tryz.ntmps176
  go_wp2_with (go_at_call 235; refine (l3Of_any _ _).mono ?_; rintro e w1 ⟨he, hb⟩; simp only [agg3, cells3] at he; subst he)
  go_ret
  exact ⟨rfl, hb⟩
def nm (i : Nat) : List UInt8 := (line i).1
end Go.Proofs.YtghmkacamabndaaGreatDoor.Opl
namespace Go.Proofs.YtghmkacamabndaaGreatDoor.Mem
open Go.ChangeShapes Go.WideShapes Go.RowKit Base Num Slc Rw Tmr Srl Rom RomOf Opl

def outs (q n : Int) : Int := if q = 249 then n else -1
def Mc.psh (m : Mc) (n : Int) : Mc := ({ m with sp := (m.sp + 255) % 256 } : Mc).write ((m.sp + 255) % 256) n
def Mc.pshOut (m : Mc) (n : Int) : Int := outs ((m.sp + 255) % 256) n
def Mc.popd (m : Mc) : Mc := { m with sp := (m.sp + 1) % 256 }
def Mc.top (m : Mc) : Int := m.read m.sp
def Mc.alu (m : Mc) (x : Int) (c : Bool) : Mc := { m with a := x, z := x == 0, c := c }
def Mc.cmp (m : Mc) (x : Int) (c : Bool) : Mc := { m with z := x == 0, c := c }
def Mc.cntB (m : Mc) (x : Int) : Mc := { m with b := x, z := x == 0, c := false }
def Mc.jmp (m : Mc) (n : Int) (is : Bool) : Mc := if is then { m with pc := n } else m
def Mc.does (m : Mc) (n : Int) : Nat → Mc × Int
  | 1 => ({ m with a := n }, -1)
  | 2 => ({ m with b := n }, -1)
  | 3 => ({ m with a := m.b }, -1)
  | 4 => ({ m with b := m.a }, -1)
  | 5 => ({ m with a := m.read n }, -1)
  | 6 => (m.write n m.a, outs n m.a)
  | 7 => ({ m with a := m.read m.b }, -1)
  | 8 => (m.write m.b m.a, outs m.b m.a)
  | 9 => (m.alu (addB m.a n) (addC m.a n), -1)
  | 10 => (m.alu (addB m.a m.b) (addC m.a m.b), -1)
  | 11 => (m.alu (subB m.a n) (subC m.a n), -1)
  | 12 => (m.cmp (subB m.a n) (subC m.a n), -1)
  | 13 => (m.alu (bits .and .i64 m.a n) false, -1)
  | 14 => (m.alu (bits .xor .i64 m.a n) false, -1)
  | 15 => (m.alu (turnLB m.a) (turnLC m.a), -1)
  | 16 => (m.alu (turnRB m.a) (turnRC m.a), -1)
  | 17 => (m.cntB (addB m.b 1), -1)
  | 18 => (m.cntB (subB m.b 1), -1)
  | 19 => (m.jmp n true, -1)
  | 20 => (m.jmp n m.z, -1)
  | 21 => (m.jmp n (!m.z), -1)
  | 22 => (m.jmp n m.c, -1)
  | 23 => ({ m.psh m.pc with pc := n }, m.pshOut m.pc)
  | 24 => ({ m.popd with pc := m.top }, -1)
  | 25 => (m.psh m.a, m.pshOut m.a)
  | 26 => ({ m.popd with a := m.top }, -1)
  | 27 => ({ m with e := true }, -1)
  | 28 => ({ m with e := false }, -1)
  | 29 => ({ m.popd with pc := m.top, e := true }, -1)
  | 30 => ({ m with h := true }, -1)
  | _ => (m, -1)
def Mc.code (m : Mc) : Int := m.read m.pc
def Mc.size' (m : Mc) : Int := (line m.code).2.1
def Mc.opnd (m : Mc) : Int := m.read ((m.pc + 1) % 256)
def Mc.onw (m : Mc) : Mc := { m with pc := (m.pc + m.size') % 256 }
def Mc.exec (m : Mc) : Mc × Int × Int :=
  if m.h || m.s then (m, 1, -1) else if m.size' = 0 then ({ m with s := true }, 1, -1)
  else ((m.onw.does m.opnd m.code.toNat).1, (line m.code).2.2, (m.onw.does m.opnd m.code.toNat).2)
def Mc.execd (m : Mc) : Mc × Int × Int := if m.ok then m.exec else (Mc.nul, 0, -1)

/-! What is right stays right. -/
structure Okm (m : Mc) : Prop where
  rom : romOk m.rom = true
  len : m.ram.length = 64
  ram : m.ram.all bok = true
  a : bok m.a = true
  b : bok m.b = true
  pc : bok m.pc = true
  sp : bok m.sp = true
  fl : inn m.fl 0 7 = true
  ms : inn m.ms 0 7 = true
  ky : bok m.ky = true
  t : m.t.ok = true
  p : m.p.ok = true
  k : m.k = m.t.c
theorem okm {m : Mc} : m.ok = true ↔ Okm m := by
  constructor
  · intro h
    simp only [Mc.ok, Bool.and_eq_true, decide_eq_true_eq, beq_iff_eq] at h
    obtain ⟨⟨⟨⟨⟨⟨⟨⟨⟨⟨⟨⟨h1, h2⟩, h3⟩, h4⟩, h5⟩, h6⟩, h7⟩, h8⟩, h9⟩, h10⟩, h11⟩, h12⟩, h13⟩ := h
    exact ⟨h1, h2, h3, h4, h5, h6, h7, h8, h9, h10, h11, h12, h13⟩
  · rintro ⟨h1, h2, h3, h4, h5, h6, h7, h8, h9, h10, h11, h12, h13⟩
    simp only [Mc.ok, Bool.and_eq_true, decide_eq_true_eq, beq_iff_eq]
    exact ⟨⟨⟨⟨⟨⟨⟨⟨⟨⟨⟨⟨h1, h2⟩, h3⟩, h4⟩, h5⟩, h6⟩, h7⟩, h8⟩, h9⟩, h10⟩, h11⟩, h12⟩, h13⟩
theorem bok_iff {n : Int} : bok n = true ↔ 0 ≤ n ∧ n ≤ 255 := by simp [bok]
theorem bok_mod (n : Int) : bok (n % 256) = true := bok_iff.2 (by omega)
theorem getD_bok {l : List Int} (h : l.all bok = true) {i : Nat} (hi : i < l.length) : bok (l.getD i 0) = true := by
  rw [List.getD_eq_getElem?_getD, List.getElem?_eq_getElem hi]
  exact List.all_eq_true.1 h _ (List.getElem_mem hi)
theorem read_ok {m : Mc} (h : m.ok = true) (q : Int) (hq : 0 ≤ q) : bok (m.read q) = true := by
  have h0 := h
  obtain ⟨h1, h2, h3, h4, h5, h6, h7⟩ := Mc.ok_more h0
  have hk := okm.1 h
  have hrom : m.rom.all bok = true := by
    have := hk.rom
    simp only [romOk, Bool.and_eq_true] at this
    exact this.1.2
  unfold Mc.read
  by_cases e1 : q < 128
  · rw [if_pos e1]
    by_cases e2 : q < m.rom.length
    · rw [if_pos e2]; exact getD_bok hrom (by omega)
    · rw [if_neg e2]; rfl
  rw [if_neg e1]
  by_cases e2 : q < 192
  · rw [if_pos e2]; exact getD_bok hk.ram (by have := hk.len; omega)
  rw [if_neg e2]
  refine bok_iff.2 ?_
  have hf : ∀ b : Bool, 0 ≤ flag b ∧ flag b ≤ 1 := fun b => by cases b <;> simp [flag]
  have f1 := hf m.p.b
  have f2 := hf m.p.l
  repeat' split
  all_goals omega
theorem start_ok {s : Sr} (h : s.ok = true) (lead : Bool) (now : Int) : (s.start lead now).ok = true := by
  unfold Sr.start
  by_cases hs : s.starts lead now = true
  · rw [if_pos hs]
    have hd : bok s.d = true := by simp only [Sr.ok, Bool.and_eq_true] at h; exact h.1.1.1.1
    simp only [Sr.starts, Bool.and_eq_true] at hs
    cases lead
    · simp [Sr.ok, hd, clk, inn]
    · have := inn_true hs.2
      simp at this
      simp [Sr.ok, hd, clk, inn]
      omega
  · rw [if_neg hs]; rfl
theorem write_ok {m : Mc} (h : m.ok = true) (q n : Int) (hn : bok n = true) : (m.write q n).ok = true := by
  have hk := okm.1 h
  have hn' := bok_iff.1 hn
  have h8 : inn (n % 8) 0 7 = true := by simp [inn]; omega
  unfold Mc.write
  by_cases c : 128 ≤ q ∧ q < 192
  · rw [if_pos c]
    refine okm.2 { hk with len := by simpa using hk.len, ram := ?_ }
    rw [List.all_eq_true]
    intro x hx
    rcases List.mem_or_eq_of_mem_set hx with h | h
    · exact List.all_eq_true.1 hk.ram x h
    · rw [h]; exact hn
  rw [if_neg c]
  have hp := hk.p
  by_cases c0 : q = 240
  · rw [if_pos c0]
    refine okm.2 { hk with p := ?_ }
    simp only [Sr.ok, Bool.and_eq_true] at hp ⊢
    exact ⟨⟨⟨⟨hn, hp.1.1.1.2⟩, hp.1.1.2⟩, hp.1.2⟩, hp.2⟩
  rw [if_neg c0]
  by_cases c1 : q = 241
  · rw [if_pos c1]
    refine okm.2 { hk with p := ?_ }
    show (if 127 < n then m.p.start (n % 2 == 1) m.k else ⟨m.p.d, false, false, 0, 0, false⟩ : Sr).ok = true
    by_cases c2 : 127 < n
    · rw [if_pos c2]; exact start_ok hp _ _
    · rw [if_neg c2]
      have hd : bok m.p.d = true := by simp only [Sr.ok, Bool.and_eq_true] at hp; exact hp.1.1.1.1
      simp [Sr.ok, hd, clk, inn]
  rw [if_neg c1]
  have ht := hk.t
  simp only [Tm.ok, Bool.and_eq_true] at ht
  by_cases c3 : q = 243
  · rw [if_pos c3]
    refine okm.2 { hk with t := ?_ }
    simp only [Tm.ok, Bool.and_eq_true]
    exact ⟨⟨⟨ht.1.1.1, hn⟩, ht.1.2⟩, ht.2⟩
  rw [if_neg c3]
  by_cases c4 : q = 244
  · rw [if_pos c4]
    refine okm.2 { hk with t := ?_ }
    simp only [Tm.ok, Bool.and_eq_true]
    exact ⟨⟨⟨ht.1.1.1, ht.1.1.2⟩, hn⟩, ht.2⟩
  rw [if_neg c4]
  by_cases c5 : q = 245
  · rw [if_pos c5]
    refine okm.2 { hk with t := ?_ }
    simp only [Tm.ok, Bool.and_eq_true]
    exact ⟨⟨⟨ht.1.1.1, ht.1.1.2⟩, ht.1.2⟩, h8⟩
  rw [if_neg c5]
  by_cases c6 : q = 246
  · rw [if_pos c6]; exact okm.2 { hk with fl := h8 }
  rw [if_neg c6]
  by_cases c7 : q = 247
  · rw [if_pos c7]; exact okm.2 { hk with ms := h8 }
  rw [if_neg c7]
  exact h
theorem write_out (m : Mc) (n : Int) : m.write 249 n = m := by simp [Mc.write]
theorem write_rest (m : Mc) (q n : Int) : (m.write q n).k = m.k ∧ (m.write q n).t.c = m.t.c := by
  unfold Mc.write
  repeat' split
  all_goals exact ⟨rfl, rfl⟩
theorem ok_sp {m : Mc} (h : m.ok = true) (n : Int) : ({ m with sp := n % 256 } : Mc).ok = true := okm.2 { okm.1 h with sp := bok_mod n }
theorem ok_pc {m : Mc} (h : m.ok = true) {n : Int} (hn : bok n = true) : ({ m with pc := n } : Mc).ok = true := okm.2 { okm.1 h with pc := hn }
theorem ok_a {m : Mc} (h : m.ok = true) {n : Int} (hn : bok n = true) : ({ m with a := n } : Mc).ok = true := okm.2 { okm.1 h with a := hn }
theorem psh_ok {m : Mc} (h : m.ok = true) {n : Int} (hn : bok n = true) : (m.psh n).ok = true := write_ok (ok_sp h _) _ _ hn
theorem popd_ok {m : Mc} (h : m.ok = true) : m.popd.ok = true := ok_sp h _
theorem top_ok {m : Mc} (h : m.ok = true) : bok m.top = true := read_ok h _ (bok_iff.1 (okm.1 h).sp).1
theorem alu_ok {m : Mc} (h : m.ok = true) {n : Int} (hn : bok n = true) (c : Bool) : (m.alu n c).ok = true := okm.2 { okm.1 h with a := hn }
theorem cmp_ok {m : Mc} (h : m.ok = true) (n : Int) (c : Bool) : (m.cmp n c).ok = true := okm.2 { okm.1 h with }
theorem cntB_ok {m : Mc} (h : m.ok = true) {n : Int} (hn : bok n = true) : (m.cntB n).ok = true := okm.2 { okm.1 h with b := hn }
theorem jmp_ok {m : Mc} (h : m.ok = true) {n : Int} (hn : bok n = true) (c : Bool) : (m.jmp n c).ok = true := by
  cases c
  · exact h
  · exact ok_pc h hn
theorem jmp_rest (m : Mc) (n : Int) (c : Bool) : (m.jmp n c).k = m.k ∧ (m.jmp n c).t.c = m.t.c := by cases c <;> exact ⟨rfl, rfl⟩
theorem addB_ok (a b : Int) : bok (addB a b) = true := by
  unfold addB; split
  · exact bok_mod _
  · rfl
theorem subB_ok (a b : Int) : bok (subB a b) = true := by
  unfold subB; split
  · exact bok_mod _
  · rfl
theorem turnLB_ok (a : Int) : bok (turnLB a) = true := by
  unfold turnLB; split
  · rename_i h; have := bok_iff.1 h; exact bok_iff.2 (by omega)
  · rfl
theorem turnRB_ok (a : Int) : bok (turnRB a) = true := by
  unfold turnRB; split
  · rename_i h; have := bok_iff.1 h; exact bok_iff.2 (by omega)
  · rfl
theorem and_ok {a n : Int} (hn : bok n = true) : bok (bits .and .i64 a n) = true := by
  have hn' := bok_iff.1 hn
  have := and_mask a n hn'.1 (by omega)
  exact bok_iff.2 (by omega)
theorem xor_ok {a n : Int} (ha : bok a = true) (hn : bok n = true) : bok (bits .xor .i64 a n) = true := by
  have ha' := bok_iff.1 ha
  have hn' := bok_iff.1 hn
  have h1 : (BitVec.ofInt 64 a).toNat = a.toNat := by rw [BitVec.toNat_ofInt]; omega
  have h2 : (BitVec.ofInt 64 n).toNat = n.toNat := by rw [BitVec.toNat_ofInt]; omega
  have hle : (BitVec.ofInt 64 a ^^^ BitVec.ofInt 64 n).toNat < 256 := by
    rw [BitVec.toNat_xor, h1, h2]
    exact Nat.xor_lt_two_pow (n := 8) (by omega) (by omega)
  show bok (IntKind.i64.wrap ((BitVec.ofInt 64 a ^^^ BitVec.ofInt 64 n).toNat : Int)) = true
  generalize (BitVec.ofInt 64 a ^^^ BitVec.ofInt 64 n).toNat = r at hle
  have e : IntKind.i64.wrap (r : Int) = (r : Int) := by
    simp [IntKind.wrap, IntKind.bits, IntKind.signed]
    omega
  rw [e]
  exact bok_iff.2 (by omega)
def Like (m x : Mc) : Prop := x.ok = true ∧ x.k = m.k ∧ x.t.c = m.t.c
theorem does_like {m : Mc} (h : m.ok = true) {n : Int} (hn : bok n = true) (k : Nat) : Like m (m.does n k).1 := by
  have hk := okm.1 h
  have hb := read_ok h m.b (bok_iff.1 hk.b).1
  have hr := read_ok h n (bok_iff.1 hn).1
  have ht := top_ok h
  match k with
  | 0 => exact ⟨h, rfl, rfl⟩
  | 1 => exact ⟨ok_a h hn, rfl, rfl⟩
  | 2 => exact ⟨okm.2 { hk with b := hn }, rfl, rfl⟩
  | 3 => exact ⟨ok_a h hk.b, rfl, rfl⟩
  | 4 => exact ⟨okm.2 { hk with b := hk.a }, rfl, rfl⟩
  | 5 => exact ⟨ok_a h hr, rfl, rfl⟩
  | 6 => exact ⟨write_ok h _ _ hk.a, write_rest _ _ _⟩
  | 7 => exact ⟨ok_a h hb, rfl, rfl⟩
  | 8 => exact ⟨write_ok h _ _ hk.a, write_rest _ _ _⟩
  | 9 => exact ⟨alu_ok h (addB_ok _ _) _, rfl, rfl⟩
  | 10 => exact ⟨alu_ok h (addB_ok _ _) _, rfl, rfl⟩
  | 11 => exact ⟨alu_ok h (subB_ok _ _) _, rfl, rfl⟩
  | 12 => exact ⟨cmp_ok h _ _, rfl, rfl⟩
  | 13 => exact ⟨alu_ok h (and_ok hn) _, rfl, rfl⟩
  | 14 => exact ⟨alu_ok h (xor_ok hk.a hn) _, rfl, rfl⟩
  | 15 => exact ⟨alu_ok h (turnLB_ok _) _, rfl, rfl⟩
  | 16 => exact ⟨alu_ok h (turnRB_ok _) _, rfl, rfl⟩
  | 17 => exact ⟨cntB_ok h (addB_ok _ _), rfl, rfl⟩
  | 18 => exact ⟨cntB_ok h (subB_ok _ _), rfl, rfl⟩
  | 19 => exact ⟨jmp_ok h hn _, rfl, rfl⟩
  | 20 => exact ⟨jmp_ok h hn _, jmp_rest _ _ _⟩
  | 21 => exact ⟨jmp_ok h hn _, jmp_rest _ _ _⟩
  | 22 => exact ⟨jmp_ok h hn _, jmp_rest _ _ _⟩
  | 23 => exact ⟨ok_pc (psh_ok h hk.pc) hn, write_rest _ _ _⟩
  | 24 => exact ⟨ok_pc (popd_ok h) ht, rfl, rfl⟩
  | 25 => exact ⟨psh_ok h hk.a, write_rest _ _ _⟩
  | 26 => exact ⟨ok_a (popd_ok h) ht, rfl, rfl⟩
  | 27 => exact ⟨okm.2 { hk with }, rfl, rfl⟩
  | 28 => exact ⟨okm.2 { hk with }, rfl, rfl⟩
  | 29 => exact ⟨okm.2 { okm.1 (popd_ok h) with pc := ht }, rfl, rfl⟩
  | 30 => exact ⟨okm.2 { hk with }, rfl, rfl⟩
  | k + 31 => exact ⟨h, rfl, rfl⟩
theorem opnd_ok {m : Mc} (h : m.ok = true) : bok m.opnd = true := read_ok h _ (by omega)
theorem onw_ok {m : Mc} (h : m.ok = true) : m.onw.ok = true := ok_pc h (bok_mod _)
theorem exec_like {m : Mc} (h : m.ok = true) : Like m m.exec.1 := by
  unfold Mc.exec
  split
  · exact ⟨h, rfl, rfl⟩
  split
  · exact ⟨okm.2 { okm.1 h with }, rfl, rfl⟩
  · exact does_like (onw_ok h) (opnd_ok h) _
theorem size_in (k : Nat) (hk : k < 31) : (line (k : Int)).2.1 = 1 ∨ (line (k : Int)).2.1 = 2 := by
  rw [line_eq k hk]
  have : ∀ i : Fin 31, (ops.getD i.val ([], 0, 0)).2.1 = 1 ∨ (ops.getD i.val ([], 0, 0)).2.1 = 2 := by decide +kernel
  exact this ⟨k, hk⟩
theorem size_no (k : Int) (hk : ¬ (0 ≤ k ∧ k < 31)) : line k = ([], 0, 0) := by unfold line; rw [if_neg hk]
theorem does_one (m : Mc) (n n' : Int) (k : Nat) (hk : k < 31) (h : (line (k : Int)).2.1 ≠ 2) : m.does n k = m.does n' k := by
  rw [line_eq k hk] at h
  have : ∀ i : Fin 31, (ops.getD i.val ([], 0, 0)).2.1 = 2 ∨ i.val ∈ [0, 3, 4, 7, 8, 10, 15, 16, 17, 18, 24, 25, 26, 27, 28, 29, 30] := by decide +kernel
  have h' := (this ⟨k, hk⟩).resolve_left h
  simp only [List.mem_cons, List.not_mem_nil, or_false] at h'
  rcases h' with rfl | rfl | rfl | rfl | rfl | rfl | rfl | rfl | rfl | rfl | rfl | rfl | rfl | rfl | rfl | rfl | rfl <;> simp only [Mc.does]
theorem sub_one {n : Int} (h : bok n = true) : subB n 1 = (n + 255) % 256 := by
  have := bok_iff.1 h
  have h1 : bok 1 = true := rfl
  simp only [subB, h, h1, Bool.and_self, if_true]
  omega
theorem add_one {n : Int} (h : bok n = true) : addB n 1 = (n + 1) % 256 := by
  have h1 : bok 1 = true := rfl
  simp only [addB, h, h1, Bool.and_self, if_true]
theorem readAt_ok {m : Mc} (h : m.ok = true) {q : Int} (hq : bok q = true) : m.readAt q = m.read q := by simp [Mc.readAt, h, hq]
theorem writtenAt_ok {m : Mc} (h : m.ok = true) {q n : Int} (hq : bok q = true) (hn : bok n = true) : m.writtenAt q n = m.write q n := by simp [Mc.writtenAt, h, hq, hn]
end Go.Proofs.YtghmkacamabndaaGreatDoor.Mem
namespace Go.Proofs.YtghmkacamabndaaGreatDoor.Mem
open Go.ChangeShapes Go.WideShapes Go.RowKit Base Num Slc Rw Tmr Srl Rom RomOf Opl

end Go.Proofs.YtghmkacamabndaaGreatDoor.Mem
namespace Go.Proofs.YtghmkacamabndaaGreatDoor.Mem
open Go.ChangeShapes Go.WideShapes Go.RowKit Base Num Slc Rw Tmr Srl Rom RomOf

set_option maxHeartbeats 1000000 in
theorem l6Copy_spec (v : Value) (m : Mc) (w : World) (hm : MSl w v m) (h1 : m.rom.length ≤ 4000000) (h2 : m.ram.length ≤ 4000000) :
    Calls Tryz.prog 57 #[v] w fun e w' => ∃ v', e = .returned v' ∧ MOwn w.heap.size w' v' m ∧ Below w.heap.size w w' := by
  obtain ⟨vr, va, rfl, hr, ha⟩ := hm
  obtain ⟨vv, hvv⟩ : ∃ vv, m.val vr va = vv := ⟨_, rfl⟩
  rw [hvv]
  go_enter Tryz.func57, Tryz.ntmps57
  go_wp2_with (first
    | (refine box_m rfl rfl hvv.symm ?_; intro w0 r0 hB0; have k0 := (cw r0).vr; have l0 := r0.lt)
    | (refine al_mc rfl rfl ?_; intro w1 z1 hB1; have r1 := r0.below hB1; have k1 := (cw r1).vr; have l1 := r1.lt; have hB2 := hB0.trans (hB1.mono hB0.size)))
  go_at_call 79
  refine (copy_spec vr m.rom _ (hr.below hB2) (by omega)).mono ?_
  rintro e w2 ⟨v1, rfl, ho1, hb1⟩
  have hB3 := hB2.trans (hb1.mono hB2.size)
  have r2 := r1.below hb1
  have z2 := z1.below hb1
  have hzl := z2.lt
  have hwl := r2.lt
  have hgz : w.heap.size < w0.heap.size := l0
  have s01 := hB1.size
  have hz1 := z1.lt
  clear k0 k1 l0 l1 r0 r1 z1
  go_wp2_with (first
    | (refine st_rom rfl rfl rfl rfl r2 (one_own ho1) m.rom ?_; intro w3 r3 o3 s3; have k3 := (cw r3).va))
  go_at_call 79
  have hB4 := below_onto hB3 o3 (Nat.le_refl _)
  refine (copy_spec va m.ram _ (ha.below hB4) (by omega)).mono ?_
  rintro e w4 ⟨v2, rfl, ho2, hb2⟩
  have hB5 := hB4.trans (hb2.mono hB4.size)
  have r4 := r3.below hb2
  have z4 := (z2.onto o3 (by omega)).below hb2
  have ho1' := (ho1.onto o3 (fun e => by have := (ho1.lt _ e).1; have := hB2.size; omega)).below hb2
  have ho2b := ho2.lt
  have ho1b := ho1.lt
  have hs3 := s3
  clear k3 r2 r3 z2
  go_wp2_with (first
    | (refine st_ram rfl rfl rfl rfl r4 (one_own ho2) m.ram ?_; intro w5 r5 o5 s5)
    | (refine ld_mc rfl rfl rfl r5 ?_)
    | (refine st_mc rfl rfl rfl rfl (z4.onto o5 (by omega)) (one_own ho1) (one_own ho2) ?_; intro w6 r6 o6 s6))
  refine ret_mc rfl rfl r6 rfl ?_
  have hB6 := below_onto (below_onto hB5 o5 (Nat.le_refl _)) o6 (by omega)
  refine ⟨_, rfl, ⟨v1, v2, rfl, ?_, ?_, ?_⟩, hB6⟩
  · exact ((ho1'.onto o5 (fun e => by have := (ho1b _ e).1; have := hB2.size; omega)).onto o6 (fun e => by have := (ho1b _ e).1; omega)).mono (by have := hB2.size; omega)
  · exact ((ho2.onto o5 (fun e => by have := (ho2b _ e).1; omega)).onto o6 (fun e => by have := (ho2b _ e).1; omega)).mono (by have := hB4.size; omega)
  · intro k hk hk'
    have := (ho1b k hk).2
    have := (ho2b k hk').1
    omega
end Go.Proofs.YtghmkacamabndaaGreatDoor.Mem
namespace Go.Proofs.YtghmkacamabndaaGreatDoor.Mem
open Go.ChangeShapes Go.WideShapes Go.RowKit Base Num Slc Rw Tmr Srl Rom RomOf

theorem MOwn.onto {base g : Nat} {w w' : World} {vr va : Value} {m : Mc} (h1 : Own base w vr m.rom) (h2 : Own base w va m.ram) (ho : Onto g w w') (hg : w.heap.size ≤ g ∨ g < base) : Own base w' vr m.rom ∧ Own base w' va m.ram :=
  ⟨h1.onto ho (fun e => by have := h1.lt _ e; omega), h2.onto ho (fun e => by have := h2.lt _ e; omega)⟩
theorem on_below {g : Nat} {w w' : World} (h : Below w.heap.size w w') : Onto g w w' := ⟨h.os, h.tape, h.output, h.size, fun k _ hk => h.block k hk⟩
theorem onto_new {g p : Nat} {a w w' : World} (h : Onto g a w) (ho : Onto p w w') (hp : a.heap.size ≤ p) : Onto g a w' :=
  ⟨ho.os.trans h.os, ho.tape.trans h.tape, ho.output.trans h.output, Nat.le_trans h.size ho.size, fun k hk hl => by rw [ho.block k (by omega) (Nat.lt_of_lt_of_le hl h.size)]; exact h.block k hk hl⟩
def But (y : Value) (w w' : World) : Prop := ∀ g, y.ownBlock = some g → Onto g w w'
set_option maxHeartbeats 2000000 in
theorem l6Write_on (v vr va : Value) (m : Mc) (q n : Int) (w : World) (base : Nat) (hv : v = m.val vr va) (hr : Own base w vr m.rom) (ha : Own base w va m.ram) (hap : ∀ k, vr.ownBlock = some k → va.ownBlock ≠ some k) (hR : Right m) (hq : 0 ≤ q ∧ q ≤ 255) (hn : 0 ≤ n ∧ n ≤ 255) (hbase : base ≤ w.heap.size) :
    Calls Tryz.prog 252 #[v, .int .i64 q, .int .i64 n] w fun e w' => ∃ v', e = .returned v' ∧ (v' = (m.write q n).val vr va ∧ Own base w' vr (m.write q n).rom ∧ Own base w' va (m.write q n).ram) ∧ But va w w' := by
  have hR1 := hR.rom
  have hR2 := hR.ram
  have o1 := one_own hr
  have o2 := one_own ha
  have hrl := hr.lt
  have hal := ha.lt
  by_cases hin : 128 ≤ q ∧ q < 192
  · have e : m.write q n = { m with ram := m.ram.set (q - 128).toNat n } := by simp [Mc.write, hin]
    rw [e]
    obtain ⟨k, rfl⟩ : ∃ k : Nat, q = 128 + (k : Int) := ⟨(q - 128).toNat, by omega⟩
    have h2 : (128 + (k : Int) - 128).toNat = k := by omega
    rw [h2]
    have hs : 128 + (k : Int) - 128 = (k : Int) := by omega
    obtain ⟨g, cap, rfl, hg1, hg2, hg3, hg4⟩ := ha.block (by omega)
    unfold maxLen at hg4
    have hkl : k < m.ram.length := by omega
    have hkl' : (k : Int) < (m.ram.length : Int) := by omega
    have hr2 : Hid (m.ram.length = 64) := hR2
    clear hR2 e h2
    go_enter Tryz.func252, Tryz.ntmps252
    go_wp2_with (first
      | (refine box_m rfl rfl hv ?_; intro w0 r0 hB0)
      | (refine al_mc rfl rfl ?_; intro w1 z1 hB1; have r1 := r0.below hB1; have k1 := (cw r1).va; have hB2 := hB0.trans (hB1.mono hB0.size); have ha1 := ha.below hB2; have hr1 := hr.below hB2; have hc1 := ha1.cellAt (j := k) hkl; have hf1 := ha1.free k; have l0 := r0.lt; have l1 := r1.lt; have lz := z1.lt)
      | (refine ld_mc rfl rfl rfl (r1.setOther ⟨g, k, none⟩ (.int .i64 n) (show w.heap.size ≠ g by omega)) ?_)
      | (refine st_mc rfl rfl rfl rfl (z1.setOther ⟨g, k, none⟩ (.int .i64 n) (show w0.heap.size ≠ g by omega)) o1 rfl ?_; intro w6 r6 o6 s6))
    refine ret_mc rfl rfl r6 rfl ?_
    have hst := ha1.store k n
    have hr2 := hr1.grown hst.2 (fun j hj e => by cases hj; exact hap g e rfl)
    refine ⟨_, rfl, ⟨rfl, ?_, ?_⟩, ?_⟩
    · exact hr2.onto o6 (fun e => by have := hrl _ e; omega)
    · exact hst.1.onto o6 (fun e => by simp [Value.ownBlock] at e; omega)
    · intro g' hg'
      obtain rfl : g = g' := by simpa [Value.ownBlock] using hg'
      exact onto_new ((on_below (g := g) hB2).setCell (q := ⟨g, k, none⟩) rfl _) o6 (by omega)
  · have hni : ¬ (128 ≤ q ∧ q < 192) := hin
    have h8 := rem_pos' (a := n) (r := 8) hn.1
    have h2 := rem_pos' (a := n) (r := 2) hn.1
    by_cases c240 : q = 240
    · subst c240
      have e : m.write 240 n = { m with p := { m.p with d := n } } := by simp [Mc.write]
      rw [e]
      clear e
      go_enter Tryz.func252, Tryz.ntmps252
      go_wp2_with (first
        | (refine box_m rfl rfl hv ?_; intro w0 r0 hB0)
        | (refine al_mc rfl rfl ?_; intro w1 z1 hB1; have r1 := r0.below hB1; have hB2 := hB0.trans (hB1.mono hB0.size); have l0 := r0.lt; have l1 := r1.lt; have lz := z1.lt)
        | (refine st_num (m' := { m with p := { m.p with d := n } }) rfl rfl rfl rfl r1 rfl rfl ?_; intro w3 r3 o3 s3)
        | (refine ld_mc rfl rfl rfl r3 ?_)
        | (refine st_mc rfl rfl rfl rfl ((z1).onto o3 (by omega)) o1 o2 ?_; intro w6 r6 o6 s6))
      refine ret_mc rfl rfl r6 rfl ?_
      have hB3 := hB2
      have hB6 := below_onto (below_onto hB3 o3 (Nat.le_refl _)) o6 (by omega)
      exact ⟨_, rfl, ⟨rfl, hr.below hB6, ha.below hB6⟩, fun _ _ => on_below hB6⟩
    by_cases c241 : q = 241
    · subst c241
      by_cases hbig : 127 < n
      · have hlead : (n % 2 == 1) = decide (n % 2 = 1) := rfl
        have e : m.write 241 n = { m with p := m.p.start (n % 2 == 1) m.k } := by simp [Mc.write, hbig]
        rw [e]
        clear e
        go_enter Tryz.func252, Tryz.ntmps252
        go_wp2_with (first
        | (refine box_m rfl rfl hv ?_; intro w0 r0 hB0)
        | (refine al_mc rfl rfl ?_; intro w1 z1 hB1; have r1 := r0.below hB1; have hB2 := hB0.trans (hB1.mono hB0.size); have l0 := r0.lt; have l1 := r1.lt; have lz := z1.lt; have kk := (cw r1).k)
        | (refine ld_ser rfl rfl rfl r1 ?_)
        | (go_at_call 182; refine (serialStart_spec m.p _ _ _).mono ?_; rintro e w5 ⟨rfl, hb5⟩)
        | (refine st_port' rfl rfl rfl rfl (r1.below hb5) ?_; intro w3 r3 o3 s3)
        | (refine ld_mc rfl rfl rfl r3 ?_)
        | (refine st_mc rfl rfl rfl rfl ((z1.below hb5).onto o3 (by omega)) o1 o2 ?_; intro w6 r6 o6 s6))
        refine ret_mc rfl rfl r6 rfl ?_
        have hB3 := hB2.trans (hb5.mono hB2.size)
        have hB6 := below_onto (below_onto hB3 o3 (Nat.le_refl _)) o6 (by omega)
        exact ⟨_, rfl, ⟨rfl, hr.below hB6, ha.below hB6⟩, fun _ _ => on_below hB6⟩
      · skip
        have e : m.write 241 n = { m with p := ⟨m.p.d, false, false, 0, 0, false⟩ } := by simp [Mc.write, hbig]
        rw [e]
        clear e
        go_enter Tryz.func252, Tryz.ntmps252
        go_wp2_with (first
        | (refine box_m rfl rfl hv ?_; intro w0 r0 hB0)
        | (refine al_mc rfl rfl ?_; intro w1 z1 hB1; have r1 := r0.below hB1; have hB2 := hB0.trans (hB1.mono hB0.size); have l0 := r0.lt; have l1 := r1.lt; have lz := z1.lt; have kk := (cw r1).pd)
        | (refine st_port' (s := ⟨m.p.d, false, false, 0, 0, false⟩) rfl rfl rfl rfl r1 ?_; intro w3 r3 o3 s3)
        | (refine ld_mc rfl rfl rfl r3 ?_)
        | (refine st_mc rfl rfl rfl rfl ((z1).onto o3 (by omega)) o1 o2 ?_; intro w6 r6 o6 s6))
        refine ret_mc rfl rfl r6 rfl ?_
        have hB3 := hB2
        have hB6 := below_onto (below_onto hB3 o3 (Nat.le_refl _)) o6 (by omega)
        exact ⟨_, rfl, ⟨rfl, hr.below hB6, ha.below hB6⟩, fun _ _ => on_below hB6⟩
    by_cases c243 : q = 243
    · subst c243
      have e : m.write 243 n = { m with t := { m.t with v := n } } := by simp [Mc.write]
      rw [e]
      clear e
      go_enter Tryz.func252, Tryz.ntmps252
      go_wp2_with (first
        | (refine box_m rfl rfl hv ?_; intro w0 r0 hB0)
        | (refine al_mc rfl rfl ?_; intro w1 z1 hB1; have r1 := r0.below hB1; have hB2 := hB0.trans (hB1.mono hB0.size); have l0 := r0.lt; have l1 := r1.lt; have lz := z1.lt)
        | (refine st_num (m' := { m with t := { m.t with v := n } }) rfl rfl rfl rfl r1 rfl rfl ?_; intro w3 r3 o3 s3)
        | (refine ld_mc rfl rfl rfl r3 ?_)
        | (refine st_mc rfl rfl rfl rfl ((z1).onto o3 (by omega)) o1 o2 ?_; intro w6 r6 o6 s6))
      refine ret_mc rfl rfl r6 rfl ?_
      have hB3 := hB2
      have hB6 := below_onto (below_onto hB3 o3 (Nat.le_refl _)) o6 (by omega)
      exact ⟨_, rfl, ⟨rfl, hr.below hB6, ha.below hB6⟩, fun _ _ => on_below hB6⟩
    by_cases c244 : q = 244
    · subst c244
      have e : m.write 244 n = { m with t := { m.t with s := n } } := by simp [Mc.write]
      rw [e]
      clear e
      go_enter Tryz.func252, Tryz.ntmps252
      go_wp2_with (first
        | (refine box_m rfl rfl hv ?_; intro w0 r0 hB0)
        | (refine al_mc rfl rfl ?_; intro w1 z1 hB1; have r1 := r0.below hB1; have hB2 := hB0.trans (hB1.mono hB0.size); have l0 := r0.lt; have l1 := r1.lt; have lz := z1.lt)
        | (refine st_num (m' := { m with t := { m.t with s := n } }) rfl rfl rfl rfl r1 rfl rfl ?_; intro w3 r3 o3 s3)
        | (refine ld_mc rfl rfl rfl r3 ?_)
        | (refine st_mc rfl rfl rfl rfl ((z1).onto o3 (by omega)) o1 o2 ?_; intro w6 r6 o6 s6))
      refine ret_mc rfl rfl r6 rfl ?_
      have hB3 := hB2
      have hB6 := below_onto (below_onto hB3 o3 (Nat.le_refl _)) o6 (by omega)
      exact ⟨_, rfl, ⟨rfl, hr.below hB6, ha.below hB6⟩, fun _ _ => on_below hB6⟩
    by_cases c245 : q = 245
    · subst c245
      have e : m.write 245 n = { m with t := { m.t with m := n % 8 } } := by simp [Mc.write]
      rw [e]
      clear e
      go_enter Tryz.func252, Tryz.ntmps252
      go_wp2_with (first
        | (refine box_m rfl rfl hv ?_; intro w0 r0 hB0)
        | (refine al_mc rfl rfl ?_; intro w1 z1 hB1; have r1 := r0.below hB1; have hB2 := hB0.trans (hB1.mono hB0.size); have l0 := r0.lt; have l1 := r1.lt; have lz := z1.lt)
        | (refine st_num (m' := { m with t := { m.t with m := n % 8 } }) rfl rfl rfl rfl r1 rfl rfl ?_; intro w3 r3 o3 s3)
        | (refine ld_mc rfl rfl rfl r3 ?_)
        | (refine st_mc rfl rfl rfl rfl ((z1).onto o3 (by omega)) o1 o2 ?_; intro w6 r6 o6 s6))
      refine ret_mc rfl rfl r6 rfl ?_
      have hB3 := hB2
      have hB6 := below_onto (below_onto hB3 o3 (Nat.le_refl _)) o6 (by omega)
      exact ⟨_, rfl, ⟨rfl, hr.below hB6, ha.below hB6⟩, fun _ _ => on_below hB6⟩
    by_cases c246 : q = 246
    · subst c246
      have e : m.write 246 n = { m with fl := n % 8 } := by simp [Mc.write]
      rw [e]
      clear e
      go_enter Tryz.func252, Tryz.ntmps252
      go_wp2_with (first
        | (refine box_m rfl rfl hv ?_; intro w0 r0 hB0)
        | (refine al_mc rfl rfl ?_; intro w1 z1 hB1; have r1 := r0.below hB1; have hB2 := hB0.trans (hB1.mono hB0.size); have l0 := r0.lt; have l1 := r1.lt; have lz := z1.lt)
        | (refine st_num (m' := { m with fl := n % 8 }) rfl rfl rfl rfl r1 rfl rfl ?_; intro w3 r3 o3 s3)
        | (refine ld_mc rfl rfl rfl r3 ?_)
        | (refine st_mc rfl rfl rfl rfl ((z1).onto o3 (by omega)) o1 o2 ?_; intro w6 r6 o6 s6))
      refine ret_mc rfl rfl r6 rfl ?_
      have hB3 := hB2
      have hB6 := below_onto (below_onto hB3 o3 (Nat.le_refl _)) o6 (by omega)
      exact ⟨_, rfl, ⟨rfl, hr.below hB6, ha.below hB6⟩, fun _ _ => on_below hB6⟩
    by_cases c247 : q = 247
    · subst c247
      have e : m.write 247 n = { m with ms := n % 8 } := by simp [Mc.write]
      rw [e]
      clear e
      go_enter Tryz.func252, Tryz.ntmps252
      go_wp2_with (first
        | (refine box_m rfl rfl hv ?_; intro w0 r0 hB0)
        | (refine al_mc rfl rfl ?_; intro w1 z1 hB1; have r1 := r0.below hB1; have hB2 := hB0.trans (hB1.mono hB0.size); have l0 := r0.lt; have l1 := r1.lt; have lz := z1.lt)
        | (refine st_num (m' := { m with ms := n % 8 }) rfl rfl rfl rfl r1 rfl rfl ?_; intro w3 r3 o3 s3)
        | (refine ld_mc rfl rfl rfl r3 ?_)
        | (refine st_mc rfl rfl rfl rfl ((z1).onto o3 (by omega)) o1 o2 ?_; intro w6 r6 o6 s6))
      refine ret_mc rfl rfl r6 rfl ?_
      have hB3 := hB2
      have hB6 := below_onto (below_onto hB3 o3 (Nat.le_refl _)) o6 (by omega)
      exact ⟨_, rfl, ⟨rfl, hr.below hB6, ha.below hB6⟩, fun _ _ => on_below hB6⟩
    have e : m.write q n = m := by simp [Mc.write, hni, c240, c241, c243, c244, c245, c246, c247]
    rw [e]
    clear e
    by_cases hlo : 128 ≤ q
    · have hhi : ¬ q < 192 := by omega
      go_enter Tryz.func252, Tryz.ntmps252
      go_wp2_with (first
        | (refine box_m rfl rfl hv ?_; intro w0 r0 hB0)
        | (refine al_mc rfl rfl ?_; intro w1 z1 hB1; have r1 := r0.below hB1; have hB2 := hB0.trans (hB1.mono hB0.size); have l0 := r0.lt)
        | (refine ld_mc rfl rfl rfl r1 ?_)
        | (refine st_mc rfl rfl rfl rfl z1 o1 o2 ?_; intro w6 r6 o6 s6))
      refine ret_mc rfl rfl r6 rfl ?_
      have hB6 := below_onto hB2 o6 (by omega)
      exact ⟨_, rfl, ⟨rfl, hr.below hB6, ha.below hB6⟩, fun _ _ => on_below hB6⟩
    · go_enter Tryz.func252, Tryz.ntmps252
      go_wp2_with (first
        | (refine box_m rfl rfl hv ?_; intro w0 r0 hB0)
        | (refine al_mc rfl rfl ?_; intro w1 z1 hB1; have r1 := r0.below hB1; have hB2 := hB0.trans (hB1.mono hB0.size); have l0 := r0.lt)
        | (refine ld_mc rfl rfl rfl r1 ?_)
        | (refine st_mc rfl rfl rfl rfl z1 o1 o2 ?_; intro w6 r6 o6 s6))
      refine ret_mc rfl rfl r6 rfl ?_
      have hB6 := below_onto hB2 o6 (by omega)
      exact ⟨_, rfl, ⟨rfl, hr.below hB6, ha.below hB6⟩, fun _ _ => on_below hB6⟩
end Go.Proofs.YtghmkacamabndaaGreatDoor.Mem
namespace Go.Proofs.YtghmkacamabndaaGreatDoor.Mem
open Go.ChangeShapes Go.WideShapes Go.RowKit Base Num Slc Rw Tmr Srl Rom RomOf Opl Reg

structure Ow (base : Nat) (w : World) (x y : Value) (m : Mc) : Prop where
  hx : Own base w x m.rom
  hy : Own base w y m.ram
  ap : ∀ k, x.ownBlock = some k → y.ownBlock ≠ some k
  le : base ≤ w.heap.size
theorem Ow.below {base : Nat} {w w' : World} {x y : Value} {m : Mc} (h : Ow base w x y m) (hb : Below w.heap.size w w') : Ow base w' x y m :=
  ⟨h.hx.below hb, h.hy.below hb, h.ap, Nat.le_trans h.le hb.size⟩
theorem Ow.as {base : Nat} {w : World} {x y : Value} {m m' : Mc} (h : Ow base w x y m) (h1 : m'.rom = m.rom) (h2 : m'.ram = m.ram) : Ow base w x y m' := ⟨h1 ▸ h.hx, h2 ▸ h.hy, h.ap, h.le⟩
theorem Ow.sl {base : Nat} {w : World} {x y : Value} {m : Mc} (h : Ow base w x y m) : MSl w (m.val x y) m := ⟨x, y, rfl, h.hx.sl, h.hy.sl⟩
theorem Ow.onto {base p : Nat} {w w' : World} {x y : Value} {m : Mc} (h : Ow base w x y m) (ho : Onto p w w') (hp : w.heap.size ≤ p) : Ow base w' x y m :=
  ⟨h.hx.onto ho (fun e => by have := (h.hx.lt _ e).2; omega), h.hy.onto ho (fun e => by have := (h.hy.lt _ e).2; omega), h.ap, Nat.le_trans h.le ho.size⟩
theorem Ow.at {base p : Nat} {w w' : World} {x y : Value} {m : Mc} (h : Ow base w x y m) (ho : Onto p w w') (h1 : x.ownBlock ≠ some p) (h2 : y.ownBlock ≠ some p) : Ow base w' x y m :=
  ⟨h.hx.onto ho h1, h.hy.onto ho h2, h.ap, Nat.le_trans h.le ho.size⟩
theorem But.refl (y : Value) (w : World) : But y w w := fun _ _ => Onto.refl _ _
theorem But.of {y : Value} {w w' : World} (h : Below w.heap.size w w') : But y w w' := fun _ _ => on_below h
theorem But.trans {y : Value} {a b c : World} (h : But y a b) (k : But y b c) : But y a c := fun g hg => (h g hg).trans (k g hg)
theorem But.new {y : Value} {p : Nat} {a w w' : World} (h : But y a w) (ho : Onto p w w') (hp : a.heap.size ≤ p) : But y a w' := fun g hg => onto_new (h g hg) ho hp
theorem But.row {y : Value} {w w' : World} {b : Nat} {cs : Array Value} {T : TypeId} (h : But y w w') {g : Nat} (hg : y.ownBlock = some g) (hr : Row w b cs T) (hb : g ≠ b) : Row w' b cs T := hr.onto (h g hg) (fun e => hb e.symm)
section
variable {base : Nat} {w : World} {x y v : Value} {m : Mc}
theorem ram_block (h : Own base w y m.ram) (hok : m.ok = true) : ∃ g, y.ownBlock = some g ∧ g < w.heap.size := by
  obtain ⟨g, cap, rfl, h1, h2, h3⟩ := h.block (by have := (okm.1 hok).len; omega)
  exact ⟨g, rfl, h2⟩
theorem l7Put_spec (hv : v = m.val x y) (h : Ow base w x y m) (hok : m.ok = true) (q n : Int) (hq : bok q = true) (hn : bok n = true) :
    Calls Tryz.prog 233 #[v, .int .i64 q, .int .i64 n] w fun e w' => e = .returned (.tuple #[(m.write q n).val x y, .int .i64 (outs q n)]) ∧ Ow base w' x y (m.write q n) ∧ But y w w' := by
  obtain ⟨g, hg, hgl⟩ := ram_block h.hy hok
  by_cases e9 : q = 249
  · subst e9
    have hE : Hid (outs 249 n = n ∧ m.write 249 n = m) := show _ ∧ _ from ⟨rfl, write_out m n⟩
    go_enter Tryz.func233, Tryz.ntmps233
    go_wp2_with (first
      | (refine box_m rfl rfl hv ?_; intro w0 r0 hB0)
      | (refine al_mc rfl rfl ?_; intro w1 z1 hB1; have r1 := r0.below hB1; have hB2 := hB0.trans (hB1.mono hB0.size); have l0 := r0.lt; have lz := z1.lt)
      | (refine ld_mc rfl rfl rfl r1 ?_)
      | (refine st_mc rfl rfl rfl rfl z1 (one_own h.hx) (one_own h.hy) ?_; intro w6 r6 o6 s6))
    refine ret_mc2 rfl rfl r6 rfl rfl ?_
    have hB6 := below_onto hB2 o6 (by omega)
    rw [hE.out.1, hE.out.2]
    exact ⟨rfl, h.below hB6, .of hB6⟩
  · have e9' : (q == 249) = false := by simpa using e9
    have hE : Hid (outs q n = -1) := show _ = _ by simp [outs, e9]
    clear e9
    go_enter Tryz.func233, Tryz.ntmps233
    go_wp2_with (first
      | (refine box_m rfl rfl hv ?_; intro w0 r0 hB0)
      | (refine al_mc rfl rfl ?_; intro w1 z1 hB1; have r1 := r0.below hB1; have hB2 := hB0.trans (hB1.mono hB0.size); have l0 := r0.lt; have lz := z1.lt; have h2 := h.below hB2)
      | (refine ld_mc rfl rfl rfl r1 ?_)
      | (go_at_call 252; refine (l6Write_on _ x y m _ _ _ base rfl h2.hx h2.hy h2.ap (Mc.right hok) (bok_iff.1 hq) (bok_iff.1 hn) h2.le).mono ?_; rintro e w3 ⟨v3, rfl, ⟨rfl, hx3, hy3⟩, hb3⟩; have z3 := hb3.row hg z1 (by omega))
      | (refine st_mc rfl rfl rfl rfl z3 (one_own h.hx) (one_own h.hy) ?_; intro w6 r6 o6 s6))
    refine ret_mc2 rfl rfl r6 rfl rfl ?_
    rw [hE.out]
    have h3 : Ow base w3 x y (m.write q n) := ⟨hx3, hy3, h.ap, Nat.le_trans h2.le (hb3 g hg).size⟩
    exact ⟨rfl, h3.at o6 (fun e => by have := (h.hx.lt _ e).2; omega) (fun e => by have := (h.hy.lt _ e).2; omega), ((But.of hB2).trans hb3).new o6 (by omega)⟩
end
end Go.Proofs.YtghmkacamabndaaGreatDoor.Mem
namespace Go.Proofs.YtghmkacamabndaaGreatDoor.Mem
open Go.ChangeShapes Go.WideShapes Go.RowKit Base Num Slc Rw Tmr Srl Rom RomOf Opl Reg
section
variable {base : Nat} {w : World} {x y v : Value} {m : Mc}

theorem l7Push_spec (hv : v = m.val x y) (h : Ow base w x y m) (hok : m.ok = true) (n : Int) (hn : bok n = true) :
    Calls Tryz.prog 172 #[v, .int .i64 n] w fun e w' => e = .returned (.tuple #[(m.psh n).val x y, .int .i64 (m.pshOut n)]) ∧ Ow base w' x y (m.psh n) ∧ But y w w' := by
  obtain ⟨g, hg, hgl⟩ := ram_block h.hy hok
  have hsp := bok_iff.1 (okm.1 hok).sp
  have hrem := rem_pos' (a := m.sp + 255) (r := 256) (by omega)
  have hS : ({ m with sp := (m.sp + 255) % 256 } : Mc).ok = true := ok_sp hok _
  go_enter Tryz.func172, Tryz.ntmps172
  go_wp2_with (first
    | (refine box_m rfl rfl hv ?_; intro w0 r0 hB0)
    | (refine al_mc rfl rfl ?_; intro w1 z1 hB1; have r1 := r0.below hB1; have hB2 := hB0.trans (hB1.mono hB0.size); have l0 := r0.lt; have lz := z1.lt; have h1 := h.below hB2; have ks := (cw r1).sp)
    | (refine st_num (m' := { m with sp := (m.sp + 255) % 256 }) rfl rfl rfl rfl r1 rfl rfl ?_; intro w2 r2 o2 s2; have z2 := z1.onto o2 (by omega); have h2 := (h1.at o2 (fun e => by have := (h.hx.lt _ e).2; omega) (fun e => by have := (h.hy.lt _ e).2; omega)).as (m' := { m with sp := (m.sp + 255) % 256 }) rfl rfl; have ks2 := (cw r2).sp; have hB3 := below_onto hB2 o2 (by omega))
    | (refine ld_mc rfl rfl rfl r2 ?_)
    | (go_at_call 233; refine (l7Put_spec rfl h2 hS _ _ (bok_mod _) hn).mono ?_; rintro e w3 ⟨rfl, h3, hb3⟩; have z3 := hb3.row hg z2 (by omega))
    | (refine st_mc rfl rfl rfl rfl z3 (one_own h.hx) (one_own h.hy) ?_; intro w6 r6 o6 s6))
  refine ret_mc2 rfl rfl r6 rfl rfl ?_
  exact ⟨rfl, h3.at o6 (fun e => by have := (h.hx.lt _ e).2; omega) (fun e => by have := (h.hy.lt _ e).2; omega), ((But.of hB3).trans hb3).new o6 (by omega)⟩
theorem l7Pop_spec (hv : v = m.val x y) (h : Ow base w x y m) (hok : m.ok = true) :
    Calls Tryz.prog 239 #[v] w fun e w' => e = .returned (.tuple #[m.popd.val x y, .int .i64 m.top]) ∧ Ow base w' x y m.popd ∧ Below w.heap.size w w' := by
  have hsp := bok_iff.1 (okm.1 hok).sp
  have hrem := rem_pos' (a := m.sp + 1) (r := 256) (by omega)
  go_enter Tryz.func239, Tryz.ntmps239
  go_wp2_with (first
    | (refine box_m rfl rfl hv ?_; intro w0 r0 hB0)
    | (refine al_mc rfl rfl ?_; intro w1 z1 hB1; have r1 := r0.below hB1; have hB2 := hB0.trans (hB1.mono hB0.size); have l0 := r0.lt; have lz := z1.lt; have h1 := h.below hB2; have ks := (cw r1).sp)
    | (refine ld_mc rfl rfl rfl r1 ?_)
    | (go_at_call 173; refine (l6Read_spec _ m _ _ h1.sl (Mc.right hok) hsp).mono ?_; rintro e w2 ⟨rfl, hb2⟩; have hB3 := hB2.trans (hb2.mono hB2.size); have z2 := z1.below hb2; have r2 := r1.below hb2; have ks2 := (cw r2).sp; clear ks)
    | (refine st_num (m' := m.popd) rfl rfl rfl rfl r2 rfl rfl ?_; intro w3 r3 o3 s3; have z3 := z2.onto o3 (by omega); have hB4 := below_onto hB3 o3 (by omega))
    | (refine ld_mc rfl rfl rfl r3 ?_)
    | (refine st_mc rfl rfl rfl rfl z3 (one_own h.hx) (one_own h.hy) ?_; intro w6 r6 o6 s6))
  refine ret_mc2 rfl rfl r6 rfl rfl ?_
  have hB6 := below_onto hB4 o6 (by omega)
  exact ⟨rfl, (h.below hB6).as rfl rfl, hB6⟩
theorem l7Set_spec (hv : v = m.val x y) (h : Ow base w x y m) (n : Int) (c : Bool) :
    Calls Tryz.prog 258 #[v, .int .i64 n, .bool c] w fun e w' => e = .returned ((m.alu n c).val x y) ∧ Below w.heap.size w w' := by
  go_enter Tryz.func258, Tryz.ntmps258
  go_wp2_with (first
    | (refine box_m rfl rfl hv ?_; intro w0 r0 hB0)
    | (refine al_mc rfl rfl ?_; intro w1 z1 hB1; have r1 := r0.below hB1; have hB2 := hB0.trans (hB1.mono hB0.size); have l0 := r0.lt; have lz := z1.lt; have h1 := h.below hB2)
    | (refine st_num (m' := { m with a := n }) rfl rfl rfl rfl r1 rfl rfl ?_; intro w2 r2 o2 s2; have z2 := z1.onto o2 (by omega); have hB3 := below_onto hB2 o2 (by omega))
    | (refine st_yes (m' := { m with a := n, z := n == 0 }) rfl rfl rfl rfl r2 rfl rfl ?_; intro w3 r3 o3 s3; have z3 := z2.onto o3 (by omega); have hB4 := below_onto hB3 o3 (by omega))
    | (refine st_yes (m' := m.alu n c) rfl rfl rfl rfl r3 rfl rfl ?_; intro w4 r4 o4 s4; have z4 := z3.onto o4 (by omega); have hB5 := below_onto hB4 o4 (by omega))
    | (refine ld_mc rfl rfl rfl r4 ?_)
    | (refine st_mc rfl rfl rfl rfl z4 (one_own h.hx) (one_own h.hy) ?_; intro w6 r6 o6 s6))
  refine ret_mc rfl rfl r6 rfl ?_
  exact ⟨rfl, below_onto hB5 o6 (by omega)⟩
theorem l7CountB_17 (hv : v = m.val x y) (h : Ow base w x y m) :
    Calls Tryz.prog 237 #[v, .int .i64 17] w fun e w' => e = .returned ((m.cntB (addB m.b 1)).val x y) ∧ Below w.heap.size w w' := by
  obtain ⟨B, HB⟩ : ∃ B, Hid (B = addB m.b 1) := ⟨_, show _ = _ from rfl⟩
  rw [← HB.out]
  go_enter Tryz.func237, Tryz.ntmps237
  go_wp2_with (first
    | (refine box_m rfl rfl hv ?_; intro w0 r0 hB0)
    | (refine al_mc rfl rfl ?_; intro w1 z1 hB1; have r1 := r0.below hB1; have hB2 := hB0.trans (hB1.mono hB0.size); have l0 := r0.lt; have lz := z1.lt; have h1 := h.below hB2; have kb := (cw r1).b)
    | (go_at_call 254; refine (addByte_spec _ _ _).mono ?_; rintro e w9 ⟨rfl, rfl⟩; rw [← HB.out])
    | (refine st_num (m' := { m with b := B }) rfl rfl rfl rfl r1 rfl rfl ?_; intro w2 r2 o2 s2; have z2 := z1.onto o2 (by omega); have hB3 := below_onto hB2 o2 (by omega); have kb2 := (cw r2).b)
    | (refine st_yes (m' := { m with b := B, z := B == 0 }) rfl rfl rfl rfl r2 rfl rfl ?_; intro w3 r3 o3 s3; have z3 := z2.onto o3 (by omega); have hB4 := below_onto hB3 o3 (by omega))
    | (refine st_yes (m' := m.cntB B) rfl rfl rfl rfl r3 rfl rfl ?_; intro w4 r4 o4 s4; have z4 := z3.onto o4 (by omega); have hB5 := below_onto hB4 o4 (by omega))
    | (refine ld_mc rfl rfl rfl r4 ?_)
    | (refine st_mc rfl rfl rfl rfl z4 (one_own h.hx) (one_own h.hy) ?_; intro w6 r6 o6 s6))
  refine ret_mc rfl rfl r6 rfl ?_
  exact ⟨rfl, below_onto hB5 o6 (by omega)⟩
theorem l7CountB_18 (hv : v = m.val x y) (h : Ow base w x y m) :
    Calls Tryz.prog 237 #[v, .int .i64 18] w fun e w' => e = .returned ((m.cntB (subB m.b 1)).val x y) ∧ Below w.heap.size w w' := by
  obtain ⟨B, HB⟩ : ∃ B, Hid (B = subB m.b 1) := ⟨_, show _ = _ from rfl⟩
  rw [← HB.out]
  go_enter Tryz.func237, Tryz.ntmps237
  go_wp2_with (first
    | (refine box_m rfl rfl hv ?_; intro w0 r0 hB0)
    | (refine al_mc rfl rfl ?_; intro w1 z1 hB1; have r1 := r0.below hB1; have hB2 := hB0.trans (hB1.mono hB0.size); have l0 := r0.lt; have lz := z1.lt; have h1 := h.below hB2; have kb := (cw r1).b)
    | (go_at_call 255; refine (subByte_spec _ _ _).mono ?_; rintro e w9 ⟨rfl, rfl⟩; rw [← HB.out])
    | (refine st_num (m' := { m with b := B }) rfl rfl rfl rfl r1 rfl rfl ?_; intro w2 r2 o2 s2; have z2 := z1.onto o2 (by omega); have hB3 := below_onto hB2 o2 (by omega); have kb2 := (cw r2).b)
    | (refine st_yes (m' := { m with b := B, z := B == 0 }) rfl rfl rfl rfl r2 rfl rfl ?_; intro w3 r3 o3 s3; have z3 := z2.onto o3 (by omega); have hB4 := below_onto hB3 o3 (by omega))
    | (refine st_yes (m' := m.cntB B) rfl rfl rfl rfl r3 rfl rfl ?_; intro w4 r4 o4 s4; have z4 := z3.onto o4 (by omega); have hB5 := below_onto hB4 o4 (by omega))
    | (refine ld_mc rfl rfl rfl r4 ?_)
    | (refine st_mc rfl rfl rfl rfl z4 (one_own h.hx) (one_own h.hy) ?_; intro w6 r6 o6 s6))
  refine ret_mc rfl rfl r6 rfl ?_
  exact ⟨rfl, below_onto hB5 o6 (by omega)⟩
theorem l7Alu_9 (hv : v = m.val x y) (h : Ow base w x y m) (n : Int) :
    Calls Tryz.prog 236 #[v, .int .i64 9, .int .i64 n] w fun e w' => e = .returned ((m.does n 9).1.val x y) ∧ Below w.heap.size w w' := by
  go_enter Tryz.func236, Tryz.ntmps236
  go_wp2_with (first
    | (refine box_m rfl rfl hv ?_; intro w0 r0 hB0)
    | (refine al_mc rfl rfl ?_; intro w1 z1 hB1; have r1 := r0.below hB1; have hB2 := hB0.trans (hB1.mono hB0.size); have l0 := r0.lt; have lz := z1.lt; have h1 := h.below hB2; have ka := (cw r1).a)
    | (go_at_call 254; refine (addByte_spec _ _ _).mono ?_; rintro e w9 ⟨rfl, rfl⟩)
    | (refine ld_mc rfl rfl rfl r1 ?_)
    | (go_at_call 258; refine (l7Set_spec rfl h1 (addB m.a n) (addC m.a n)).mono ?_; rintro e w2 ⟨rfl, hb2⟩; have hB3 := hB2.trans (hb2.mono hB2.size); have z2 := z1.below hb2; have r2 := r1.below hb2)
    | (refine st_mc rfl rfl rfl rfl r2 (one_own h.hx) (one_own h.hy) ?_; intro w3 r3 o3 s3; have z3 := z2.onto o3 (by omega); have hB4 := below_onto hB3 o3 (by omega))
    | (refine ld_mc rfl rfl rfl r3 ?_)
    | (refine st_mc rfl rfl rfl rfl z3 (one_own h.hx) (one_own h.hy) ?_; intro w6 r6 o6 s6))
  refine ret_mc rfl rfl r6 rfl ?_
  exact ⟨rfl, below_onto hB4 o6 (by omega)⟩
theorem l7Alu_10 (hv : v = m.val x y) (h : Ow base w x y m) (n : Int) :
    Calls Tryz.prog 236 #[v, .int .i64 10, .int .i64 n] w fun e w' => e = .returned ((m.does n 10).1.val x y) ∧ Below w.heap.size w w' := by
  go_enter Tryz.func236, Tryz.ntmps236
  go_wp2_with (first
    | (refine box_m rfl rfl hv ?_; intro w0 r0 hB0)
    | (refine al_mc rfl rfl ?_; intro w1 z1 hB1; have r1 := r0.below hB1; have hB2 := hB0.trans (hB1.mono hB0.size); have l0 := r0.lt; have lz := z1.lt; have h1 := h.below hB2; have ka := (cw r1).a; have kb := (cw r1).b)
    | (go_at_call 254; refine (addByte_spec _ _ _).mono ?_; rintro e w9 ⟨rfl, rfl⟩)
    | (refine ld_mc rfl rfl rfl r1 ?_)
    | (go_at_call 258; refine (l7Set_spec rfl h1 (addB m.a m.b) (addC m.a m.b)).mono ?_; rintro e w2 ⟨rfl, hb2⟩; have hB3 := hB2.trans (hb2.mono hB2.size); have z2 := z1.below hb2; have r2 := r1.below hb2)
    | (refine st_mc rfl rfl rfl rfl r2 (one_own h.hx) (one_own h.hy) ?_; intro w3 r3 o3 s3; have z3 := z2.onto o3 (by omega); have hB4 := below_onto hB3 o3 (by omega))
    | (refine ld_mc rfl rfl rfl r3 ?_)
    | (refine st_mc rfl rfl rfl rfl z3 (one_own h.hx) (one_own h.hy) ?_; intro w6 r6 o6 s6))
  refine ret_mc rfl rfl r6 rfl ?_
  exact ⟨rfl, below_onto hB4 o6 (by omega)⟩
theorem l7Alu_11 (hv : v = m.val x y) (h : Ow base w x y m) (n : Int) :
    Calls Tryz.prog 236 #[v, .int .i64 11, .int .i64 n] w fun e w' => e = .returned ((m.does n 11).1.val x y) ∧ Below w.heap.size w w' := by
  go_enter Tryz.func236, Tryz.ntmps236
  go_wp2_with (first
    | (refine box_m rfl rfl hv ?_; intro w0 r0 hB0)
    | (refine al_mc rfl rfl ?_; intro w1 z1 hB1; have r1 := r0.below hB1; have hB2 := hB0.trans (hB1.mono hB0.size); have l0 := r0.lt; have lz := z1.lt; have h1 := h.below hB2; have ka := (cw r1).a)
    | (go_at_call 255; refine (subByte_spec _ _ _).mono ?_; rintro e w9 ⟨rfl, rfl⟩)
    | (refine ld_mc rfl rfl rfl r1 ?_)
    | (go_at_call 258; refine (l7Set_spec rfl h1 (subB m.a n) (subC m.a n)).mono ?_; rintro e w2 ⟨rfl, hb2⟩; have hB3 := hB2.trans (hb2.mono hB2.size); have z2 := z1.below hb2; have r2 := r1.below hb2)
    | (refine st_mc rfl rfl rfl rfl r2 (one_own h.hx) (one_own h.hy) ?_; intro w3 r3 o3 s3; have z3 := z2.onto o3 (by omega); have hB4 := below_onto hB3 o3 (by omega))
    | (refine ld_mc rfl rfl rfl r3 ?_)
    | (refine st_mc rfl rfl rfl rfl z3 (one_own h.hx) (one_own h.hy) ?_; intro w6 r6 o6 s6))
  refine ret_mc rfl rfl r6 rfl ?_
  exact ⟨rfl, below_onto hB4 o6 (by omega)⟩
theorem l7Alu_12 (hv : v = m.val x y) (h : Ow base w x y m) (n : Int) :
    Calls Tryz.prog 236 #[v, .int .i64 12, .int .i64 n] w fun e w' => e = .returned ((m.does n 12).1.val x y) ∧ Below w.heap.size w w' := by
  go_enter Tryz.func236, Tryz.ntmps236
  go_wp2_with (first
    | (refine box_m rfl rfl hv ?_; intro w0 r0 hB0)
    | (refine al_mc rfl rfl ?_; intro w1 z1 hB1; have r1 := r0.below hB1; have hB2 := hB0.trans (hB1.mono hB0.size); have l0 := r0.lt; have lz := z1.lt; have h1 := h.below hB2; have ka := (cw r1).a)
    | (go_at_call 255; refine (subByte_spec _ _ _).mono ?_; rintro e w9 ⟨rfl, rfl⟩)
    | (refine ld_mc rfl rfl rfl r1 ?_)
    | (go_at_call 258; refine (l7Set_spec rfl h1 (subB m.a n) (subC m.a n)).mono ?_; rintro e w2 ⟨rfl, hb2⟩; have hB3 := hB2.trans (hb2.mono hB2.size); have z2 := z1.below hb2; have r2 := r1.below hb2)
    | (refine st_mc rfl rfl rfl rfl r2 (one_own h.hx) (one_own h.hy) ?_; intro w3 r3 o3 s3; have z3 := z2.onto o3 (by omega); have hB4 := below_onto hB3 o3 (by omega))
    | (refine st_num (m' := m.cmp (subB m.a n) (subC m.a n)) rfl rfl rfl rfl r3 rfl rfl ?_; intro w4 r4 o4 s4; have z4 := z3.onto o4 (by omega); have hB5 := below_onto hB4 o4 (by omega))
    | (refine ld_mc rfl rfl rfl r4 ?_)
    | (refine st_mc rfl rfl rfl rfl z4 (one_own h.hx) (one_own h.hy) ?_; intro w6 r6 o6 s6))
  refine ret_mc rfl rfl r6 rfl ?_
  exact ⟨rfl, below_onto hB5 o6 (by omega)⟩
theorem l7Alu_13 (hv : v = m.val x y) (h : Ow base w x y m) (n : Int) :
    Calls Tryz.prog 236 #[v, .int .i64 13, .int .i64 n] w fun e w' => e = .returned ((m.does n 13).1.val x y) ∧ Below w.heap.size w w' := by
  go_enter Tryz.func236, Tryz.ntmps236
  go_wp2_with (first
    | (refine box_m rfl rfl hv ?_; intro w0 r0 hB0)
    | (refine al_mc rfl rfl ?_; intro w1 z1 hB1; have r1 := r0.below hB1; have hB2 := hB0.trans (hB1.mono hB0.size); have l0 := r0.lt; have lz := z1.lt; have h1 := h.below hB2; have ka := (cw r1).a)
    | (refine ld_mc rfl rfl rfl r1 ?_)
    | (go_at_call 258; refine (l7Set_spec rfl h1 (bits .and .i64 m.a n) (false)).mono ?_; rintro e w2 ⟨rfl, hb2⟩; have hB3 := hB2.trans (hb2.mono hB2.size); have z2 := z1.below hb2; have r2 := r1.below hb2)
    | (refine st_mc rfl rfl rfl rfl r2 (one_own h.hx) (one_own h.hy) ?_; intro w3 r3 o3 s3; have z3 := z2.onto o3 (by omega); have hB4 := below_onto hB3 o3 (by omega))
    | (refine ld_mc rfl rfl rfl r3 ?_)
    | (refine st_mc rfl rfl rfl rfl z3 (one_own h.hx) (one_own h.hy) ?_; intro w6 r6 o6 s6))
  refine ret_mc rfl rfl r6 rfl ?_
  exact ⟨rfl, below_onto hB4 o6 (by omega)⟩
theorem l7Alu_14 (hv : v = m.val x y) (h : Ow base w x y m) (n : Int) :
    Calls Tryz.prog 236 #[v, .int .i64 14, .int .i64 n] w fun e w' => e = .returned ((m.does n 14).1.val x y) ∧ Below w.heap.size w w' := by
  go_enter Tryz.func236, Tryz.ntmps236
  go_wp2_with (first
    | (refine box_m rfl rfl hv ?_; intro w0 r0 hB0)
    | (refine al_mc rfl rfl ?_; intro w1 z1 hB1; have r1 := r0.below hB1; have hB2 := hB0.trans (hB1.mono hB0.size); have l0 := r0.lt; have lz := z1.lt; have h1 := h.below hB2; have ka := (cw r1).a)
    | (refine ld_mc rfl rfl rfl r1 ?_)
    | (go_at_call 258; refine (l7Set_spec rfl h1 (bits .xor .i64 m.a n) (false)).mono ?_; rintro e w2 ⟨rfl, hb2⟩; have hB3 := hB2.trans (hb2.mono hB2.size); have z2 := z1.below hb2; have r2 := r1.below hb2)
    | (refine st_mc rfl rfl rfl rfl r2 (one_own h.hx) (one_own h.hy) ?_; intro w3 r3 o3 s3; have z3 := z2.onto o3 (by omega); have hB4 := below_onto hB3 o3 (by omega))
    | (refine ld_mc rfl rfl rfl r3 ?_)
    | (refine st_mc rfl rfl rfl rfl z3 (one_own h.hx) (one_own h.hy) ?_; intro w6 r6 o6 s6))
  refine ret_mc rfl rfl r6 rfl ?_
  exact ⟨rfl, below_onto hB4 o6 (by omega)⟩
theorem l7Alu_15 (hv : v = m.val x y) (h : Ow base w x y m) (n : Int) :
    Calls Tryz.prog 236 #[v, .int .i64 15, .int .i64 n] w fun e w' => e = .returned ((m.does n 15).1.val x y) ∧ Below w.heap.size w w' := by
  go_enter Tryz.func236, Tryz.ntmps236
  go_wp2_with (first
    | (refine box_m rfl rfl hv ?_; intro w0 r0 hB0)
    | (refine al_mc rfl rfl ?_; intro w1 z1 hB1; have r1 := r0.below hB1; have hB2 := hB0.trans (hB1.mono hB0.size); have l0 := r0.lt; have lz := z1.lt; have h1 := h.below hB2; have ka := (cw r1).a)
    | (go_at_call 256; refine (turnedLeft_spec _ _).mono ?_; rintro e w9 ⟨rfl, rfl⟩)
    | (refine ld_mc rfl rfl rfl r1 ?_)
    | (go_at_call 258; refine (l7Set_spec rfl h1 (turnLB m.a) (turnLC m.a)).mono ?_; rintro e w2 ⟨rfl, hb2⟩; have hB3 := hB2.trans (hb2.mono hB2.size); have z2 := z1.below hb2; have r2 := r1.below hb2)
    | (refine st_mc rfl rfl rfl rfl r2 (one_own h.hx) (one_own h.hy) ?_; intro w3 r3 o3 s3; have z3 := z2.onto o3 (by omega); have hB4 := below_onto hB3 o3 (by omega))
    | (refine ld_mc rfl rfl rfl r3 ?_)
    | (refine st_mc rfl rfl rfl rfl z3 (one_own h.hx) (one_own h.hy) ?_; intro w6 r6 o6 s6))
  refine ret_mc rfl rfl r6 rfl ?_
  exact ⟨rfl, below_onto hB4 o6 (by omega)⟩
theorem l7Alu_16 (hv : v = m.val x y) (h : Ow base w x y m) (n : Int) :
    Calls Tryz.prog 236 #[v, .int .i64 16, .int .i64 n] w fun e w' => e = .returned ((m.does n 16).1.val x y) ∧ Below w.heap.size w w' := by
  go_enter Tryz.func236, Tryz.ntmps236
  go_wp2_with (first
    | (refine box_m rfl rfl hv ?_; intro w0 r0 hB0)
    | (refine al_mc rfl rfl ?_; intro w1 z1 hB1; have r1 := r0.below hB1; have hB2 := hB0.trans (hB1.mono hB0.size); have l0 := r0.lt; have lz := z1.lt; have h1 := h.below hB2; have ka := (cw r1).a)
    | (go_at_call 257; refine (turnedRight_spec _ _).mono ?_; rintro e w9 ⟨rfl, rfl⟩)
    | (refine ld_mc rfl rfl rfl r1 ?_)
    | (go_at_call 258; refine (l7Set_spec rfl h1 (turnRB m.a) (turnRC m.a)).mono ?_; rintro e w2 ⟨rfl, hb2⟩; have hB3 := hB2.trans (hb2.mono hB2.size); have z2 := z1.below hb2; have r2 := r1.below hb2)
    | (refine st_mc rfl rfl rfl rfl r2 (one_own h.hx) (one_own h.hy) ?_; intro w3 r3 o3 s3; have z3 := z2.onto o3 (by omega); have hB4 := below_onto hB3 o3 (by omega))
    | (refine ld_mc rfl rfl rfl r3 ?_)
    | (refine st_mc rfl rfl rfl rfl z3 (one_own h.hx) (one_own h.hy) ?_; intro w6 r6 o6 s6))
  refine ret_mc rfl rfl r6 rfl ?_
  exact ⟨rfl, below_onto hB4 o6 (by omega)⟩
theorem l7Jump_19 (hv : v = m.val x y) (h : Ow base w x y m) (hok : m.ok = true) (n : Int) :
    Calls Tryz.prog 238 #[v, .int .i64 19, .int .i64 n] w fun e w' => e = .returned (.tuple #[(m.does n 19).1.val x y, .int .i64 (m.does n 19).2]) ∧ Ow base w' x y (m.does n 19).1 ∧ But y w w' := by
  have hE : Hid ((m.does n 19).1 = { m with pc := n }) := show _ = _ by simp [Mc.does, Mc.jmp]
  have hE2 : Hid ((m.does n 19).2 = -1) := show _ = _ from rfl
  rw [hE.out, hE2.out]
  go_enter Tryz.func238, Tryz.ntmps238
  go_wp2_with (first
    | (refine box_m rfl rfl hv ?_; intro w0 r0 hB0)
    | (refine al_mc rfl rfl ?_; intro w1 z1 hB1; have r1 := r0.below hB1; have hB2 := hB0.trans (hB1.mono hB0.size); have l0 := r0.lt; have lz := z1.lt; have h1 := h.below hB2)
    | (refine st_num (m' := { m with pc := n }) rfl rfl rfl rfl r1 rfl rfl ?_; intro w2 r2 o2 s2; have z2 := z1.onto o2 (by omega); have hB4 := below_onto hB2 o2 (by omega))
    | (refine ld_mc rfl rfl rfl r2 ?_)
    | (refine st_mc rfl rfl rfl rfl z2 (one_own h.hx) (one_own h.hy) ?_; intro w6 r6 o6 s6))
  refine ret_mc2 rfl rfl r6 rfl rfl ?_
  have hB6 := below_onto hB4 o6 (by omega)
  exact ⟨rfl, (h.below hB6).as rfl rfl, .of hB6⟩
theorem l7Jump_20_t (hv : v = m.val x y) (h : Ow base w x y m) (hok : m.ok = true) (n : Int) (hc : m.z = true) :
    Calls Tryz.prog 238 #[v, .int .i64 20, .int .i64 n] w fun e w' => e = .returned (.tuple #[(m.does n 20).1.val x y, .int .i64 (m.does n 20).2]) ∧ Ow base w' x y (m.does n 20).1 ∧ But y w w' := by
  have hE : Hid ((m.does n 20).1 = { m with pc := n }) := show _ = _ by simp [Mc.does, Mc.jmp, hc]
  have hE2 : Hid ((m.does n 20).2 = -1) := show _ = _ from rfl
  rw [hE.out, hE2.out]
  go_enter Tryz.func238, Tryz.ntmps238
  go_wp2_with (first
    | (refine box_m rfl rfl hv ?_; intro w0 r0 hB0)
    | (refine al_mc rfl rfl ?_; intro w1 z1 hB1; have r1 := r0.below hB1; have hB2 := hB0.trans (hB1.mono hB0.size); have l0 := r0.lt; have lz := z1.lt; have h1 := h.below hB2; have kz := (cw r1).z; rw [hc] at kz)
    | (refine st_num (m' := { m with pc := n }) rfl rfl rfl rfl r1 rfl rfl ?_; intro w2 r2 o2 s2; have z2 := z1.onto o2 (by omega); have hB4 := below_onto hB2 o2 (by omega))
    | (refine ld_mc rfl rfl rfl r2 ?_)
    | (refine st_mc rfl rfl rfl rfl z2 (one_own h.hx) (one_own h.hy) ?_; intro w6 r6 o6 s6))
  refine ret_mc2 rfl rfl r6 rfl rfl ?_
  have hB6 := below_onto hB4 o6 (by omega)
  exact ⟨by rw [hc]; rfl, (h.below hB6).as rfl rfl, .of hB6⟩
theorem l7Jump_20_f (hv : v = m.val x y) (h : Ow base w x y m) (hok : m.ok = true) (n : Int) (hc : m.z = false) :
    Calls Tryz.prog 238 #[v, .int .i64 20, .int .i64 n] w fun e w' => e = .returned (.tuple #[(m.does n 20).1.val x y, .int .i64 (m.does n 20).2]) ∧ Ow base w' x y (m.does n 20).1 ∧ But y w w' := by
  have hE : Hid ((m.does n 20).1 = m) := show _ = _ by simp [Mc.does, Mc.jmp, hc]
  have hE2 : Hid ((m.does n 20).2 = -1) := show _ = _ from rfl
  rw [hE.out, hE2.out]
  go_enter Tryz.func238, Tryz.ntmps238
  go_wp2_with (first
    | (refine box_m rfl rfl hv ?_; intro w0 r0 hB0)
    | (refine al_mc rfl rfl ?_; intro w1 z1 hB1; have r1 := r0.below hB1; have hB2 := hB0.trans (hB1.mono hB0.size); have l0 := r0.lt; have lz := z1.lt; have h1 := h.below hB2; have kz := (cw r1).z; rw [hc] at kz; have hB4 := hB2)
    | (refine ld_mc rfl rfl rfl r1 ?_)
    | (refine st_mc rfl rfl rfl rfl z1 (one_own h.hx) (one_own h.hy) ?_; intro w6 r6 o6 s6))
  refine ret_mc2 rfl rfl r6 rfl rfl ?_
  have hB6 := below_onto hB4 o6 (by omega)
  exact ⟨rfl, (h.below hB6).as rfl rfl, .of hB6⟩
theorem l7Jump_21_t (hv : v = m.val x y) (h : Ow base w x y m) (hok : m.ok = true) (n : Int) (hc : m.z = true) :
    Calls Tryz.prog 238 #[v, .int .i64 21, .int .i64 n] w fun e w' => e = .returned (.tuple #[(m.does n 21).1.val x y, .int .i64 (m.does n 21).2]) ∧ Ow base w' x y (m.does n 21).1 ∧ But y w w' := by
  have hE : Hid ((m.does n 21).1 = m) := show _ = _ by simp [Mc.does, Mc.jmp, hc]
  have hE2 : Hid ((m.does n 21).2 = -1) := show _ = _ from rfl
  rw [hE.out, hE2.out]
  go_enter Tryz.func238, Tryz.ntmps238
  go_wp2_with (first
    | (refine box_m rfl rfl hv ?_; intro w0 r0 hB0)
    | (refine al_mc rfl rfl ?_; intro w1 z1 hB1; have r1 := r0.below hB1; have hB2 := hB0.trans (hB1.mono hB0.size); have l0 := r0.lt; have lz := z1.lt; have h1 := h.below hB2; have kz := (cw r1).z; rw [hc] at kz; have hB4 := hB2)
    | (refine ld_mc rfl rfl rfl r1 ?_)
    | (refine st_mc rfl rfl rfl rfl z1 (one_own h.hx) (one_own h.hy) ?_; intro w6 r6 o6 s6))
  refine ret_mc2 rfl rfl r6 rfl rfl ?_
  have hB6 := below_onto hB4 o6 (by omega)
  exact ⟨rfl, (h.below hB6).as rfl rfl, .of hB6⟩
theorem l7Jump_21_f (hv : v = m.val x y) (h : Ow base w x y m) (hok : m.ok = true) (n : Int) (hc : m.z = false) :
    Calls Tryz.prog 238 #[v, .int .i64 21, .int .i64 n] w fun e w' => e = .returned (.tuple #[(m.does n 21).1.val x y, .int .i64 (m.does n 21).2]) ∧ Ow base w' x y (m.does n 21).1 ∧ But y w w' := by
  have hE : Hid ((m.does n 21).1 = { m with pc := n }) := show _ = _ by simp [Mc.does, Mc.jmp, hc]
  have hE2 : Hid ((m.does n 21).2 = -1) := show _ = _ from rfl
  rw [hE.out, hE2.out]
  go_enter Tryz.func238, Tryz.ntmps238
  go_wp2_with (first
    | (refine box_m rfl rfl hv ?_; intro w0 r0 hB0)
    | (refine al_mc rfl rfl ?_; intro w1 z1 hB1; have r1 := r0.below hB1; have hB2 := hB0.trans (hB1.mono hB0.size); have l0 := r0.lt; have lz := z1.lt; have h1 := h.below hB2; have kz := (cw r1).z; rw [hc] at kz)
    | (refine st_num (m' := { m with pc := n }) rfl rfl rfl rfl r1 rfl rfl ?_; intro w2 r2 o2 s2; have z2 := z1.onto o2 (by omega); have hB4 := below_onto hB2 o2 (by omega))
    | (refine ld_mc rfl rfl rfl r2 ?_)
    | (refine st_mc rfl rfl rfl rfl z2 (one_own h.hx) (one_own h.hy) ?_; intro w6 r6 o6 s6))
  refine ret_mc2 rfl rfl r6 rfl rfl ?_
  have hB6 := below_onto hB4 o6 (by omega)
  exact ⟨by rw [hc]; rfl, (h.below hB6).as rfl rfl, .of hB6⟩
theorem l7Jump_22_t (hv : v = m.val x y) (h : Ow base w x y m) (hok : m.ok = true) (n : Int) (hc : m.c = true) :
    Calls Tryz.prog 238 #[v, .int .i64 22, .int .i64 n] w fun e w' => e = .returned (.tuple #[(m.does n 22).1.val x y, .int .i64 (m.does n 22).2]) ∧ Ow base w' x y (m.does n 22).1 ∧ But y w w' := by
  have hE : Hid ((m.does n 22).1 = { m with pc := n }) := show _ = _ by simp [Mc.does, Mc.jmp, hc]
  have hE2 : Hid ((m.does n 22).2 = -1) := show _ = _ from rfl
  rw [hE.out, hE2.out]
  go_enter Tryz.func238, Tryz.ntmps238
  go_wp2_with (first
    | (refine box_m rfl rfl hv ?_; intro w0 r0 hB0)
    | (refine al_mc rfl rfl ?_; intro w1 z1 hB1; have r1 := r0.below hB1; have hB2 := hB0.trans (hB1.mono hB0.size); have l0 := r0.lt; have lz := z1.lt; have h1 := h.below hB2; have kz := (cw r1).c; rw [hc] at kz)
    | (refine st_num (m' := { m with pc := n }) rfl rfl rfl rfl r1 rfl rfl ?_; intro w2 r2 o2 s2; have z2 := z1.onto o2 (by omega); have hB4 := below_onto hB2 o2 (by omega))
    | (refine ld_mc rfl rfl rfl r2 ?_)
    | (refine st_mc rfl rfl rfl rfl z2 (one_own h.hx) (one_own h.hy) ?_; intro w6 r6 o6 s6))
  refine ret_mc2 rfl rfl r6 rfl rfl ?_
  have hB6 := below_onto hB4 o6 (by omega)
  exact ⟨by rw [hc]; rfl, (h.below hB6).as rfl rfl, .of hB6⟩
theorem l7Jump_22_f (hv : v = m.val x y) (h : Ow base w x y m) (hok : m.ok = true) (n : Int) (hc : m.c = false) :
    Calls Tryz.prog 238 #[v, .int .i64 22, .int .i64 n] w fun e w' => e = .returned (.tuple #[(m.does n 22).1.val x y, .int .i64 (m.does n 22).2]) ∧ Ow base w' x y (m.does n 22).1 ∧ But y w w' := by
  have hE : Hid ((m.does n 22).1 = m) := show _ = _ by simp [Mc.does, Mc.jmp, hc]
  have hE2 : Hid ((m.does n 22).2 = -1) := show _ = _ from rfl
  rw [hE.out, hE2.out]
  go_enter Tryz.func238, Tryz.ntmps238
  go_wp2_with (first
    | (refine box_m rfl rfl hv ?_; intro w0 r0 hB0)
    | (refine al_mc rfl rfl ?_; intro w1 z1 hB1; have r1 := r0.below hB1; have hB2 := hB0.trans (hB1.mono hB0.size); have l0 := r0.lt; have lz := z1.lt; have h1 := h.below hB2; have kz := (cw r1).c; rw [hc] at kz; have hB4 := hB2)
    | (refine ld_mc rfl rfl rfl r1 ?_)
    | (refine st_mc rfl rfl rfl rfl z1 (one_own h.hx) (one_own h.hy) ?_; intro w6 r6 o6 s6))
  refine ret_mc2 rfl rfl r6 rfl rfl ?_
  have hB6 := below_onto hB4 o6 (by omega)
  exact ⟨rfl, (h.below hB6).as rfl rfl, .of hB6⟩
theorem l7Jump_23 (hv : v = m.val x y) (h : Ow base w x y m) (hok : m.ok = true) (n : Int) :
    Calls Tryz.prog 238 #[v, .int .i64 23, .int .i64 n] w fun e w' => e = .returned (.tuple #[(m.does n 23).1.val x y, .int .i64 (m.does n 23).2]) ∧ Ow base w' x y (m.does n 23).1 ∧ But y w w' := by
  obtain ⟨g, hg, hgl⟩ := ram_block h.hy hok
  go_enter Tryz.func238, Tryz.ntmps238
  go_wp2_with (first
    | (refine box_m rfl rfl hv ?_; intro w0 r0 hB0)
    | (refine al_mc rfl rfl ?_; intro w1 z1 hB1; have r1 := r0.below hB1; have hB2 := hB0.trans (hB1.mono hB0.size); have l0 := r0.lt; have lz := z1.lt; have h1 := h.below hB2; have kp := (cw r1).pc)
    | (refine ld_mc rfl rfl rfl r1 ?_)
    | (go_at_call 172; refine (l7Push_spec rfl h1 hok _ (okm.1 hok).pc).mono ?_; rintro e w3 ⟨rfl, h3, hb3⟩; have z3 := hb3.row hg z1 (by omega); have r3 := hb3.row hg r1 (by omega))
    | (refine st_mc rfl rfl rfl rfl r3 (one_own h.hx) (one_own h.hy) ?_; intro w4 r4 o4 s4; have z4 := z3.onto o4 (by omega); have h4 := h3.at o4 (fun e => by have := (h.hx.lt _ e).2; omega) (fun e => by have := (h.hy.lt _ e).2; omega))
    | (refine st_num (m' := (m.does n 23).1) rfl rfl rfl rfl r4 rfl rfl ?_; intro w5 r5 o5 s5; have z5 := z4.onto o5 (by omega); have h5 := (h4.at o5 (fun e => by have := (h.hx.lt _ e).2; omega) (fun e => by have := (h.hy.lt _ e).2; omega)).as (m' := (m.does n 23).1) rfl rfl)
    | (refine ld_mc rfl rfl rfl r5 ?_)
    | (refine st_mc rfl rfl rfl rfl z5 (one_own h.hx) (one_own h.hy) ?_; intro w6 r6 o6 s6))
  refine ret_mc2 rfl rfl r6 rfl rfl ?_
  exact ⟨rfl, h5.at o6 (fun e => by have := (h.hx.lt _ e).2; omega) (fun e => by have := (h.hy.lt _ e).2; omega), (((((But.of hB2).trans hb3).new o4 (by omega)).new o5 (by omega)).new o6 (by omega))⟩
theorem l7Jump_24_t (hv : v = m.val x y) (h : Ow base w x y m) (hok : m.ok = true) (n : Int) (he : m.e = true) :
    Calls Tryz.prog 238 #[v, .int .i64 24, .int .i64 n] w fun e w' => e = .returned (.tuple #[(m.does n 24).1.val x y, .int .i64 (m.does n 24).2]) ∧ Ow base w' x y (m.does n 24).1 ∧ But y w w' := by
  have hE : Hid ((m.does n 24).1 = { m.popd with pc := m.top, e := true }) := show _ = _ by simp [Mc.does, Mc.popd, he]
  have hE2 : Hid ((m.does n 24).2 = -1) := show _ = _ from rfl
  rw [hE.out, hE2.out]
  go_enter Tryz.func238, Tryz.ntmps238
  go_wp2_with (first
    | (refine box_m rfl rfl hv ?_; intro w0 r0 hB0)
    | (refine al_mc rfl rfl ?_; intro w1 z1 hB1; have r1 := r0.below hB1; have hB2 := hB0.trans (hB1.mono hB0.size); have l0 := r0.lt; have lz := z1.lt; have h1 := h.below hB2)
    | (refine ld_mc rfl rfl rfl r1 ?_)
    | (go_at_call 239; refine (l7Pop_spec rfl h1 hok).mono ?_; rintro e w2 ⟨rfl, h2, hb2⟩; have hB3 := hB2.trans (hb2.mono hB2.size); have z2 := z1.below hb2; have r2 := r1.below hb2)
    | (refine st_mc rfl rfl rfl rfl r2 (one_own h.hx) (one_own h.hy) ?_; intro w3 r3 o3 s3; have z3 := z2.onto o3 (by omega); have hB4 := below_onto hB3 o3 (by omega); have ke := (cw r3).e; rw [show m.popd.e = true from he] at ke)
    | (refine st_yes (m' := { m.popd with e := true }) rfl rfl rfl rfl r3 rfl rfl ?_; intro w4 r4 o4 s4; have z4 := z3.onto o4 (by omega); have hB5 := below_onto hB4 o4 (by omega))
    | (refine st_num (m' := { m.popd with pc := m.top, e := true }) rfl rfl rfl rfl r4 rfl rfl ?_; intro w5 r5 o5 s5; have z5 := z4.onto o5 (by omega); have hB6 := below_onto hB5 o5 (by omega))
    | (refine ld_mc rfl rfl rfl r5 ?_)
    | (refine st_mc rfl rfl rfl rfl z5 (one_own h.hx) (one_own h.hy) ?_; intro w6 r6 o6 s6))
  refine ret_mc2 rfl rfl r6 rfl rfl ?_
  have hB7 := below_onto hB6 o6 (by omega)
  exact ⟨rfl, (h.below hB7).as rfl rfl, .of hB7⟩
theorem l7Jump_24_f (hv : v = m.val x y) (h : Ow base w x y m) (hok : m.ok = true) (n : Int) (he : m.e = false) :
    Calls Tryz.prog 238 #[v, .int .i64 24, .int .i64 n] w fun e w' => e = .returned (.tuple #[(m.does n 24).1.val x y, .int .i64 (m.does n 24).2]) ∧ Ow base w' x y (m.does n 24).1 ∧ But y w w' := by
  have hE : Hid ((m.does n 24).1 = { m.popd with pc := m.top, e := false }) := show _ = _ by simp [Mc.does, Mc.popd, he]
  have hE2 : Hid ((m.does n 24).2 = -1) := show _ = _ from rfl
  rw [hE.out, hE2.out]
  go_enter Tryz.func238, Tryz.ntmps238
  go_wp2_with (first
    | (refine box_m rfl rfl hv ?_; intro w0 r0 hB0)
    | (refine al_mc rfl rfl ?_; intro w1 z1 hB1; have r1 := r0.below hB1; have hB2 := hB0.trans (hB1.mono hB0.size); have l0 := r0.lt; have lz := z1.lt; have h1 := h.below hB2)
    | (refine ld_mc rfl rfl rfl r1 ?_)
    | (go_at_call 239; refine (l7Pop_spec rfl h1 hok).mono ?_; rintro e w2 ⟨rfl, h2, hb2⟩; have hB3 := hB2.trans (hb2.mono hB2.size); have z2 := z1.below hb2; have r2 := r1.below hb2)
    | (refine st_mc rfl rfl rfl rfl r2 (one_own h.hx) (one_own h.hy) ?_; intro w3 r3 o3 s3; have z3 := z2.onto o3 (by omega); have hB4 := below_onto hB3 o3 (by omega); have ke := (cw r3).e; rw [show m.popd.e = false from he] at ke)
    | (refine st_yes (m' := { m.popd with e := false }) rfl rfl rfl rfl r3 rfl rfl ?_; intro w4 r4 o4 s4; have z4 := z3.onto o4 (by omega); have hB5 := below_onto hB4 o4 (by omega))
    | (refine st_num (m' := { m.popd with pc := m.top, e := false }) rfl rfl rfl rfl r4 rfl rfl ?_; intro w5 r5 o5 s5; have z5 := z4.onto o5 (by omega); have hB6 := below_onto hB5 o5 (by omega))
    | (refine ld_mc rfl rfl rfl r5 ?_)
    | (refine st_mc rfl rfl rfl rfl z5 (one_own h.hx) (one_own h.hy) ?_; intro w6 r6 o6 s6))
  refine ret_mc2 rfl rfl r6 rfl rfl ?_
  have hB7 := below_onto hB6 o6 (by omega)
  exact ⟨rfl, (h.below hB7).as rfl rfl, .of hB7⟩
theorem l7Jump_29_t (hv : v = m.val x y) (h : Ow base w x y m) (hok : m.ok = true) (n : Int) (he : m.e = true) :
    Calls Tryz.prog 238 #[v, .int .i64 29, .int .i64 n] w fun e w' => e = .returned (.tuple #[(m.does n 29).1.val x y, .int .i64 (m.does n 29).2]) ∧ Ow base w' x y (m.does n 29).1 ∧ But y w w' := by
  have hE : Hid ((m.does n 29).1 = { m.popd with pc := m.top, e := true }) := show _ = _ by simp [Mc.does, Mc.popd, he]
  have hE2 : Hid ((m.does n 29).2 = -1) := show _ = _ from rfl
  rw [hE.out, hE2.out]
  go_enter Tryz.func238, Tryz.ntmps238
  go_wp2_with (first
    | (refine box_m rfl rfl hv ?_; intro w0 r0 hB0)
    | (refine al_mc rfl rfl ?_; intro w1 z1 hB1; have r1 := r0.below hB1; have hB2 := hB0.trans (hB1.mono hB0.size); have l0 := r0.lt; have lz := z1.lt; have h1 := h.below hB2)
    | (refine ld_mc rfl rfl rfl r1 ?_)
    | (go_at_call 239; refine (l7Pop_spec rfl h1 hok).mono ?_; rintro e w2 ⟨rfl, h2, hb2⟩; have hB3 := hB2.trans (hb2.mono hB2.size); have z2 := z1.below hb2; have r2 := r1.below hb2)
    | (refine st_mc rfl rfl rfl rfl r2 (one_own h.hx) (one_own h.hy) ?_; intro w3 r3 o3 s3; have z3 := z2.onto o3 (by omega); have hB4 := below_onto hB3 o3 (by omega); have ke := (cw r3).e; rw [show m.popd.e = true from he] at ke)
    | (refine st_yes (m' := { m.popd with e := true }) rfl rfl rfl rfl r3 rfl rfl ?_; intro w4 r4 o4 s4; have z4 := z3.onto o4 (by omega); have hB5 := below_onto hB4 o4 (by omega))
    | (refine st_num (m' := { m.popd with pc := m.top, e := true }) rfl rfl rfl rfl r4 rfl rfl ?_; intro w5 r5 o5 s5; have z5 := z4.onto o5 (by omega); have hB6 := below_onto hB5 o5 (by omega))
    | (refine ld_mc rfl rfl rfl r5 ?_)
    | (refine st_mc rfl rfl rfl rfl z5 (one_own h.hx) (one_own h.hy) ?_; intro w6 r6 o6 s6))
  refine ret_mc2 rfl rfl r6 rfl rfl ?_
  have hB7 := below_onto hB6 o6 (by omega)
  exact ⟨rfl, (h.below hB7).as rfl rfl, .of hB7⟩
theorem l7Jump_29_f (hv : v = m.val x y) (h : Ow base w x y m) (hok : m.ok = true) (n : Int) (he : m.e = false) :
    Calls Tryz.prog 238 #[v, .int .i64 29, .int .i64 n] w fun e w' => e = .returned (.tuple #[(m.does n 29).1.val x y, .int .i64 (m.does n 29).2]) ∧ Ow base w' x y (m.does n 29).1 ∧ But y w w' := by
  have hE : Hid ((m.does n 29).1 = { m.popd with pc := m.top, e := true }) := show _ = _ by simp [Mc.does, Mc.popd, he]
  have hE2 : Hid ((m.does n 29).2 = -1) := show _ = _ from rfl
  rw [hE.out, hE2.out]
  go_enter Tryz.func238, Tryz.ntmps238
  go_wp2_with (first
    | (refine box_m rfl rfl hv ?_; intro w0 r0 hB0)
    | (refine al_mc rfl rfl ?_; intro w1 z1 hB1; have r1 := r0.below hB1; have hB2 := hB0.trans (hB1.mono hB0.size); have l0 := r0.lt; have lz := z1.lt; have h1 := h.below hB2)
    | (refine ld_mc rfl rfl rfl r1 ?_)
    | (go_at_call 239; refine (l7Pop_spec rfl h1 hok).mono ?_; rintro e w2 ⟨rfl, h2, hb2⟩; have hB3 := hB2.trans (hb2.mono hB2.size); have z2 := z1.below hb2; have r2 := r1.below hb2)
    | (refine st_mc rfl rfl rfl rfl r2 (one_own h.hx) (one_own h.hy) ?_; intro w3 r3 o3 s3; have z3 := z2.onto o3 (by omega); have hB4 := below_onto hB3 o3 (by omega); have ke := (cw r3).e; rw [show m.popd.e = false from he] at ke)
    | (refine st_yes (m' := { m.popd with e := true }) rfl rfl rfl rfl r3 rfl rfl ?_; intro w4 r4 o4 s4; have z4 := z3.onto o4 (by omega); have hB5 := below_onto hB4 o4 (by omega))
    | (refine st_num (m' := { m.popd with pc := m.top, e := true }) rfl rfl rfl rfl r4 rfl rfl ?_; intro w5 r5 o5 s5; have z5 := z4.onto o5 (by omega); have hB6 := below_onto hB5 o5 (by omega))
    | (refine ld_mc rfl rfl rfl r5 ?_)
    | (refine st_mc rfl rfl rfl rfl z5 (one_own h.hx) (one_own h.hy) ?_; intro w6 r6 o6 s6))
  refine ret_mc2 rfl rfl r6 rfl rfl ?_
  have hB7 := below_onto hB6 o6 (by omega)
  exact ⟨rfl, (h.below hB7).as rfl rfl, .of hB7⟩
end
end Go.Proofs.YtghmkacamabndaaGreatDoor.Mem
